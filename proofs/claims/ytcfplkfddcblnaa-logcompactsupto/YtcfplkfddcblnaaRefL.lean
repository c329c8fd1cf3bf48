/- The document's own reading of a log (LogEntries). -/
import Derived.Test.YtcfplkfddcblnaaRefE
import Derived.Test.YtcfplkfddcblnaaRefU
import Derived.Test.YtcfplkfddcblnaaLogR
namespace Go.Proofs.Ytcfplkfddcblnaa
open Go.RowKit Go.Shelf

theorem at_mid (s : ByteArray) (A : List UInt8) (c : UInt8) (r : List UInt8) (m : Nat) (hm : m = A.length) (h : s.data.toList = A ++ c :: r) : ∃ hs : m < s.size, s[m] = c := by
  have hz := size_of h
  have hlt : m < s.size := by rw [hz, hm]; simp
  refine ⟨hlt, ?_⟩
  have : s[m] = s.data.toList[m]'(by rw [Array.length_toList]; exact hlt) := rfl
  rw [this, List.getElem_of_eq h]
  subst hm
  simp

/-- What is told of a log from a place on: no entry stands there. -/
def StopAt (s : ByteArray) (m : Nat) : Prop :=
  (m = s.size) ∨ (∃ hm : m < s.size, s[m].toNat ≠ 76) ∨
  (∃ hm : m < s.size, s[m].toNat = 76 ∧ NoNum (s.extract (m + 1) s.size)) ∨
  (∃ hm : m < s.size, ∃ n d : Nat, s[m].toNat = 76 ∧ d ≤ 8 ∧ (∀ w, Calls Try.prog 27 #[.string (s.extract (m + 1) s.size)] w fun e w' => e = .returned (.tuple #[.int .i64 n, .int .i64 d, .int .i64 0]) ∧ w' = w) ∧
    (100000 < n ∧ n ≤ 9007199254740991 ∨ n ≤ 100000 ∧ s.size < m + 1 + d + n + 4 ∨ n ≤ 100000 ∧ m + 1 + d + n + 4 ≤ s.size ∧ (s.extract (m + 1 + d) (m + 1 + d + n)).size = n ∧ ent (s.extract (m + 1 + d) (m + 1 + d + n)).data.toList ≠ (s.extract m (m + 1 + d + n + 4)).data.toList))

theorem stop_at (s : ByteArray) (A r : List UInt8) (m : Nat) (hs : s.size ≤ maxLen) (hm : m = A.length) (h : s.data.toList = A ++ r) (hr : NoEnt r) : StopAt s m := by
  cases r with
  | nil => exact Or.inl (by rw [hm, size_of h]; simp)
  | cons c p =>
    obtain ⟨hms, hc⟩ := at_mid s A c p m hm h
    by_cases h76 : c.toNat = 76
    · have hc76 : c = 76 := UInt8.toNat.inj h76
      subst hc76
      have hX : s.extract (m + 1) s.size = ⟨p.toArray⟩ := by
        have := extract_end s (A ++ [76]) p (by rw [h]; simp)
        rw [← this, hm]
        simp
      by_cases hn : NoNum (s.extract (m + 1) s.size)
      · exact Or.inr (Or.inr (Or.inl ⟨hms, by rw [hc]; rfl, hn⟩))
      · obtain ⟨n, q, hn9, hq⟩ := Classical.not_not.1 hn
        have hq' : p = pk n ++ q := by rw [hX] at hq; simpa using hq
        have h8 := pk_len8 n hn9
        have hsz := size_of h
        simp only [List.length_append, List.length_cons] at hsz
        have hpl : p.length = (pk n).length + q.length := by rw [hq', List.length_append]
        refine Or.inr (Or.inr (Or.inr ⟨hms, n, (pk n).length, by rw [hc]; rfl, h8, fun w => unp_pk _ w n q (by rw [ByteArray.size_extract]; unfold maxLen at *; omega) hn9 hq, ?_⟩))
        by_cases hl : n ≤ 100000
        · by_cases hlen : s.size < m + 1 + (pk n).length + n + 4
          · exact Or.inr (Or.inl ⟨hl, hlen⟩)
          · refine Or.inr (Or.inr ⟨hl, by omega, ?_, ?_⟩)
            · rw [ByteArray.size_extract]; omega
            · have e1 : q = q.take n ++ ((q.drop n).take 4 ++ (q.drop n).drop 4) := by rw [List.take_append_drop, List.take_append_drop]
              have ht : (q.take n).length = n := by rw [List.length_take]; omega
              have h4 : ((q.drop n).take 4).length = 4 := by rw [List.length_take, List.length_drop]; omega
              have hS : s.data.toList = (A ++ (76 :: pk n)) ++ (q.take n ++ ((q.drop n).take 4 ++ (q.drop n).drop 4)) := by rw [← e1, h, hq']; simp
              rw [extract_part s (A ++ (76 :: pk n)) (q.take n) ((q.drop n).take 4 ++ (q.drop n).drop 4) _ _ (by simp; omega) (by rw [ht]; simp; omega) hS]
              rw [extract_part s A (76 :: (pk n ++ (q.take n ++ (q.drop n).take 4))) ((q.drop n).drop 4) _ _ hm (by simp only [List.length_cons, List.length_append]; rw [ht, h4]; omega) (by rw [hS]; simp)]
              intro he
              refine hr ⟨q.take n, (q.drop n).drop 4, by omega, ?_⟩
              have he' : ent (q.take n) = 76 :: (pk n ++ (q.take n ++ (q.drop n).take 4)) := by simpa using he
              rw [he', hq']
              simp only [List.cons_append, List.append_assoc]
              rw [← e1]
        · exact Or.inl ⟨by omega, hn9⟩
    · exact Or.inr (Or.inl ⟨hms, by rw [hc]; exact h76⟩)

set_option maxHeartbeats 8000000 in
set_option maxRecDepth 100000 in
theorem LogEntries_any (s : ByteArray) (l : List (List UInt8)) (r : List UInt8) (w : World) (hs : s.size ≤ 1099511627776) (h : s.data.toList = flat l ++ r) (hl : Short l) (hr : NoEnt r) :
    Calls Try.prog 14 #[.string s] w fun e w' => ∃ v, e = .returned (.tuple #[v, .int .i64 ((flat l).length : Nat)]) ∧ w'.ownsRow w.heap.size 9 1 v l.length (strs l) ∧ Below w.heap.size w w' := by
  obtain ⟨i0, hi, hz0, hz1, hz2⟩ := info_parts infS
  have HH : Hid (s.data.toList = flat l ++ r) := h
  have HL : Hid (Short l) := hl
  have HR : Hid (NoEnt r) := hr
  have hsl : (flat l).length ≤ s.size := by rw [size_of h, List.length_append]; omega
  have hll : 6 * l.length ≤ s.size := Nat.le_trans (flat_len l) hsl
  have hsi : (s.size : Int) ≤ 1099511627776 := by omega
  clear h hl hr
  go_enter Try.func14, Try.ntmps14
  go_wp2
  go_loopw [4, 5] (fun v i wr => ∃ k : Nat, k ≤ l.length ∧ i = .int .i64 ((flat (l.take k)).length : Nat) ∧ wr.ownsRow w.heap.size 9 1 v k (strs (l.take k)) ∧ Below w.heap.size w wr) (fun _ i _ => s.size - (intOf i).toNat)
  case atStart => exact ⟨0, Nat.zero_le _, rfl, ⟨by simp [strs], Or.inl ⟨rfl, rfl⟩⟩, Below.refl _ _⟩
  case round =>
    obtain ⟨k, hk, rfl, hok, hbr⟩ := hrel
    have HB : Hid (Below w.heap.size w wr) := hbr
    have hwr := hbr.size
    clear hbr
    have hE : ∃ m : Nat, (flat (l.take k)).length = m ∧ m ≤ s.size := ⟨_, rfl, by
      have := congrArg List.length (flat_drop l [] k)
      simp at this
      omega⟩
    obtain ⟨m, hm, hms⟩ := hE
    have HD0 : Hid (s.data.toList = flat (l.take k) ++ (flat (l.drop k) ++ r)) := by show _ = _; rw [HH.out]; exact flat_drop l r k
    have HM2 : Hid ((flat (l.take k)).length = m) := hm
    rw [hm]
    clear hm
    by_cases hlt : k < l.length
    · obtain ⟨t, ht⟩ : ∃ t, l[k]? = some t := ⟨l[k], List.getElem?_eq_getElem hlt⟩
      have HD : Hid (l.drop k = t :: l.drop (k + 1) ∧ l.take (k + 1) = l.take k ++ [t] ∧ (flat (l.take (k + 1))).length = m + (ent t).length ∧ t.length ≤ 100000) := by
        obtain ⟨h', rfl⟩ := List.getElem?_eq_some_iff.1 ht
        exact ⟨List.drop_eq_getElem_cons h', List.take_succ_eq_append_getElem h', by rw [flat_take l k h', HM2.out], HL.out _ (List.getElem_mem h')⟩
      clear ht
      obtain ⟨A, hA⟩ : ∃ A, A = flat (l.take k) := ⟨_, rfl⟩
      obtain ⟨R, hR⟩ : ∃ R, R = flat (l.drop (k + 1)) ++ r := ⟨_, rfl⟩
      have hS : s.data.toList = A ++ (ent t ++ R) := by rw [HD0.out, HD.out.1, hA, hR]; simp [flat]
      have hAm : m = A.length := by rw [hA, HM2.out]
      clear hA hR
      have hsz := size_of hS
      simp only [List.length_append, ent_len] at hsz
      obtain ⟨hmlt, hc⟩ := at_mid s A 76 (pk t.length ++ (t ++ le4 (crc t)) ++ R) m hAm (by rw [hS]; simp [ent])
      have h76 : ((s[m].toNat : Int) == 76) = true := by rw [hc]; rfl
      have hn := HD.out.2.2.2
      have h8 := pk_len8 t.length (by omega)
      have hp1 := pk_pos t.length
      have HE : Hid ((ent t).length = 1 + (pk t.length).length + t.length + 4) := ent_len t
      obtain ⟨x, hx⟩ : ∃ x, x = s.extract (m + 1) s.size := ⟨_, rfl⟩
      obtain ⟨t0, ht0⟩ : ∃ x : ByteArray, x = ⟨t.toArray⟩ := ⟨_, rfl⟩
      obtain ⟨e0, he0⟩ : ∃ x : ByteArray, x = ⟨(ent t).toArray⟩ := ⟨_, rfl⟩
      have HU : Hid (∀ w, Calls Try.prog 27 #[.string x] w fun e w' => e = .returned (.tuple #[.int .i64 t.length, .int .i64 (pk t.length).length, .int .i64 0]) ∧ w' = w) := fun w => by
        refine unp_pk x w t.length (t ++ le4 (crc t) ++ R) ?_ (by omega) ?_
        · rw [hx, ByteArray.size_extract]; unfold maxLen; omega
        · have := extract_end s (A ++ [76]) (pk t.length ++ (t ++ le4 (crc t) ++ R)) (by rw [hS]; simp [ent])
          rw [hx, show m + 1 = (A ++ [76]).length from by simp [hAm], this]
      have HEn : Hid (∀ w, Calls Try.prog 10 #[.string t0] w fun e w' => e = .returned (.string e0) ∧ Below w.heap.size w w') := fun w => by
        have := EntryOf_any t0 w (by rw [ht0, size_of (l := t) rfl]; omega)
        rw [ht0] at this ⊢
        rw [he0]
        simpa using this
      generalize hd : (pk t.length).length = d at h8 hp1 HU hsz HE
      generalize htl : t.length = n at hn HU hsz HE
      have hs1 := sub_from s (m + 1) ((m : Int) + 1) (by omega) (by omega)
      rw [← hx] at hs1
      have hs2 : ∀ W : World, (Instr.slice 9 (.string s) (some (.int .i64 ((m : Int) + 1 + (d : Int)))) (some (.int .i64 ((m : Int) + 1 + (d : Int) + (n : Int)))) none).run Try.prog W = .ok (.string t0) W := fun W => by
        rw [sub_mid s (m + 1 + d) (m + 1 + d + n) _ _ (by omega) (by omega) (by omega) (by omega) W, ht0]
        rw [extract_part s (A ++ (76 :: pk t.length)) t (le4 (crc t) ++ R) _ _ (by simp only [List.length_append, List.length_cons]; rw [hd]; omega) (by simp only [List.length_append, List.length_cons]; rw [hd, htl]; omega) (by rw [hS]; simp [ent])]
      have hs3 : ∀ W : World, (Instr.slice 9 (.string s) (some (.int .i64 (m : Int))) (some (.int .i64 ((m : Int) + 1 + (d : Int) + (n : Int) + 4))) none).run Try.prog W = .ok (.string e0) W := fun W => by
        rw [sub_mid s m (m + 1 + d + n + 4) _ _ (by omega) (by omega) (by omega) (by omega) W, he0]
        rw [extract_part s A (ent t) R _ _ hAm (by rw [HE.out]; omega) hS]
      have hmi : (m : Int) < (s.size : Int) := by omega
      have hni : (n : Int) ≤ 100000 := by omega
      have hdi : (d : Int) ≤ 8 := by omega
      have hle : (m : Int) + 1 + (d : Int) + (n : Int) + 4 ≤ (s.size : Int) := by omega
      have wA : IntKind.i64.wrap ((m : Int) + 1 + (d : Int) + (n : Int)) = (m : Int) + 1 + (d : Int) + (n : Int) := wraps_i64 _ (by omega) (by omega)
      have wB : IntKind.i64.wrap ((m : Int) + 1 + (d : Int) + (n : Int) + 4) = (m : Int) + 1 + (d : Int) + (n : Int) + 4 := wraps_i64 _ (by omega) (by omega)
      have heq : (e0.toList == e0.toList) = true := by simp
      have HT0 : Hid (t0 = ⟨t.toArray⟩) := ht0
      have HAT : Hid ((flat (l.take (k + 1))).length = m + 1 + d + n + 4) := by show _ = _; rw [HD.out.2.2.1, HE.out]; omega
      clear hS hAm hsz hc h8 hp1 hx ht0 he0 hd htl HE hn
      go_wp2_with fail
      refine (HU.out _).mono ?_
      rintro e w1 ⟨rfl, rfl⟩
      go_wp2
      go_region_with (go_at_call 10; refine (HEn.out _).mono ?_; rintro e w3 ⟨rfl, hb3⟩)
      all_goals
        have hb4 : Below w1.heap.size w1 w3 := (Below.refl w1.heap.size w1).drew.trans hb3
        have B3 : Hid (Below w.heap.size w w3) := HB.out.trans (hb4.mono HB.out.size)
        have hok3 := own_below hok hb4
        have hw3 := hb4.size
        clear hb3 hb4 hok HU HEn
        go_wp2_with (at_builtin; refine wpList_append_own _ rfl _ _ 29 rfl w.heap.size 9 i0 (.string ⟨#[]⟩) 1 16 Try.underlying29 hi hz0 hz1 hz2 rfl (by decide) _ _ _ rfl (hok3.alloc _) ⟨w3.heap.size, 0, none⟩ 1 1 [.string t0] rfl rfl ?c1 ?c2 ?c3 ?c4 ?c5 ?_)
        case c1 =>
          intro j u hj
          match j, hj with
          | 0, hj => simp at hj; subst hj; simp [Addr.add]
        case c2 => intro u hu; simp at hu; subst hu; rfl
        case c3 => unfold maxLen; omega
        case c4 => omega
        case c5 => simp; omega
        intro v' w5 hown5 hg5 _
        have hrow : ∀ j, Value.ownBlock _ = some j → w.heap.size ≤ j := fun j hj => (hok3.lt j hj).1
        have HB5 : Hid (Below w.heap.size w w5) := (B3.out.alloc B3.out.size _).grown hg5 (by have := B3.out.size; simp; omega) (fun j hj => hrow j hj)
        have HO : Hid (w5.ownsRow w.heap.size 9 1 v' (k + 1) (strs (l.take (k + 1)))) := by
          rw [HD.out.2.1, strs_snoc, ← HT0.out]
          exact hown5
        clear hown5 hg5 hok3 hrow
        go_wp2
        refine ⟨⟨k + 1, by omega, ?_, HO.out, HB5.out⟩, by simp [intOf]; omega⟩
        rw [HAT.out]
        go_num
    · obtain rfl : k = l.length := by omega
      have HM3 : Hid ((flat l).length = m) := by
        have := HM2.out
        rwa [List.take_length] at this
      have HO : Hid (wr.ownsRow w.heap.size 9 1 u4 l.length (strs l)) := by
        have := hok
        rwa [List.take_length] at this
      have hst : StopAt s m := stop_at s (flat l) r m (by unfold maxLen; omega) HM3.out.symm HH.out HR.out
      clear hok HD0 HM2
      rcases hst with hst | ⟨hm, hne⟩ | ⟨hm, h76, hno⟩ | ⟨hm, n, d, h76, hd8, hU, hcase⟩
      · have hge : (s.size : Int) ≤ (m : Int) := by omega
        go_wp2
        go_ret2
        exact ⟨_, by rw [HM3.out]; rfl, HO.out, HB.out⟩
      · have hmi : (m : Int) < (s.size : Int) := by omega
        have h0 : ((s[m].toNat : Int) == 76) = false := by simp; omega
        go_wp2
        go_ret2
        exact ⟨_, by rw [HM3.out]; rfl, HO.out, HB.out⟩
      · have hmi : (m : Int) < (s.size : Int) := by omega
        have h0 : ((s[m].toNat : Int) == 76) = true := by rw [h76]; rfl
        have hs1 := sub_from s (m + 1) ((m : Int) + 1) (by omega) (by omega)
        have HU : Hid (∀ w, Calls Try.prog 27 #[.string (s.extract (m + 1) s.size)] w fun e w' => (∃ k : Int, (k != 0) = true ∧ e = .returned (.tuple #[.int .i64 0, .int .i64 0, .int .i64 k])) ∧ w' = w) := fun w => unp_no _ w (by rw [ByteArray.size_extract]; unfold maxLen; omega) hno
        generalize s.extract (m + 1) s.size = x at hs1 HU
        clear hno h76
        go_wp2_with fail
        refine (HU.out _).mono ?_
        rintro e w1 ⟨⟨q, hq, rfl⟩, rfl⟩
        go_wp2
        go_ret2
        exact ⟨_, by rw [HM3.out]; rfl, HO.out, HB.out⟩
      · have hmi : (m : Int) < (s.size : Int) := by omega
        have h0 : ((s[m].toNat : Int) == 76) = true := by rw [h76]; rfl
        have hs1 := sub_from s (m + 1) ((m : Int) + 1) (by omega) (by omega)
        have HU : Hid (∀ w, Calls Try.prog 27 #[.string (s.extract (m + 1) s.size)] w fun e w' => e = .returned (.tuple #[.int .i64 n, .int .i64 d, .int .i64 0]) ∧ w' = w) := hU
        have hdi : (d : Int) ≤ 8 := by omega
        generalize s.extract (m + 1) s.size = x at hs1 HU
        clear hU h76
        rcases hcase with ⟨hn, hn9⟩ | ⟨hn, hlen⟩ | ⟨hn, hlen, hzt, hne⟩
        · have hni : (100000 : Int) < (n : Int) := by omega
          clear hn hd8
          go_wp2_with fail
          refine (HU.out _).mono ?_
          rintro e w1 ⟨rfl, rfl⟩
          go_wp2
          go_ret2
          exact ⟨_, by rw [HM3.out]; rfl, HO.out, HB.out⟩
        · have hni : (n : Int) ≤ 100000 := by omega
          have hgt : (s.size : Int) < (m : Int) + 1 + (d : Int) + (n : Int) + 4 := by omega
          clear hn hd8 hlen
          go_wp2_with fail
          refine (HU.out _).mono ?_
          rintro e w1 ⟨rfl, rfl⟩
          go_wp2
          go_ret2
          exact ⟨_, by rw [HM3.out]; rfl, HO.out, HB.out⟩
        · have hni : (n : Int) ≤ 100000 := by omega
          have hle : (m : Int) + 1 + (d : Int) + (n : Int) + 4 ≤ (s.size : Int) := by omega
          have hs2 := sub_mid s (m + 1 + d) (m + 1 + d + n) ((m : Int) + 1 + (d : Int)) ((m : Int) + 1 + (d : Int) + (n : Int)) (by omega) (by omega) (by omega) (by omega)
          have hs3 := sub_mid s m (m + 1 + d + n + 4) (m : Int) ((m : Int) + 1 + (d : Int) + (n : Int) + 4) (by omega) (by omega) (by omega) (by omega)
          have HEn : Hid (∀ w, Calls Try.prog 10 #[.string (s.extract (m + 1 + d) (m + 1 + d + n))] w fun e w' => e = .returned (.string ⟨(ent (s.extract (m + 1 + d) (m + 1 + d + n)).data.toList).toArray⟩) ∧ Below w.heap.size w w') := fun w => EntryOf_any _ w (by omega)
          generalize hE0 : (⟨(ent (s.extract (m + 1 + d) (m + 1 + d + n)).data.toList).toArray⟩ : ByteArray) = e0 at HEn
          have heq : (e0.toList == (s.extract m (m + 1 + d + n + 4)).toList) = false := by
            rw [beq_eq_false_iff_ne, Lib.toList_data, Lib.toList_data, ← hE0]
            exact hne
          generalize s.extract (m + 1 + d) (m + 1 + d + n) = t0 at hs2 HEn
          generalize s.extract m (m + 1 + d + n + 4) = q0 at hs3 heq
          have wA : IntKind.i64.wrap ((m : Int) + 1 + (d : Int) + (n : Int)) = (m : Int) + 1 + (d : Int) + (n : Int) := wraps_i64 _ (by omega) (by omega)
          have wB : IntKind.i64.wrap ((m : Int) + 1 + (d : Int) + (n : Int) + 4) = (m : Int) + 1 + (d : Int) + (n : Int) + 4 := wraps_i64 _ (by omega) (by omega)
          clear hn hd8 hlen hzt hne hE0
          go_wp2_with fail
          refine (HU.out _).mono ?_
          rintro e w1 ⟨rfl, rfl⟩
          go_wp2
          go_region_with (go_at_call 10; refine (HEn.out _).mono ?_; rintro e w3 ⟨rfl, hb3⟩)
          all_goals
            have hb4 : Below w1.heap.size w1 w3 := (Below.refl w1.heap.size w1).drew.trans hb3
            have B3 : Hid (Below w.heap.size w w3) := HB.out.trans (hb4.mono HB.out.size)
            have O3 : Hid (w3.ownsRow w.heap.size 9 1 u4 l.length (strs l)) := own_below HO.out hb4
            clear hb3 hb4
            go_wp2
            go_ret2
            exact ⟨_, by rw [HM3.out]; rfl, O3.out, B3.out⟩
end Go.Proofs.Ytcfplkfddcblnaa
