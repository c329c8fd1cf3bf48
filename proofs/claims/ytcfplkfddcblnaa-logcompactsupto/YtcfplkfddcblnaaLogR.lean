/- What the log's Check, Append and Read answer. -/
import Derived.Test.YtcfplkfddcblnaaLogF
import Derived.Test.YtcfplkfddcblnaaSame
namespace Go.Proofs.Ytcfplkfddcblnaa
open Go.RowKit Go.Shelf

/-- The world where the array of shifts has been laid into a block of its own. -/
def madeW (w : World) : World := (w.alloc (.cells zc256 45)).setCells w.heap.size 0 (nums (tab 256))
theorem made_there (w : World) : (w.alloc (.cells zc256 45)).there w.heap.size 0 256 := (ArrAt.new w 45 zeros256).there 256 (by rw [zeros256, List.length_replicate])
theorem made_tab (w : World) : TabAt (madeW w) w.heap.size := fun j hj => by
  have h : (madeW w).rangeAt w.heap.size 0 (nums (tab 256)) := World.rangeAt_setCells_same _ _ _ _ (by rw [nums_len, tab_len]; exact made_there w)
  have := h j (.int .u32 ((shN 8 j : Nat) : Int)) (by simp [nums, tab, hj])
  rwa [Nat.zero_add] at this
theorem made_below (w : World) : Below w.heap.size w (madeW w) := below_setCells (Nat.le_refl _) _ _ ((Below.refl _ _).alloc (Nat.le_refl _) _)
/-- What is known of a world in which it has been laid. -/
def Made (w W : World) : Prop := TabAt W w.heap.size ∧ Below w.heap.size w W
theorem made_is (w : World) : Made w (madeW w) := ⟨made_tab w, made_below w⟩
/-- The array's cells, as a letter: no walk is to open them. -/
theorem made_ex : ∃ C : Array Value, arr (tab 256) = .agg C ∧ (Try.prog.info? 45).map (·.size) = some C.size ∧ C.all (·.oneCell') = true ∧ ∀ w : World, (w.alloc (.cells zc256 45)).there w.heap.size 0 C.size ∧ Made w ((w.alloc (.cells zc256 45)).setCells w.heap.size 0 C.toList) := by
  have hz : (nums (tab 256)).toArray.size = 256 := by rw [List.size_toArray, nums_len, tab_len]
  exact ⟨(nums (tab 256)).toArray, rfl, by rw [info256, hz], nums_one _, fun w => ⟨by rw [hz]; exact made_there w, made_is w⟩⟩

set_option maxHeartbeats 2000000 in
set_option maxRecDepth 100000 in
theorem Check_any (s : ByteArray) (w : World) (hs : s.size ≤ 281474976710656) :
    Calls Try.prog 24 #[.string s] w fun e w' => e = .returned (.int .i64 (crc s.data.toList : Nat)) ∧ Below w.heap.size w w' := by
  have hz := zero256
  have hne := zc256_ne
  have hcl := crc_lt s.data.toList
  obtain ⟨C, hM⟩ := made_ex
  have HM : Hid _ := hM
  clear hM
  go_enter Try.func24, Try.ntmps24
  go_wp2_with fail
  refine (newShifts_any w).mono ?_
  rintro e w1 ⟨rfl, hb1⟩
  have B1 : Hid (Below w.heap.size w w1) := hb1
  clear hb1
  rw [HM.out.1]
  go_wp2_with (refine wpList_store_any rfl 45 (Operand.tmp 3) (Operand.tmp 4) rfl w1.heap.size 0 C rfl rfl (HM.out.2.2.2 w1).1 HM.out.2.1 HM.out.2.2.1 (Made w1) (HM.out.2.2.2 w1).2 ?_; intro w2 hF; simp only [Act.put])
  obtain ⟨hT, hb2⟩ := hF
  go_wp2_with fail
  refine (chk_any w1.heap.size s w2 hs hT).mono ?_
  rintro e w3 ⟨rfl, hb3⟩
  have B3 : Hid (Below w.heap.size w w3) := B1.out.trans ((hb2.trans (hb3.mono hb2.size)).mono B1.out.size)
  clear hb2 hb3 hT hz hne
  generalize hc : crc s.data.toList = c at hcl
  have HC : Hid (crc s.data.toList = c) := hc
  clear hc
  go_wp2
  go_ret
  exact ⟨by rw [HC.out]; rfl, B3.out⟩

set_option maxHeartbeats 1000000 in
theorem tooLong_any (s : ByteArray) (w : World) : Calls Try.prog 19 #[.string s] w fun e w' => e = .returned (.bool (decide (100000 < s.size))) ∧ w' = w := by
  go_enter Try.func19, Try.ntmps19
  go_wp2
  go_ret
  refine ⟨?_, rfl⟩
  simp
  omega

set_option maxHeartbeats 2000000 in
set_option maxRecDepth 100000 in
theorem Append_no (s x : ByteArray) (w : World) (hx : 100000 < x.size) :
    Calls Try.prog 9 #[.string s, .string x] w fun e w' => e = .returned (.tuple #[.string ⟨#[]⟩, .int .i64 2]) ∧ w' = w := by
  have hd : decide (100000 < x.size) = true := by simpa using hx
  clear hx
  go_enter Try.func9, Try.ntmps9
  go_wp2_with (go_at_call 19; refine (tooLong_any _ _).mono ?_; rintro e w' ⟨rfl, rfl⟩; rw [hd])
  go_ret2
  exact ⟨rfl, rfl⟩

set_option maxHeartbeats 2000000 in
set_option maxRecDepth 100000 in
theorem Append_yes (s x : ByteArray) (w : World) (hs : s.size ≤ 4611686018427387904) (hx : x.size ≤ 100000) :
    Calls Try.prog 9 #[.string s, .string x] w fun e w' => e = .returned (.tuple #[.string ⟨(s.data.toList ++ ent x.data.toList).toArray⟩, .int .i64 0]) ∧ Below w.heap.size w w' := by
  have hd : decide (100000 < x.size) = false := by simpa using hx
  have hz := zero256
  have hne := zc256_ne
  obtain ⟨C, hM⟩ := made_ex
  have HM : Hid _ := hM
  obtain ⟨x1, h1⟩ : ∃ y : ByteArray, y = ⟨(ent x.data.toList).toArray⟩ := ⟨_, rfl⟩
  obtain ⟨x2, h2⟩ : ∃ y : ByteArray, y = ⟨(s.data.toList ++ ent x.data.toList).toArray⟩ := ⟨_, rfl⟩
  have k1 := cat2 s x1 x2 (by rw [h1, h2]) (by
    rw [h1, size_of (s := ⟨(ent x.data.toList).toArray⟩) (l := ent x.data.toList) rfl, ent_len]
    have := size_of (s := x) rfl
    have h8 := pk_len8 x.data.toList.length (by omega)
    omega)
  have H2 : Hid (x2 = ⟨(s.data.toList ++ ent x.data.toList).toArray⟩) := h2
  have HE : Hid (∀ b w1, TabAt w1 b → Calls Try.prog 21 #[.pointer (some ⟨b, 0, none⟩), .string x] w1 fun e w' => e = .returned (.string x1) ∧ Below w1.heap.size w1 w') := fun b w1 h => by rw [h1]; exact entry_any b x w1 (by omega) h
  clear hM h1 h2 hx
  go_enter Try.func9, Try.ntmps9
  go_wp2_with (go_at_call 19; refine (tooLong_any _ _).mono ?_; rintro e w' ⟨rfl, rfl⟩; rw [hd])
  refine (newShifts_any _).mono ?_
  rintro e w1 ⟨rfl, hb1⟩
  have B1 : Hid (Below w'.heap.size w' w1) := hb1
  clear hb1
  rw [HM.out.1]
  go_wp2_with (refine wpList_store_any rfl 45 (Operand.tmp 6) (Operand.tmp 9) rfl w1.heap.size 0 C rfl rfl (HM.out.2.2.2 w1).1 HM.out.2.1 HM.out.2.2.1 (Made w1) (HM.out.2.2.2 w1).2 ?_; intro w2 hF; simp only [Act.put])
  obtain ⟨hT, hb2⟩ := hF
  go_wp2_with fail
  refine (HE.out _ w2 hT).mono ?_
  rintro e w3 ⟨rfl, hb3⟩
  have B3 : Hid (Below w'.heap.size w' w3) := B1.out.trans ((hb2.trans (hb3.mono hb2.size)).mono B1.out.size)
  clear hb2 hb3 hT hz hne
  go_wp2
  go_ret2
  exact ⟨by rw [← H2.out]; rfl, B3.out⟩

theorem own_below {w w' : World} {base : Nat} {e : TypeId} {size : Nat} {v : Value} {n : Nat} {xs : List Value} (h : w.ownsRow base e size v n xs) (hb : Below w.heap.size w w') : w'.ownsRow base e size v n xs := by
  refine ⟨h.1, ?_⟩
  rcases h.2 with hn | ⟨g, cap, cur, rfl, hg, hgg, rest⟩
  · exact .inl hn
  · exact .inr ⟨g, cap, cur, rfl, hg, (hb.block g (Array.getElem?_eq_some_iff.1 hgg).1).trans hgg, rest⟩
theorem strs_snoc (l : List (List UInt8)) (t : List UInt8) : strs (l ++ [t]) = strs l ++ [.string ⟨t.toArray⟩] := by simp [strs]
theorem flat_take (l : List (List UInt8)) (k : Nat) (hk : k < l.length) : (flat (l.take (k + 1))).length = (flat (l.take k)).length + (ent l[k]).length := by
  rw [List.take_succ_eq_append_getElem hk, flat_snoc, List.length_append]
theorem flat_drop (l : List (List UInt8)) (r : List UInt8) (k : Nat) : flat l ++ r = flat (l.take k) ++ (flat (l.drop k) ++ r) := by
  rw [← List.append_assoc, ← flat_append, List.take_append_drop]

set_option maxHeartbeats 4000000 in
set_option maxRecDepth 100000 in
theorem Read_any (s : ByteArray) (l : List (List UInt8)) (r : List UInt8) (w : World) (hs : s.size ≤ 1099511627776) (h : s.data.toList = flat l ++ r) (hl : Short l) (hr : NoEnt r) :
    Calls Try.prog 13 #[.string s] w fun e w' => ∃ v, e = .returned (.tuple #[v, .int .i64 ((flat l).length : Nat)]) ∧ w'.ownsRow w.heap.size 9 1 v l.length (strs l) ∧ Below w.heap.size w w' := by
  have hz := zero256
  have hne := zc256_ne
  obtain ⟨C, hM⟩ := made_ex
  have HM : Hid _ := hM
  obtain ⟨i0, hi, hz0, hz1, hz2⟩ := info_parts infS
  have HH : Hid (s.data.toList = flat l ++ r) := h
  have HL : Hid (Short l) := hl
  have HR : Hid (NoEnt r) := hr
  have hsl : (flat l).length ≤ s.size := by rw [size_of h, List.length_append]; omega
  have hll : 6 * l.length ≤ s.size := Nat.le_trans (flat_len l) hsl
  clear hM h hl hr
  go_enter Try.func13, Try.ntmps13
  go_wp2_with fail
  refine (newShifts_any w).mono ?_
  rintro e w1 ⟨rfl, hb1⟩
  have B1 : Hid (Below w.heap.size w w1) := hb1
  have hw1 := hb1.size
  clear hb1
  rw [HM.out.1]
  go_wp2_with (refine wpList_store_any rfl 45 (Operand.tmp 4) (Operand.tmp 10) rfl w1.heap.size 0 C rfl rfl (HM.out.2.2.2 w1).1 HM.out.2.1 HM.out.2.2.1 (Made w1) (HM.out.2.2.2 w1).2 ?_; intro w2 hF; simp only [Act.put])
  obtain ⟨hT, hb2⟩ := hF
  have T2 : Hid (TabAt w2 w1.heap.size) := hT
  have B2 : Hid (Below w.heap.size w w2) := B1.out.trans (hb2.mono B1.out.size)
  have hw2 : w1.heap.size + 1 ≤ w2.heap.size := hT.lt
  clear hb2 hT hz hne
  go_wp2
  go_loopw [5, 6] (fun v i wr => ∃ k : Nat, k ≤ l.length ∧ i = .int .i64 ((flat (l.take k)).length : Nat) ∧ wr.ownsRow (w1.heap.size + 1) 9 1 v k (strs (l.take k)) ∧ TabAt wr w1.heap.size ∧ Below w.heap.size w wr) (fun _ i _ => s.size - (intOf i).toNat)
  case atStart => exact ⟨0, Nat.zero_le _, rfl, ⟨by simp [strs], Or.inl ⟨rfl, rfl⟩⟩, T2.out, B2.out⟩
  case round =>
    clear T2 B2 hw2
    obtain ⟨k, hk, rfl, hok, hTr, hbr⟩ := hrel
    have HT : Hid (TabAt wr w1.heap.size) := hTr
    have HB : Hid (Below w.heap.size w wr) := hbr
    have hwr : w1.heap.size + 1 ≤ wr.heap.size := hTr.lt
    clear hTr hbr
    have hE : ∃ m : Nat, (flat (l.take k)).length = m ∧ m ≤ s.size := ⟨_, rfl, by
      have := congrArg List.length (flat_drop l [] k)
      simp at this
      omega⟩
    obtain ⟨m, hm, hms⟩ := hE
    have HX : Hid (s.extract m s.size = ⟨(flat (l.drop k) ++ r).toArray⟩) := by
      show _ = _
      rw [← hm]
      exact extract_end s (flat (l.take k)) (flat (l.drop k) ++ r) (by rw [HH.out]; exact flat_drop l r k)
    have hsb := sub_from s m (m : Int) rfl hms
    have hzx : (s.extract m s.size).size ≤ s.size := by rw [ByteArray.size_extract]; omega
    have HM2 : Hid ((flat (l.take k)).length = m) := hm
    rw [hm]
    clear hm
    generalize hx : s.extract m s.size = x at hsb HX hzx
    clear hx
    by_cases hlt : k < l.length
    · obtain ⟨t, ht⟩ : ∃ t, l[k]? = some t := ⟨l[k], List.getElem?_eq_getElem hlt⟩
      have HD : Hid (l.drop k = t :: l.drop (k + 1) ∧ l.take (k + 1) = l.take k ++ [t] ∧ (flat (l.take (k + 1))).length = m + (ent t).length ∧ t.length ≤ 100000) := by
        obtain ⟨h', rfl⟩ := List.getElem?_eq_some_iff.1 ht
        exact ⟨List.drop_eq_getElem_cons h', List.take_succ_eq_append_getElem h', by rw [flat_take l k h', HM2.out], HL.out _ (List.getElem_mem h')⟩
      clear ht
      have hme : m + (ent t).length ≤ s.size := by
        have h1 := HD.out.2.2.1
        have := congrArg List.length (flat_drop l [] (k + 1))
        simp at this
        omega
      have hep := ent_pos t
      generalize he : (ent t).length = n at hme hep
      have HE : Hid ((ent t).length = n) := he
      have htl : (⟨t.toArray⟩ : ByteArray).size ≤ 100000 := Nat.le_trans (Nat.le_of_eq (size_of rfl)) HD.out.2.2.2
      clear he
      have HF : Hid (Calls Try.prog 25 #[.pointer (some ⟨w1.heap.size, 0, none⟩), .string x] wr fun e w' => e = .returned (.tuple #[.string ⟨t.toArray⟩, .int .i64 (n : Nat), .bool true]) ∧ Below wr.heap.size wr w') := by
        have := fe_yes w1.heap.size x t (flat (l.drop (k + 1)) ++ r) wr HT.out (by omega) (by rw [HX.out, HD.out.1]; simp [flat]) HD.out.2.2.2
        rwa [HE.out] at this
      go_wp2_with fail
      refine HF.out.mono ?_
      rintro e w3 ⟨rfl, hb3⟩
      have B3 : Hid (Below w.heap.size w w3) := HB.out.trans (hb3.mono HB.out.size)
      have T3 : Hid (TabAt w3 w1.heap.size) := HT.out.up hb3 hwr
      have hok3 := own_below hok hb3
      have hw3 := hb3.size
      clear hb3 hok HF
      go_wp2_with fail
      refine (clone_any ⟨t.toArray⟩ w3 (by omega)).mono ?_
      rintro e w4 ⟨rfl, hb4⟩
      have B4 : Hid (Below w.heap.size w w4) := B3.out.trans (hb4.mono B3.out.size)
      have T4 : Hid (TabAt w4 w1.heap.size) := T3.out.up hb4 (by omega)
      have hok4 := own_below hok3 hb4
      have hw4 := hb4.size
      clear hb4 hok3
      go_wp2_with (at_builtin; refine wpList_append_own _ rfl _ _ 29 rfl (w1.heap.size + 1) 9 i0 (.string ⟨#[]⟩) 1 16 Try.underlying29 hi hz0 hz1 hz2 rfl (by decide) _ _ _ rfl (hok4.alloc _) ⟨w4.heap.size, 0, none⟩ 1 1 [.string ⟨t.toArray⟩] rfl rfl ?c1 ?c2 ?c3 ?c4 ?c5 ?_)
      case c1 =>
        intro j u hj
        match j, hj with
        | 0, hj => simp at hj; subst hj; simp [Addr.add]
      case c2 => intro u hu; simp at hu; subst hu; rfl
      case c3 => unfold maxLen; omega
      case c4 => omega
      case c5 => simp; omega
      intro v' w5 hown5 hg5 _
      have hrow : ∀ j, Value.ownBlock u5 = some j → w1.heap.size + 1 ≤ j := fun j hj => (hok4.lt j hj).1
      have HB5 : Hid (Below w.heap.size w w5) := (B4.out.alloc B4.out.size _).grown hg5 (by have := B4.out.size; simp; omega) (fun j hj => by have := hrow j hj; omega)
      have HT5 : Hid (TabAt w5 w1.heap.size) := fun j hj => by
        rw [World.cell?_of_block (w := w4) ((hg5.block w1.heap.size (by simp; omega) (fun e => by have := hrow _ e.symm; omega)).trans (Below.heap_alloc w4 _ _ (by omega)))]
        exact T4.out j hj
      have HO : Hid (w5.ownsRow (w1.heap.size + 1) 9 1 v' (k + 1) (strs (l.take (k + 1)))) := by
        rw [HD.out.2.1, strs_snoc]
        exact hown5
      clear hown5 hg5 hok4 hrow T4 B4
      have hsi : (s.size : Int) ≤ 1099511627776 := by omega
      have hmi : (m : Int) + (n : Int) ≤ s.size := by omega
      go_wp2
      refine ⟨⟨k + 1, by omega, ?_, HO.out, HT5.out, HB5.out⟩, by simp [intOf]; omega⟩
      rw [HD.out.2.2.1, HE.out]
      go_num
    · obtain rfl : k = l.length := by omega
      have HF : Hid (Calls Try.prog 25 #[.pointer (some ⟨w1.heap.size, 0, none⟩), .string x] wr fun e w' => e = .returned (.tuple #[.string ⟨#[]⟩, .int .i64 0, .bool false]) ∧ Below wr.heap.size wr w') :=
        fe_no w1.heap.size x (by omega) (by rw [HX.out]; simpa [flat] using HR.out) wr HT.out
      go_wp2_with fail
      refine HF.out.mono ?_
      rintro e w3 ⟨rfl, hb3⟩
      have B3 : Hid (Below w.heap.size w w3) := HB.out.trans (hb3.mono HB.out.size)
      have O3 : Hid (w3.ownsRow w.heap.size 9 1 u5 l.length (strs l)) := by
        have := own_mono (own_below hok hb3) (base' := w.heap.size) (by omega)
        rwa [List.take_length] at this
      have HM3 : Hid ((flat l).length = m) := by
        have := HM2.out
        rwa [List.take_length] at this
      clear hb3 hok HF
      go_wp2
      go_ret2
      exact ⟨_, by rw [HM3.out]; rfl, O3.out, B3.out⟩
end Go.Proofs.Ytcfplkfddcblnaa
