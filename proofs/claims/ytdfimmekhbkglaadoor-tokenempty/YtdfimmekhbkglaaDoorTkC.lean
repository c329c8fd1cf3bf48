/- Signs, words, what begins a token; ints that may not stand there. -/
import Derived.Test.YtdfimmekhbkglaaDoorTkB
namespace Go.Proofs.YtdfimmekhbkglaaDoor
open Go.RowKit Go.Shelf

def mkB (l : List UInt8) : ByteArray := ⟨l.toArray⟩
theorem mk_data (l : List UInt8) : (mkB l).data.toList = l := by simp [mkB]
theorem mk_size (l : List UInt8) : (mkB l).size = l.length := by
  show (mkB l).data.size = _
  simp [mkB]
theorem mk_self (s : ByteArray) : s = mkB s.data.toList := by cases s; simp [mkB]
theorem mk_toList (l : List UInt8) : (mkB l).toList = l := by rw [Lib.toList_data, mk_data]
theorem ext_mk (s : ByteArray) (a b : Nat) : s.extract a b = mkB ((s.data.toList.drop a).take (b - a)) := by
  rw [mk_self (s.extract a b)]
  congr 1
  rw [Lib.extract_data]
theorem sl_front (l : List UInt8) (k : Nat) (x : Int) (hx : x = k) (hk : k ≤ l.length) (W : World) : (Instr.slice 9 (.string (mkB l)) none (some (.int .i64 x)) none).run Tryd.prog W = .ok (.string (mkB (l.take k))) W := by
  subst hx
  have h2 : k ≤ (mkB l).size := by rw [mk_size]; exact hk
  have e := ext_mk (mkB l) 0 k
  rw [mk_data, List.drop_zero, Nat.sub_zero] at e
  simp [Instr.slice, Instr.sliceBounds, Instr.sliceBound, run_underlying Tryd.underlying9, asIntOf, h2, e]
theorem sl_back (l : List UInt8) (k : Nat) (x : Int) (hx : x = k) (hk : k ≤ l.length) (W : World) : (Instr.slice 9 (.string (mkB l)) (some (.int .i64 x)) none none).run Tryd.prog W = .ok (.string (mkB (l.drop k))) W := by
  subst hx
  have h2 : k ≤ (mkB l).size := by rw [mk_size]; exact hk
  have e := ext_mk (mkB l) k (mkB l).size
  rw [mk_data, mk_size, List.take_of_length_le (by rw [List.length_drop]; omega)] at e
  rw [← mk_size l] at e
  simp [Instr.slice, Instr.sliceBounds, Instr.sliceBound, run_underlying Tryd.underlying9, asIntOf, h2, e]
theorem sl_mid (l : List UInt8) (a b : Nat) (x y : Int) (hx : x = a) (hy : y = b) (h1 : a ≤ b) (hk : b ≤ l.length) (W : World) : (Instr.slice 9 (.string (mkB l)) (some (.int .i64 x)) (some (.int .i64 y)) none).run Tryd.prog W = .ok (.string (mkB ((l.drop a).take (b - a)))) W := by
  subst hx hy
  have h2 : b ≤ (mkB l).size := by rw [mk_size]; exact hk
  have e := ext_mk (mkB l) a b
  rw [mk_data] at e
  simp [Instr.slice, Instr.sliceBounds, Instr.sliceBound, run_underlying Tryd.underlying9, asIntOf, h1, h2, e]
theorem mk_get (l : List UInt8) (k : Nat) (h : k < (mkB l).size) : (mkB l)[k] = l.getD k 0 := by
  have h' : k < l.length := by rw [mk_size] at h; exact h
  rw [List.getD_eq_getElem?_getD, List.getElem?_eq_getElem h']
  show (mkB l).data[k] = _
  simp [mkB]

def eqs (l : List UInt8) (m : List Nat) : Bool := l.map (·.toNat) == m
theorem eqs_iff (l : List UInt8) (m : List UInt8) : (l == m) = eqs l (m.map (·.toNat)) := by
  unfold eqs
  rw [Bool.eq_iff_iff]
  simp only [beq_iff_eq]
  constructor
  · intro h; rw [h]
  · intro h
    exact List.map_inj_right (fun a b e => UInt8.toNat_inj.1 e) |>.1 h

set_option maxHeartbeats 1000000 in
set_option maxRecDepth 100000 in
theorem signSize_any (l : List UInt8) (w : World) (h0 : 0 < l.length) (hl : l.length ≤ 1000000) :
    Calls Tryd.prog 43 #[.string (mkB l)] w fun e w' => e = .returned (.int .i64 (sgn l)) ∧ w' = w := by
  have HI : Hid (∀ w, Calls Tryd.prog 44 #[.string ⟨#[61, 60, 43, 45, 42, 37, 40, 41, 91, 93, 123, 125, 44, 58]⟩, .int .u8 (l.getD 0 0).toNat] w fun e w' => e = .returned (.int .i64 (Lib.indexByte [61, 60, 43, 45, 42, 37, 40, 41, 91, 93, 123, 125, 44, 58] (l.getD 0 0))) ∧ w' = w) := fun w => indexByte_any ⟨#[61, 60, 43, 45, 42, 37, 40, 41, 91, 93, 123, 125, 44, 58]⟩ (l.getD 0 0) w
  have hb : decide (0 ≤ Lib.indexByte [61, 60, 43, 45, 42, 37, 40, 41, 91, 93, 123, 125, 44, 58] (l.getD 0 0)) = isSg1 (l.getD 0 0) := by
    rw [idx_nonneg]
    unfold isSg1
    rw [Bool.eq_iff_iff]
    simp [← UInt8.toNat_inj]
  generalize Lib.indexByte [61, 60, 43, 45, 42, 37, 40, 41, 91, 93, 123, 125, 44, 58] (l.getD 0 0) = x at HI hb
  have hsz : (mkB l).size = l.length := mk_size l
  have hsl := sl_front l (min 2 l.length) _ rfl (by omega)
  have ht2 : l.take (min 2 l.length) = l.take 2 := by
    rcases Nat.lt_or_ge l.length 2 with h | h
    · rw [Nat.min_eq_right (by omega), List.take_of_length_le (Nat.le_refl _), List.take_of_length_le (by omega)]
    · rw [Nat.min_eq_left h]
  rw [ht2] at hsl
  obtain ⟨k, hk⟩ : ∃ k, k = min 2 l.length := ⟨_, rfl⟩
  rw [← hk] at hsl
  have hmin : min (2 : Int) (l.length : Int) = (k : Int) := by omega
  have hk2 : (k : Int) ≤ (l.length : Int) := by omega
  clear hk
  have q1 : ((mkB (l.take 2)).toList == [61, 61]) = eqs (l.take 2) [61, 61] := by rw [mk_toList]; exact eqs_iff _ [61, 61]
  have q2 : ((mkB (l.take 2)).toList == [33, 61]) = eqs (l.take 2) [33, 61] := by rw [mk_toList]; exact eqs_iff _ [33, 61]
  have q3 : ((mkB (l.take 2)).toList == [60, 61]) = eqs (l.take 2) [60, 61] := by rw [mk_toList]; exact eqs_iff _ [60, 61]
  have q4 : ((mkB (l.take 2)).toList == [47, 47]) = eqs (l.take 2) [47, 47] := by rw [mk_toList]; exact eqs_iff _ [47, 47]
  have hsg : sgn l = bif (eqs (l.take 2) [61, 61] || eqs (l.take 2) [33, 61] || eqs (l.take 2) [60, 61] || eqs (l.take 2) [47, 47]) then 2 else bif isSg1 (l.getD 0 0) then 1 else 0 := by
    unfold sgn two2 eqs
    congr 1
    rw [Bool.eq_iff_iff]
    simp [or_assoc]
  rw [hsg]
  have hg0 := mk_get l 0 (by rw [hsz]; exact h0)
  have hz0 : (0 : Int) < ((mkB l).size : Int) := by rw [hsz]; omega
  generalize eqs (l.take 2) [61, 61] = b1 at *
  generalize eqs (l.take 2) [33, 61] = b2 at *
  generalize eqs (l.take 2) [60, 61] = b3 at *
  generalize eqs (l.take 2) [47, 47] = b4 at *
  generalize isSg1 (l.getD 0 0) = b5 at *
  generalize l.getD 0 0 = c0 at *
  generalize mkB (l.take 2) = t at *
  clear hsg ht2
  cases b1 with
  | true =>
    go_enter Tryd.func43, Tryd.ntmps43
    go_wp2
    go_ret
    exact ⟨rfl, rfl⟩
  | false =>
    cases b2 with
    | true =>
      go_enter Tryd.func43, Tryd.ntmps43
      go_wp2
      go_ret
      exact ⟨rfl, rfl⟩
    | false =>
      cases b3 with
      | true =>
        go_enter Tryd.func43, Tryd.ntmps43
        go_wp2
        go_ret
        exact ⟨rfl, rfl⟩
      | false =>
        cases b4 with
        | true =>
          go_enter Tryd.func43, Tryd.ntmps43
          go_wp2
          go_ret
          exact ⟨rfl, rfl⟩
        | false =>
          cases b5 with
          | true =>
            go_enter Tryd.func43, Tryd.ntmps43
            go_wp2_with fail
            refine (HI.out _).mono ?_
            rintro e w' ⟨rfl, rfl⟩
            go_wp2
            go_ret
            exact ⟨rfl, rfl⟩
          | false =>
            go_enter Tryd.func43, Tryd.ntmps43
            go_wp2_with fail
            refine (HI.out _).mono ?_
            rintro e w' ⟨rfl, rfl⟩
            go_wp2
            go_ret
            exact ⟨rfl, rfl⟩

set_option maxHeartbeats 1000000 in
theorem begins_any (l : List UInt8) (w : World) (h0 : 0 < l.length) (hl : l.length ≤ 1000000) :
    Calls Tryd.prog 29 #[.string (mkB l)] w fun e w' => e = .returned (.bool (beg l)) ∧ w' = w := by
  have H1 : Hid (∀ w, Calls Tryd.prog 38 #[.int .u8 (l.getD 0 0).toNat] w fun e w' => e = .returned (.bool (isLt (l.getD 0 0))) ∧ w' = w) := isLetter_any _
  have H2 : Hid (∀ w, Calls Tryd.prog 33 #[.int .u8 (l.getD 0 0).toNat] w fun e w' => e = .returned (.bool (isDg (l.getD 0 0))) ∧ w' = w) := isDigit_any _
  have H3 : Hid (∀ w, Calls Tryd.prog 43 #[.string (mkB l)] w fun e w' => e = .returned (.int .i64 (sgn l)) ∧ w' = w) := fun w => signSize_any l w h0 hl
  have hsz : (mkB l).size = l.length := mk_size l
  have hz0 : (0 : Int) < ((mkB l).size : Int) := by rw [hsz]; omega
  have hg0 := mk_get l 0 (by rw [hsz]; exact h0)
  have hq := c_eq (l.getD 0 0) 34
  have hbg : beg l = (isLt (l.getD 0 0) || isDg (l.getD 0 0) || decide ((l.getD 0 0).toNat = 34) || decide (0 < sgn l)) := rfl
  rw [hbg]
  generalize isLt (l.getD 0 0) = b1 at *
  generalize isDg (l.getD 0 0) = b2 at *
  generalize decide ((l.getD 0 0).toNat = 34) = b3 at *
  generalize sgn l = n at *
  generalize l.getD 0 0 = c0 at *
  have hq' : ((c0.toNat : Int) == 34) = b3 := hq
  clear hbg hq
  cases b1 with
  | true =>
    go_enter Tryd.func29, Tryd.ntmps29
    go_wp2_with fail
    refine (H1.out _).mono ?_
    rintro e w' ⟨rfl, rfl⟩
    go_wp2
    go_ret
    exact ⟨rfl, rfl⟩
  | false =>
    cases b2 with
    | true =>
      go_enter Tryd.func29, Tryd.ntmps29
      go_wp2_with fail
      refine (H1.out _).mono ?_
      rintro e w' ⟨rfl, rfl⟩
      go_wp2_with fail
      refine (H2.out _).mono ?_
      rintro e w' ⟨rfl, rfl⟩
      go_wp2
      go_ret
      exact ⟨rfl, rfl⟩
    | false =>
      cases b3 with
      | true =>
        go_enter Tryd.func29, Tryd.ntmps29
        go_wp2_with fail
        refine (H1.out _).mono ?_
        rintro e w' ⟨rfl, rfl⟩
        go_wp2_with fail
        refine (H2.out _).mono ?_
        rintro e w' ⟨rfl, rfl⟩
        go_wp2
        go_ret
        exact ⟨rfl, rfl⟩
      | false =>
        go_enter Tryd.func29, Tryd.ntmps29
        go_wp2_with fail
        refine (H1.out _).mono ?_
        rintro e w' ⟨rfl, rfl⟩
        go_wp2_with fail
        refine (H2.out _).mono ?_
        rintro e w' ⟨rfl, rfl⟩
        go_wp2_with fail
        refine (H3.out _).mono ?_
        rintro e w' ⟨rfl, rfl⟩
        go_wp2
        go_ret
        refine ⟨ret_b ?_, rfl⟩
        simp

set_option maxHeartbeats 2000000 in
theorem isWord_any (l : List UInt8) (w : World) :
    Calls Tryd.prog 40 #[.string (mkB l)] w fun e w' => e = .returned (.bool (isWd l)) ∧ w' = w := by
  have hw : isWd l = wordsL.any (fun m => eqs l m) := by
    unfold isWd eqs
    rw [Bool.eq_iff_iff]
    simp [List.any_eq_true]
  have key : ∀ m : List UInt8, ((mkB l).toList == m) = eqs l (m.map (·.toNat)) := fun m => by rw [mk_toList]; exact eqs_iff l m
  have q1 := key [97, 110, 100]
  have q2 := key [111, 114]
  have q3 := key [110, 111, 116]
  have q4 := key [105, 110]
  have q5 := key [105, 102]
  have q6 := key [101, 108, 115, 101]
  have q7 := key [102, 111, 114]
  have q8 := key [100, 101, 102]
  have q9 := key [114, 101, 116, 117, 114, 110]
  have q10 := key [112, 97, 115, 115]
  have q11 := key [84, 114, 117, 101]
  have q12 := key [70, 97, 108, 115, 101]
  have q13 := key [78, 111, 110, 101]
  have q14 := key [108, 111, 97, 100]
  have e : isWd l = (((mkB l).toList == [97, 110, 100]) || ((mkB l).toList == [111, 114]) || ((mkB l).toList == [110, 111, 116]) || ((mkB l).toList == [105, 110]) || ((mkB l).toList == [105, 102]) || ((mkB l).toList == [101, 108, 115, 101]) || ((mkB l).toList == [102, 111, 114]) || ((mkB l).toList == [100, 101, 102]) || ((mkB l).toList == [114, 101, 116, 117, 114, 110]) || ((mkB l).toList == [112, 97, 115, 115]) || ((mkB l).toList == [84, 114, 117, 101]) || ((mkB l).toList == [70, 97, 108, 115, 101]) || ((mkB l).toList == [78, 111, 110, 101]) || ((mkB l).toList == [108, 111, 97, 100])) := by
    rw [hw, q1, q2, q3, q4, q5, q6, q7, q8, q9, q10, q11, q12, q13, q14]
    simp [wordsL, List.any_cons, Bool.or_assoc]
  rw [e]
  clear q1 q2 q3 q4 q5 q6 q7 q8 q9 q10 q11 q12 q13 q14 key hw e
  go_enter Tryd.func40, Tryd.ntmps40
  go_wp2
  all_goals
    go_ret
    refine ⟨ret_b ?_, rfl⟩
    simp_all
end Go.Proofs.YtdfimmekhbkglaaDoor
