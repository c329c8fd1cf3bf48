/- WireReadResults holds: for every text and every result that can be read, what ReadResult answers is packed as the text that was handed in, else it is ErrForm, and the result is not packed so; both read behind the call as they read before; no condition. -/
import Derived.Test.YtligalcphlfmcadRefR
import Derived.Test.YtligalcphlfmcadRdRNo
import Derived.Test.YtligalcphlfmcadArgR
namespace Go.Proofs.Ytligalcphlfmcad
open Go.ChangeShapes Go.WideShapes Go.ChangeAt Go.RowKit Go.Shelf
open Go.ChangeMaps (open_string shut_string)

def Bx (k : Nat) (c : Int) (s : ByteArray) (d : Int) (w : World) : Prop := w.cell? ⟨k, 0, none⟩ = some (.int .i64 c) ∧ w.cell? ⟨k, 1, none⟩ = some (.string s) ∧ w.cell? ⟨k, 2, none⟩ = some (.int .i64 d) ∧ k < w.heap.size
theorem Bx.below {k : Nat} {c d : Int} {s : ByteArray} {w w' : World} (h : Bx k c s d w) (hb : Below w.heap.size w w') : Bx k c s d w' :=
  ⟨(hb.cell (p := ⟨k, 0, none⟩) h.2.2.2).trans h.1, (hb.cell (p := ⟨k, 1, none⟩) h.2.2.2).trans h.2.1, (hb.cell (p := ⟨k, 2, none⟩) h.2.2.2).trans h.2.2.1, Nat.lt_of_lt_of_le h.2.2.2 hb.size⟩
theorem Bx.new (c : Int) (s : ByteArray) (d : Int) (w : World) (T : TypeId) : Bx w.heap.size c s d (w.alloc (.cells #[.int .i64 c, .string s, .int .i64 d] T)) := ⟨by simp [go_sem], by simp [go_sem], by simp [go_sem], by simp⟩
theorem Bx.alloc {k : Nat} {c d : Int} {s : ByteArray} {w : World} (h : Bx k c s d w) (o : Obj) : Bx k c s d (w.alloc o) := h.below ((Below.refl _ _).alloc (Nat.le_refl _) _)

set_option maxHeartbeats 2000000 in
set_option maxRecDepth 100000 in
theorem rr_yes (c0 d0 : Nat) (t0 : ByteArray) (c d : Int) (t : ByteArray) (w : World) (hok : okR c0 t0 d0) :
    Calls Try.prog 3 #[.string ⟨(pkR c0 t0 d0).toArray⟩, Rv c t d] w fun e w' => e = .returned (.bool true) ∧ Below w.heap.size w w' := by
  have HK : Hid (okR c0 t0 d0) := hok
  have g1 := noN_false hok.1
  have g2 := noN_false hok.2.1
  have g3 := digOk_size hok.2.2
  have G : Hid (c0 ≤ 9007199254740991 ∧ d0 ≤ 9007199254740991 ∧ t0.size ≤ 100000) := ⟨by omega, by omega, by omega⟩
  have hl := pkR_len c0 d0 t0 (by omega) (by omega) (by omega)
  have HZ : Hid ((⟨(pkR c0 t0 d0).toArray⟩ : ByteArray).size ≤ maxLen) := by show _ ≤ _; rw [show (⟨(pkR c0 t0 d0).toArray⟩ : ByteArray).size = (pkR c0 t0 d0).length from size_of rfl]; unfold maxLen; omega
  have HS : Hid (t0.size ≤ maxLen) := by show _ ≤ _; unfold maxLen; omega
  have HR : Hid (reC c0 t0 d0 = 0) := reC_ok c0 d0 t0 hok
  have B0 : Hid (Below w.heap.size w (w.alloc (.cells #[.int .i64 c, .string t, .int .i64 d] 23))) := (Below.refl _ _).alloc (Nat.le_refl _) _
  clear hok g1 g2 g3 hl
  go_enter Try.func3, Try.ntmps3
  go_wp2_with fail
  refine (ReadResult_pk c0 d0 _ t0 _ HZ.out HK.out rfl).mono ?_
  rintro e w1 ⟨rfl, hb1⟩
  have B1 : Hid (Below w.heap.size w (w1.alloc (.cells #[.int .i64 c0, .string t0, .int .i64 d0] 23))) := (B0.out.trans (hb1.mono (by simp))).alloc (by have := B0.out.size; have := hb1.size; simp at this; omega) _
  have X1 : Hid (Bx w1.heap.size c0 t0 d0 (w1.alloc (.cells #[.int .i64 c0, .string t0, .int .i64 d0] 23))) := Bx.new _ _ _ _ _
  clear hb1
  go_wp2_with fail
  refine (wireBegun_any _).mono ?_
  rintro e w2 ⟨rfl, hb2⟩
  have B2 : Hid (Below w.heap.size w w2) := B1.out.trans (hb2.mono B1.out.size)
  have X2 : Hid (Bx w1.heap.size c0 t0 d0 w2) := X1.out.below hb2
  clear hb2
  go_wp2_with fail
  refine (wireBegun_any _).mono ?_
  rintro e w3 ⟨rfl, hb3⟩
  have B3 : Hid (Below w.heap.size w w3) := B2.out.trans (hb3.mono B2.out.size)
  have X3 : Hid (Bx w1.heap.size c0 t0 d0 w3) := X2.out.below hb3
  clear hb3
  obtain ⟨p0, p1, p2, _⟩ := X3.out
  go_wp2_with fail
  refine (cr_any c0 d0 t0 w3 HS.out).mono ?_
  rintro e w4 ⟨rfl, hb4⟩
  rw [HR.out]
  have B4 : Hid (Below w.heap.size w w4) := B3.out.trans (hb4.mono B3.out.size)
  have X4 : Hid (Bx w1.heap.size c0 t0 d0 w4) := X3.out.below hb4
  clear hb4 p0 p1 p2
  obtain ⟨p0, p1, p2, _⟩ := X4.out
  go_wp2_with fail
  refine (packresult_any c0 d0 t0 w4 G.out.1 G.out.2.1 G.out.2.2).mono ?_
  rintro e w5 ⟨rfl, hb5⟩
  have B5 : Hid (Below w.heap.size w w5) := B4.out.trans (hb5.mono B4.out.size)
  clear hb5
  go_wp2
  go_ret
  exact ⟨by simp, B5.out⟩

set_option maxHeartbeats 2000000 in
set_option maxRecDepth 100000 in
theorem rr_no (s : ByteArray) (c d : Int) (t : ByteArray) (w : World) (hs : s.size ≤ 140737488355328) (ht : t.size ≤ maxLen) (hno : NoResult s) :
    Calls Try.prog 3 #[.string s, Rv c t d] w fun e w' => e = .returned (.bool true) ∧ Below w.heap.size w w' := by
  have HN : Hid (NoResult s) := hno
  have B0 : Hid (Below w.heap.size w (w.alloc (.cells #[.int .i64 c, .string t, .int .i64 d] 23))) := (Below.refl _ _).alloc (Nat.le_refl _) _
  have Y0 : Hid (Bx w.heap.size c t d (w.alloc (.cells #[.int .i64 c, .string t, .int .i64 d] 23))) := Bx.new _ _ _ _ _
  by_cases hok : okR c t d
  · obtain ⟨c1, d1, rfl, rfl⟩ := okR_nat hok
    have g1 := noN_false hok.1
    have g2 := noN_false hok.2.1
    have g3 := digOk_size hok.2.2
    have G : Hid (c1 ≤ 9007199254740991 ∧ d1 ≤ 9007199254740991 ∧ t.size ≤ 100000) := ⟨by omega, by omega, by omega⟩
    have HR : Hid (reC c1 t d1 = 0) := reC_ok c1 d1 t hok
    have hne : (pkR c1 t d1 == s.toList) = false := by
      rw [beq_eq_false_iff_ne, Lib.toList_data]
      exact fun h => hno ⟨c1, d1, t, hok, h.symm⟩
    clear hok g1 g2 g3 hno
    go_enter Try.func3, Try.ntmps3
    go_wp2_with fail
    refine (ReadResult_no s _ hs HN.out).mono ?_
    rintro e w1 ⟨rfl, hb1⟩
    have B1 : Hid (Below w.heap.size w (w1.alloc (.cells #[.int .i64 0, .string ⟨#[]⟩, .int .i64 0] 23))) := (B0.out.trans (hb1.mono (by simp))).alloc (by have := B0.out.size; have := hb1.size; simp at this; omega) _
    have X1 : Hid (Bx w1.heap.size 0 ⟨#[]⟩ 0 (w1.alloc (.cells #[.int .i64 0, .string ⟨#[]⟩, .int .i64 0] 23))) := Bx.new _ _ _ _ _
    have Y1 : Hid (Bx w.heap.size c1 t d1 (w1.alloc (.cells #[.int .i64 0, .string ⟨#[]⟩, .int .i64 0] 23))) := (Y0.out.below hb1).alloc _
    clear hb1
    go_wp2_with fail
    refine (wireBegun_any _).mono ?_
    rintro e w2 ⟨rfl, hb2⟩
    have B2 : Hid (Below w.heap.size w w2) := B1.out.trans (hb2.mono B1.out.size)
    have Y2 : Hid (Bx w.heap.size c1 t d1 w2) := Y1.out.below hb2
    obtain ⟨p0, p1, p2, _⟩ := X1.out.below hb2
    obtain ⟨q0, q1, q2, _⟩ := Y2.out
    clear hb2
    go_wp2_with fail
    refine (cr_any c1 d1 t w2 ht).mono ?_
    rintro e w3 ⟨rfl, hb3⟩
    rw [HR.out]
    have B3 : Hid (Below w.heap.size w w3) := B2.out.trans (hb3.mono B2.out.size)
    clear p0 p1 p2 q0 q1 q2
    obtain ⟨q0, q1, q2, _⟩ := Y2.out.below hb3
    clear hb3
    go_wp2_with fail
    refine (packresult_any c1 d1 t w3 G.out.1 G.out.2.1 G.out.2.2).mono ?_
    rintro e w5 ⟨rfl, hb5⟩
    have B5 : Hid (Below w.heap.size w w5) := B3.out.trans (hb5.mono B3.out.size)
    clear hb5
    go_wp2
    go_ret
    exact ⟨rfl, B5.out⟩
  · have hne := reC_ne c d t hok
    clear hok hno
    go_enter Try.func3, Try.ntmps3
    go_wp2_with fail
    refine (ReadResult_no s _ hs HN.out).mono ?_
    rintro e w1 ⟨rfl, hb1⟩
    have B1 : Hid (Below w.heap.size w (w1.alloc (.cells #[.int .i64 0, .string ⟨#[]⟩, .int .i64 0] 23))) := (B0.out.trans (hb1.mono (by simp))).alloc (by have := B0.out.size; have := hb1.size; simp at this; omega) _
    have X1 : Hid (Bx w1.heap.size 0 ⟨#[]⟩ 0 (w1.alloc (.cells #[.int .i64 0, .string ⟨#[]⟩, .int .i64 0] 23))) := Bx.new _ _ _ _ _
    have Y1 : Hid (Bx w.heap.size c t d (w1.alloc (.cells #[.int .i64 0, .string ⟨#[]⟩, .int .i64 0] 23))) := (Y0.out.below hb1).alloc _
    clear hb1
    go_wp2_with fail
    refine (wireBegun_any _).mono ?_
    rintro e w2 ⟨rfl, hb2⟩
    have B2 : Hid (Below w.heap.size w w2) := B1.out.trans (hb2.mono B1.out.size)
    obtain ⟨p0, p1, p2, _⟩ := X1.out.below hb2
    obtain ⟨q0, q1, q2, _⟩ := Y1.out.below hb2
    clear hb2
    go_wp2_with fail
    refine (cr_any c d t w2 ht).mono ?_
    rintro e w3 ⟨rfl, hb3⟩
    have B3 : Hid (Below w.heap.size w w3) := B2.out.trans (hb3.mono B2.out.size)
    clear hb3
    generalize reC c t d = rc at hne ⊢
    go_wp2
    go_ret
    exact ⟨rfl, B3.out⟩

theorem rr_walk (s : ByteArray) (c d : Int) (t : ByteArray) (w : World) (hs : s.size ≤ 140737488355328) (ht : t.size ≤ maxLen) :
    Calls Try.prog 3 #[.string s, Rv c t d] w fun e w' => e = .returned (.bool true) ∧ Below w.heap.size w w' := by
  by_cases hno : NoResult s
  · exact rr_no s c d t w hs ht hno
  · obtain ⟨c0, d0, t0, hok, h⟩ := Classical.not_not.1 hno
    rw [bytes_eq h]
    exact rr_yes c0 d0 t0 c d t w hok

set_option maxRecDepth 100000 in
theorem rr_lifted (os : Os) (started : os.Started) (H : Type) (enc : TypeId × Value → H) :
    ReturnsInHanded {} Try.checked os 3 .any (Rows.wireReadResultsSpec.pre6 enc Try.prog Try.f3 Rows.wireReadResultsRow.domain false) (Rows.wireReadResultsSpec.post enc Try.prog Try.f3 false true false false) := by
  refine returnsInHanded_of_change_sized (C := Try.checked) ar_own started (by kernel_rfl) Try.func3
    (ChangeSpec.witness6 (enc := enc) (C := Try.checked) false ⟨#[], #[.string ByteArray.empty, .agg #[.int .i64 0, .string ByteArray.empty, .int .i64 0]], []⟩ 8 (by kernel_rfl) (by kernel_rfl) (by kernel_rfl) (by kernel_rfl)) ?_
  intro W base args ds gs before hval0 hW hcnd hsz0 _
  have hval : ∀ (j : Nat) t v, Try.f3.params[j]? = some t → args[j]? = some v → Value.okWide Try.prog W .any base t v := hval0
  have hW' := hW
  obtain ⟨p, q, hA0, hV, rfl, hfz, hnd⟩ := hW
  have hA : DataW.TrodAll enc Try.prog W 0 (fun _ => true) true Try.f3.params.toList args.toList ds p := hA0
  have hsz : (DataW.weightsEach Try.prog (Try.f3.params.toList ++ Rows.wireReadResultsSpec.plain.varTypes Try.prog) (ds ++ gs)).all (· ≤ reachBytes) = true := hsz0
  rw [Try.params3] at hA hval hsz
  obtain ⟨v0, v1, d0, d1, p0, p1, rfl, rfl, rfl, h0, h1⟩ := trodAll_two hA
  obtain ⟨rfl, rfl⟩ := trodVars_none hV
  obtain ⟨a0, rfl, rfl, rfl, w0⟩ := open_string Try.underlying9 (hval 0 9 v0 rfl rfl) h0
  have hr : a0.size ≤ 140737488355328 := by
    have h2 := sized_string hsz (j := 0) (t := 9) rfl rfl
    have h3 := reachBytes_lt
    rw [← size_of (s := a0) rfl] at h2
    omega
  obtain ⟨c, s, e, rfl, hs⟩ := arg_result (hval 1 23 v1 rfl rfl) h1
  have lt1 : ∀ x ∈ p1, x.block < W.heap.size := by obtain ⟨m, hm⟩ := h1; exact DataW.trod_lt m _ _ _ hm
  clear hA0 hval0
  refine (rr_walk a0 c e s W hr hs).mono fun e W' ⟨he, bel⟩ => ?_
  subst he
  exact ⟨_, rfl, _, _, _, [], _, [], hW', trodAll_mk1 (shut_bool Try.underlying4 _), trodAll_mk2 (shut_string Try.underlying9 w0) (Below.trod ar_laidOut (by kernel_rfl) (of_decide_eq_true (by kernel_rfl)) h1 bel lt1), rfl, bel.frame _, fun h => by cases h⟩

theorem wireReadResults_holds : Rows.WireReadResultsSaid :=
  OpenClaim.holds_of_wide 3 Try.f3 rfl rfl rfl rfl rfl rfl rfl ⟨rfl, rfl, rfl, rfl, rfl⟩ rfl rfl rfl rfl rfl (by kernel_rfl) Try.func3 (by kernel_rfl)
    (of_decide_eq_true (by kernel_rfl)) (by unfold Func.isWrapper; first | (rw [if_pos (by decide +kernel)]; kernel_rfl) | (rw [if_neg (by decide +kernel)]; exact ⟨rfl, rfl⟩))
    (fun os started H enc _ => rr_lifted os started H enc)
#print axioms wireReadResults_holds
end Go.Proofs.Ytligalcphlfmcad
