/- WireResults holds: for every result that can be read Result answers just as the document says, errors too, and the result reads behind the call as it read before; no condition. -/
import Derived.Test.YtligalcphlfmcacRefR
import Derived.Test.YtligalcphlfmcacArgR
namespace Go.Proofs.Ytligalcphlfmcac
open Go.ChangeShapes Go.WideShapes Go.ChangeAt Go.RowKit Go.Shelf

set_option maxHeartbeats 1000000 in
set_option maxRecDepth 100000 in
theorem results_yes (c d : Nat) (s : ByteArray) (w : World) (hs : s.size ≤ maxLen) (hok : okR c s d) :
    Calls Try.prog 5 #[Rv c s d] w fun e w' => e = .returned (.bool true) ∧ Below w.heap.size w w' := by
  have HK : Hid (okR c s d) := hok
  have g1 := noN_false hok.1
  have g2 := noN_false hok.2.1
  have g3 := digOk_size hok.2.2
  have hre := reC_ok c d s hok
  have b0 : Below w.heap.size w (w.alloc (.cells #[.int .i64 c, .string s, .int .i64 d] 37)) := (Below.refl _ _).alloc (Nat.le_refl _) _
  have B0 : Hid (Below w.heap.size w (w.alloc (.cells #[.int .i64 c, .string s, .int .i64 d] 37))) := b0
  have G : Hid (c ≤ 9007199254740991 ∧ d ≤ 9007199254740991 ∧ s.size ≤ 100000) := ⟨by omega, by omega, by omega⟩
  have HR : Hid (reC c s d = 0) := hre
  clear hok g1 g2 g3 b0 hre
  go_enter Try.func5, Try.ntmps5
  go_wp2_with fail
  refine (Result_yes c d s _ HK.out).mono ?_
  rintro e w1 ⟨rfl, hb1⟩
  obtain ⟨hcl, hfr⟩ := bcell hb1
  have hz1 : w.heap.size < w1.heap.size := by have := hb1.size; simp at this; omega
  have hb1' := hb1
  have B1 : Hid (Below w.heap.size w w1) := B0.out.trans (hb1.mono (by simp))
  clear hb1 hb1'
  go_wp2_with fail
  refine (cr_any c d s w1 hs).mono ?_
  rintro e w2 ⟨rfl, hb2⟩
  rw [HR.out]
  obtain ⟨hcl2, hfr2⟩ := bcell hb2
  have B2 : Hid (Below w.heap.size w w2) := B1.out.trans (hb2.mono B1.out.size)
  clear hb2
  go_wp2_with fail
  refine (packresult_any c d s w2 G.out.1 G.out.2.1 G.out.2.2).mono ?_
  rintro e w3 ⟨rfl, hb3⟩
  have B3 : Hid (Below w.heap.size w w3) := B2.out.trans (hb3.mono B2.out.size)
  clear hb3
  go_wp2_with fail
  refine (wireBegun_any w3).mono ?_
  rintro e w4 ⟨rfl, hb4⟩
  have B4 : Hid (Below w.heap.size w w4) := B3.out.trans (hb4.mono B3.out.size)
  clear hb4
  go_wp2_with fail
  refine (textIs_ok _ w4).mono ?_
  rintro e w4' ⟨rfl, rfl⟩
  go_wp2
  go_ret
  exact ⟨rfl, B4.out⟩

set_option maxHeartbeats 1000000 in
set_option maxRecDepth 100000 in
theorem results_no (c d : Int) (s : ByteArray) (w : World) (hs : s.size ≤ maxLen) (hok : ¬ okR c s d) :
    Calls Try.prog 5 #[Rv c s d] w fun e w' => e = .returned (.bool true) ∧ Below w.heap.size w w' := by
  have HK : Hid (¬ okR c s d) := hok
  have hne := reC_ne c d s hok
  have hne2 : (reC c s d == 0) = false := by
    rw [beq_eq_false_iff_ne]
    rwa [bne_iff_ne] at hne
  have HN : Hid ((reC c s d != 0) = true) := hne
  have b0 : Below w.heap.size w (w.alloc (.cells #[.int .i64 c, .string s, .int .i64 d] 37)) := (Below.refl _ _).alloc (Nat.le_refl _) _
  have B0 : Hid (Below w.heap.size w (w.alloc (.cells #[.int .i64 c, .string s, .int .i64 d] 37))) := b0
  clear hok b0 hne
  go_enter Try.func5, Try.ntmps5
  go_wp2_with fail
  refine (Result_no c d s _ HK.out).mono ?_
  rintro e w1 ⟨rfl, hb1⟩
  obtain ⟨hcl, hfr⟩ := bcell hb1
  have hz1 : w.heap.size < w1.heap.size := by have := hb1.size; simp at this; omega
  have B1 : Hid (Below w.heap.size w w1) := B0.out.trans (hb1.mono (by simp))
  clear hb1
  go_wp2_with fail
  refine (cr_any c d s w1 hs).mono ?_
  rintro e w2 ⟨rfl, hb2⟩
  have B2 : Hid (Below w.heap.size w w2) := B1.out.trans (hb2.mono B1.out.size)
  clear hb2
  go_wp2_with fail
  refine (wireBegun_any w2).mono ?_
  rintro e w4 ⟨rfl, hb4⟩
  have B4 : Hid (Below w.heap.size w w4) := B2.out.trans (hb4.mono B2.out.size)
  clear hb4
  go_wp2_with fail
  refine (textIs_no (reC c s d) _ w4 HN.out).mono ?_
  rintro e w4' ⟨rfl, rfl⟩
  go_wp2
  go_ret
  exact ⟨rfl, B4.out⟩

theorem results_walk (c d : Int) (s : ByteArray) (w : World) (hs : s.size ≤ maxLen) :
    Calls Try.prog 5 #[Rv c s d] w fun e w' => e = .returned (.bool true) ∧ Below w.heap.size w w' := by
  by_cases hok : okR c s d
  · obtain ⟨c', d', rfl, rfl⟩ := okR_nat hok
    exact results_yes c' d' s w hs hok
  · exact results_no c d s w hs hok

set_option maxRecDepth 100000 in
theorem results_lifted (os : Os) (started : os.Started) (H : Type) (enc : TypeId × Value → H) :
    ReturnsInHanded {} Try.checked os 5 .any (Rows.wireResultsSpec.pre6 enc Try.prog Try.f5 Rows.wireResultsRow.domain false) (Rows.wireResultsSpec.post enc Try.prog Try.f5 false true false false) := by
  refine returnsInHanded_of_change (C := Try.checked) ar_own started (by kernel_rfl) Try.func5
    (ChangeSpec.witness6 (enc := enc) (C := Try.checked) false ⟨#[], #[.agg #[.int .i64 0, .string ByteArray.empty, .int .i64 0]], []⟩ 8 (by kernel_rfl) (by kernel_rfl) (by kernel_rfl) (by kernel_rfl)) ?_
  intro W base args ds gs before hval0 hW hcnd _
  have hval : ∀ (j : Nat) t v, Try.f5.params[j]? = some t → args[j]? = some v → Value.okWide Try.prog W .any base t v := hval0
  have hW' := hW
  obtain ⟨p, q, hA0, hV, rfl, hfz, hnd⟩ := hW
  have hA : DataW.TrodAll enc Try.prog W 0 (fun _ => true) true Try.f5.params.toList args.toList ds p := hA0
  rw [Try.params5] at hA hval
  obtain ⟨v0, d0, rfl, rfl, h0⟩ := trodAll_one hA
  obtain ⟨rfl, rfl⟩ := trodVars_none hV
  obtain ⟨c, s, e, rfl, hs⟩ := arg_result (hval 0 37 v0 rfl rfl) h0
  have lt0 : ∀ x ∈ p, x.block < W.heap.size := by obtain ⟨m, hm⟩ := h0; exact DataW.trod_lt m _ _ _ hm
  clear hA0 hval0
  refine (results_walk c e s W hs).mono fun e W' ⟨he, bel⟩ => ?_
  subst he
  exact ⟨_, rfl, _, _, _, [], _, [], hW', trodAll_mk1 (shut_bool Try.underlying4 _), trodAll_mk1 (Below.trod ar_laidOut (by kernel_rfl) (of_decide_eq_true (by kernel_rfl)) h0 bel lt0), rfl, bel.frame _, fun h => by cases h⟩

theorem wireResults_holds : Rows.WireResultsSaid :=
  OpenClaim.holds_of_wide 5 Try.f5 rfl rfl rfl rfl rfl rfl rfl ⟨rfl, rfl, rfl, rfl, rfl⟩ rfl rfl rfl rfl rfl (by kernel_rfl) Try.func5 (by kernel_rfl)
    (of_decide_eq_true (by kernel_rfl)) (by unfold Func.isWrapper; first | (rw [if_pos (by decide +kernel)]; kernel_rfl) | (rw [if_neg (by decide +kernel)]; exact ⟨rfl, rfl⟩))
    (fun os started H enc _ => results_lifted os started H enc)
#print axioms wireResults_holds
end Go.Proofs.Ytligalcphlfmcac
