/- WireTexts holds: for every list of texts that can be read Texts answers just as the document says, errors too, and the list reads behind the call as it read before; no condition. -/
import Derived.Test.YtligalcphlfmcacRefTexts
import Derived.Test.YtligalcphlfmcacArgT
namespace Go.Proofs.Ytligalcphlfmcac
open Go.ChangeShapes Go.WideShapes Go.ChangeAt Go.RowKit Go.Shelf
open Go.ChangeMaps (open_string shut_string)

set_option maxHeartbeats 1000000 in
set_option maxRecDepth 100000 in
theorem texts_yes (v : Value) (ss : List ByteArray) (w : World) (h : IsTexts w v ss) (hok : okTexts ss) :
    Calls Try.prog 3 #[v] w fun e w' => e = .returned (.bool true) ∧ Below w.heap.size w w' := by
  have O1 : Hid _ := old_of w v ss h
  have I1 : Hid (IsTexts w v ss) := h
  have N1 : Hid _ := h.1
  have HK : Hid (okTexts ss) := hok
  obtain ⟨_, a, cap, rfl, _⟩ := h
  clear hok
  go_enter Try.func3, Try.ntmps3
  go_wp2_with fail
  refine (Texts_yes _ ss w HK.out I1.out).mono ?_
  rintro e w1 ⟨rfl, hb1⟩
  have B1 : Hid (Below w.heap.size w w1) := hb1
  clear hb1
  go_wp2_with fail
  refine ((cl_any 2000 _ ss w1 (texts_of (texts_below O1.out B1.out) N1.out)).1 HK.out).mono ?_
  rintro e w1' ⟨rfl, rfl⟩
  go_wp2_with fail
  refine (packtexts_any _ ss w1' HK.out (old_of _ _ _ (texts_of (texts_below O1.out B1.out) N1.out))).mono ?_
  rintro e w2 ⟨rfl, hb2⟩
  have B2 : Hid (Below w.heap.size w w2) := B1.out.trans (hb2.mono B1.out.size)
  clear hb2
  go_wp2_with fail
  refine (wireBegun_any w2).mono ?_
  rintro e w3 ⟨rfl, hb3⟩
  have B3 : Hid (Below w.heap.size w w3) := B2.out.trans (hb3.mono B2.out.size)
  clear hb3
  go_wp2_with fail
  refine (textIs_ok _ w3).mono ?_
  rintro e w3' ⟨rfl, rfl⟩
  go_wp2
  go_ret
  exact ⟨rfl, B3.out⟩

set_option maxHeartbeats 1000000 in
set_option maxRecDepth 100000 in
theorem texts_no (v : Value) (ss : List ByteArray) (w : World) (h : IsTexts w v ss) (hok : ¬ okTexts ss) :
    Calls Try.prog 3 #[v] w fun e w' => e = .returned (.bool true) ∧ Below w.heap.size w w' := by
  have I1 : Hid (IsTexts w v ss) := h
  have HK : Hid (¬ okTexts ss) := hok
  obtain ⟨_, a, cap, rfl, _⟩ := h
  clear hok
  go_enter Try.func3, Try.ntmps3
  go_wp2_with fail
  refine (Texts_no _ ss w HK.out I1.out).mono ?_
  rintro e w1 ⟨rfl, rfl⟩
  go_wp2_with fail
  refine ((cl_any 2000 _ ss w1 I1.out).2 HK.out).mono ?_
  rintro e w1' ⟨rfl, rfl⟩
  go_wp2_with fail
  refine (wireBegun_any w1').mono ?_
  rintro e w3 ⟨rfl, hb3⟩
  go_wp2_with fail
  refine (textIs_no 2 _ w3 (by decide)).mono ?_
  rintro e w3' ⟨rfl, rfl⟩
  go_wp2
  go_ret
  exact ⟨rfl, hb3⟩

theorem texts_walk (v : Value) (ss : List ByteArray) (w : World) (h : IsTexts w v ss) :
    Calls Try.prog 3 #[v] w fun e w' => e = .returned (.bool true) ∧ Below w.heap.size w w' := by
  by_cases hok : okTexts ss
  · exact texts_yes v ss w h hok
  · exact texts_no v ss w h hok

set_option maxRecDepth 100000 in
theorem texts_lifted (os : Os) (started : os.Started) (H : Type) (enc : TypeId × Value → H) :
    ReturnsInHanded {} Try.checked os 3 .any (Rows.wireTextsSpec.pre6 enc Try.prog Try.f3 Rows.wireTextsRow.domain false) (Rows.wireTextsSpec.post enc Try.prog Try.f3 false true false false) := by
  refine returnsInHanded_of_change_sized (C := Try.checked) own started (by kernel_rfl) Try.func3
    (ChangeSpec.witness6 (enc := enc) (C := Try.checked) false ⟨#[], #[.slice none 0 0], []⟩ 8 (by kernel_rfl) (by kernel_rfl) (by kernel_rfl) (by kernel_rfl)) ?_
  intro W base args ds gs before hval0 hW hcnd hsz0 _
  have hval : ∀ (j : Nat) t v, Try.f3.params[j]? = some t → args[j]? = some v → Value.okWide Try.prog W .any base t v := hval0
  have hW' := hW
  obtain ⟨p, q, hA0, hV, rfl, hfz, hnd⟩ := hW
  have hA : DataW.TrodAll enc Try.prog W 0 (fun _ => true) true Try.f3.params.toList args.toList ds p := hA0
  have hsz : (DataW.weightsEach Try.prog (Try.f3.params.toList ++ Rows.wireTextsSpec.plain.varTypes Try.prog) (ds ++ gs)).all (· ≤ reachBytes) = true := hsz0
  rw [Try.params3] at hA hval hsz
  obtain ⟨v0, d0, rfl, rfl, h0⟩ := trodAll_one hA
  obtain ⟨rfl, rfl⟩ := trodVars_none hV
  obtain ⟨ss, i0⟩ := arg_texts (hval 0 22 v0 rfl rfl) h0 (arg_len hsz 0 d0 rfl rfl)
  have lt0 : ∀ x ∈ p, x.block < W.heap.size := by obtain ⟨m, hm⟩ := h0; exact DataW.trod_lt m _ _ _ hm
  clear hA0 hval0
  refine (texts_walk v0 ss W i0).mono fun e W' ⟨he, bel⟩ => ?_
  subst he
  exact ⟨_, rfl, _, _, _, [], _, [], hW', trodAll_mk1 (shut_bool Try.underlying4 _), trodAll_mk1 (Below.trod laidOut (by kernel_rfl) (of_decide_eq_true (by kernel_rfl)) h0 bel lt0), rfl, bel.frame _, fun h => by cases h⟩

theorem wireTexts_holds : Rows.WireTextsSaid :=
  OpenClaim.holds_of_wide 3 Try.f3 rfl rfl rfl rfl rfl rfl rfl ⟨rfl, rfl, rfl, rfl, rfl⟩ rfl rfl rfl rfl rfl (by kernel_rfl) Try.func3 (by kernel_rfl)
    (of_decide_eq_true (by kernel_rfl)) (by unfold Func.isWrapper; first | (rw [if_pos (by decide +kernel)]; kernel_rfl) | (rw [if_neg (by decide +kernel)]; exact ⟨rfl, rfl⟩))
    (fun os started H enc _ => texts_lifted os started H enc)
#print axioms wireTexts_holds
end Go.Proofs.Ytligalcphlfmcac
