/- WireBackTexts holds: for all two lists of texts that can be read, what Texts packs is read by ReadTexts as it was, and two lists are packed alike just if they are the same; both read behind the call as they read before; no condition. -/
import Derived.Test.YtligalcphlfmcadInj
import Derived.ProofKit
import Derived.OpenShut
import Derived.ShutString
import Derived.ChangeOld
import Derived.SliceStrings
import Derived.Below
namespace Go.Proofs.Ytligalcphlfmcad
open Go.ChangeShapes Go.WideShapes Go.ChangeAt Go.RowKit Go.Shelf
open Go.ChangeMaps (open_string shut_string)

theorem own : ownKnob Try.prog.godebug = none := by kernel_rfl
theorem laidOut : laidOutB Try.prog = true := by kernel_rfl

set_option maxHeartbeats 2000000 in
set_option maxRecDepth 100000 in
theorem back_yes (v v' : Value) (ss ss' : List ByteArray) (w : World) (h : IsTexts w v ss) (h' : IsTexts w v' ss') (hok : okTexts ss) :
    Calls Try.prog 5 #[v, v'] w fun e w' => e = .returned (.bool true) ∧ Below w.heap.size w w' := by
  have o1 := old_of w v ss h
  have o2 := old_of w v' ss' h'
  have n1 := h.1
  have n2 := h'.1
  obtain ⟨_, a, cap, rfl, _⟩ := h
  obtain ⟨_, a', cap', rfl, _⟩ := h'
  have HK : Hid _ := hok
  have O1 : Hid _ := o1
  have O2 : Hid _ := o2
  have N1 : Hid _ := n1
  have N2 : Hid _ := n2
  clear hok o1 o2 n1 n2
  go_enter Try.func5, Try.ntmps5
  go_wp2_with fail
  refine (wireBegun_any w).mono ?_
  rintro e w1 ⟨rfl, hb1⟩
  have B1 : Hid _ := hb1
  clear hb1
  go_wp2_with fail
  refine (Texts_yes _ ss w1 HK.out (texts_of (texts_below O1.out B1.out) N1.out)).mono ?_
  rintro e w2 ⟨rfl, hb2⟩
  have B2 : Hid (Below w.heap.size w w2) := B1.out.trans (hb2.mono B1.out.size)
  clear hb2
  go_wp2_with fail
  refine (ReadTexts_ss ss w2 HK.out).mono ?_
  rintro e w3 ⟨x, rfl, hx, hb3⟩
  have B3 : Hid (Below w.heap.size w w3) := B2.out.trans (hb3.mono B2.out.size)
  have X3 : Hid _ := hx
  obtain ⟨ax, capx, rfl, _⟩ := hx
  clear hb3
  by_cases hok' : okTexts ss'
  · have HK' : Hid _ := hok'
    clear hok'
    go_wp2_with fail
    refine (Texts_yes _ ss' w3 HK'.out (texts_of (texts_below O2.out B3.out) N2.out)).mono ?_
    rintro e w4 ⟨rfl, hb4⟩
    have B4 : Hid (Below w.heap.size w w4) := B3.out.trans (hb4.mono B3.out.size)
    have X4 : Hid (OldTexts w3.heap.size w4 (.slice ax ss.length capx) ss) := texts_below X3.out hb4
    clear hb4
    go_wp2_with fail
    refine (same_any w4 _ _ ss ss (texts_of (texts_below O1.out B4.out) N1.out) (texts_of X4.out N1.out)).mono ?_
    rintro e w5 ⟨rfl, n, rfl⟩
    have hd : decide (ss = ss) = true := by simp
    rw [hd]
    have B5 : Hid (Below w.heap.size w (w4.drewN n)) := ⟨B4.out.os, B4.out.tape, B4.out.output, B4.out.size, B4.out.block⟩
    go_wp2_with fail
    refine (same_any (w4.drewN n) _ _ ss ss' (texts_of (texts_below O1.out B5.out) N1.out) (texts_of (texts_below O2.out B5.out) N2.out)).mono ?_
    rintro e w6 ⟨rfl, m, rfl⟩
    have hfin : ((pk ss.length ++ pkSS ss == pk ss'.length ++ pkSS ss') == decide (ss = ss')) = true := by
      by_cases he : ss = ss'
      · subst he; simp
      · have hne : pk ss.length ++ pkSS ss ≠ pk ss'.length ++ pkSS ss' := fun h => he (pkTexts_inj ss ss' h)
        simp [he, hne]
    have HF : Hid _ := hfin
    clear hfin
    go_wp2
    go_ret
    have b := B4.out
    exact ⟨by rw [← HF.out]; rfl, b.os, b.tape, b.output, b.size, b.block⟩
  · have HK' : Hid _ := hok'
    clear hok'
    go_wp2_with fail
    refine (Texts_no _ ss' w3 HK'.out (texts_of (texts_below O2.out B3.out) N2.out)).mono ?_
    rintro e w4 ⟨rfl, rfl⟩
    go_wp2_with fail
    refine (same_any w4 _ _ ss ss (texts_of (texts_below O1.out B3.out) N1.out) (texts_of X3.out N1.out)).mono ?_
    rintro e w5 ⟨rfl, n, rfl⟩
    have hd : decide (ss = ss) = true := by simp
    rw [hd]
    go_wp2
    go_ret
    have b := B3.out
    exact ⟨rfl, b.os, b.tape, b.output, b.size, b.block⟩

set_option maxHeartbeats 1000000 in
theorem back_no (v v' : Value) (ss ss' : List ByteArray) (w : World) (h : IsTexts w v ss) (h' : IsTexts w v' ss') (hok : ¬ okTexts ss) :
    Calls Try.prog 5 #[v, v'] w fun e w' => e = .returned (.bool true) ∧ Below w.heap.size w w' := by
  have O1 : Hid _ := old_of w v ss h
  have N1 : Hid _ := h.1
  have HK : Hid (¬ okTexts ss) := hok
  obtain ⟨_, a, cap, rfl, _⟩ := h
  obtain ⟨_, a', cap', rfl, _⟩ := h'
  clear hok
  go_enter Try.func5, Try.ntmps5
  go_wp2_with fail
  refine (wireBegun_any w).mono ?_
  rintro e w1 ⟨rfl, hb1⟩
  have B1 : Hid _ := hb1
  clear hb1
  go_wp2_with fail
  refine (Texts_no _ ss w1 HK.out (texts_of (texts_below O1.out B1.out) N1.out)).mono ?_
  rintro e w2 ⟨rfl, rfl⟩
  go_wp2
  go_ret
  exact ⟨rfl, B1.out⟩

theorem back_walk (v v' : Value) (ss ss' : List ByteArray) (w : World) (h : IsTexts w v ss) (h' : IsTexts w v' ss') :
    Calls Try.prog 5 #[v, v'] w fun e w' => e = .returned (.bool true) ∧ Below w.heap.size w w' := by
  by_cases hok : okTexts ss
  · exact back_yes v v' ss ss' w h h' hok
  · exact back_no v v' ss ss' w h h' hok

theorem bytesS : Try.prog.bytesOf 9 = 16 := by kernel_rfl
set_option maxRecDepth 100000 in
/-- A slice of texts that came in. -/
theorem arg_texts {H : Type} {enc : TypeId × Value → H} {W : World} {v : Value} {d : DataW H} {p : List MemPlace} {base : Nat}
    (hv : Value.okWide Try.prog W .any base 36 v) (h : DataW.Trod enc Try.prog W 0 (fun _ => true) true 36 v d p) (hr : ∀ elems sp, d = .slice elems sp → elems.length ≤ 4611686018427387904) : ∃ ss, IsTexts W v ss := by
  obtain ⟨a, len, cap, rfl⟩ := okWide_slice Try.underlying36 hv
  obtain ⟨fuel, hf⟩ := h
  rcases open_strings Try.underlying36 Try.underlying9 (by kernel_rfl) hf with ⟨hcs, _⟩ | ⟨x, l, c, ss, hcs, _, hl, hm, hz, hx, hcell, hws⟩
  · simp [Value.cells] at hcs
    obtain ⟨rfl, rfl, rfl⟩ := hcs
    exact ⟨[], by decide, none, 0, rfl, Or.inl rfl⟩
  · simp [Value.cells] at hcs
    obtain ⟨rfl, rfl, rfl⟩ := hcs
    have hz' : ss.length = cap := by simpa using hz
    have hlen : (ss.take len).length = len := by rw [List.length_take]; omega
    have hb : len ≤ 4611686018427387904 := by
      have := hr _ _ (congrArg Prod.fst hx)
      simp [Go.ChangeShapes.strs] at this
      omega
    refine ⟨ss.take len, by rw [hlen]; exact hb, some x, cap, by rw [hlen], ?_⟩
    by_cases h0 : len = 0
    · exact Or.inl (by rw [h0]; rfl)
    · obtain ⟨b, off, spot⟩ := x
      have hspot : spot = none := by simpa [Addr.add] using World.cell?_spot (hcell 0 (by omega))
      subst hspot
      refine Or.inr ⟨b, off, rfl, fun j hj => ?_⟩
      rw [hlen] at hj
      rw [← Go.WideShapes.add_plain, hcell j (by omega)]
      simp [List.getD, List.getElem?_eq_getElem (show j < ss.length by omega)]

set_option maxRecDepth 100000 in
theorem back_lifted (os : Os) (started : os.Started) (H : Type) (enc : TypeId × Value → H) :
    ReturnsInHanded {} Try.checked os 5 .any (Rows.wireBackTextsSpec.pre6 enc Try.prog Try.f5 Rows.wireBackTextsRow.domain false) (Rows.wireBackTextsSpec.post enc Try.prog Try.f5 false true false false) := by
  refine returnsInHanded_of_change_sized (C := Try.checked) own started (by kernel_rfl) Try.func5
    (ChangeSpec.witness6 (enc := enc) (C := Try.checked) false ⟨#[], #[.slice none 0 0, .slice none 0 0], []⟩ 8 (by kernel_rfl) (by kernel_rfl) (by kernel_rfl) (by kernel_rfl)) ?_
  intro W base args ds gs before hval0 hW hcnd hsz0 _
  have hval : ∀ (j : Nat) t v, Try.f5.params[j]? = some t → args[j]? = some v → Value.okWide Try.prog W .any base t v := hval0
  have hW' := hW
  obtain ⟨p, q, hA0, hV, rfl, hfz, hnd⟩ := hW
  have hA : DataW.TrodAll enc Try.prog W 0 (fun _ => true) true Try.f5.params.toList args.toList ds p := hA0
  have hsz : (DataW.weightsEach Try.prog (Try.f5.params.toList ++ Rows.wireBackTextsSpec.plain.varTypes Try.prog) (ds ++ gs)).all (· ≤ reachBytes) = true := hsz0
  rw [Try.params5] at hA hval hsz
  obtain ⟨v0, v1, d0, d1, p0, p1, rfl, rfl, rfl, h0, h1⟩ := trodAll_two hA
  obtain ⟨rfl, rfl⟩ := trodVars_none hV
  have r0 : ∀ elems sp, d0 = .slice elems sp → elems.length ≤ 4611686018427387904 := fun elems sp he => by
    have h1 := sized_slice hsz (j := 0) (t := 36) rfl (by rw [he]; rfl) Try.underlying36
    have h2 := reachBytes_lt
    rw [bytesS] at h1
    omega
  have r1 : ∀ elems sp, d1 = .slice elems sp → elems.length ≤ 4611686018427387904 := fun elems sp he => by
    have h1 := sized_slice hsz (j := 1) (t := 36) rfl (by rw [he]; rfl) Try.underlying36
    have h2 := reachBytes_lt
    rw [bytesS] at h1
    omega
  obtain ⟨ss, i0⟩ := arg_texts (hval 0 36 v0 rfl rfl) h0 r0
  obtain ⟨ss', i1⟩ := arg_texts (hval 1 36 v1 rfl rfl) h1 r1
  have lt0 : ∀ x ∈ p0, x.block < W.heap.size := by obtain ⟨m, hm⟩ := h0; exact DataW.trod_lt m _ _ _ hm
  have lt1 : ∀ x ∈ p1, x.block < W.heap.size := by obtain ⟨m, hm⟩ := h1; exact DataW.trod_lt m _ _ _ hm
  clear hA0 hval0
  refine (back_walk v0 v1 ss ss' W i0 i1).mono fun e W' ⟨he, bel⟩ => ?_
  subst he
  exact ⟨_, rfl, _, _, _, [], _, [], hW', trodAll_mk1 (shut_bool Try.underlying4 _), trodAll_mk2 (Below.trod laidOut (by kernel_rfl) (of_decide_eq_true (by kernel_rfl)) h0 bel lt0) (Below.trod laidOut (by kernel_rfl) (of_decide_eq_true (by kernel_rfl)) h1 bel lt1), rfl, bel.frame _, fun h => by cases h⟩

theorem wireBackTexts_holds : Rows.WireBackTextsSaid :=
  OpenClaim.holds_of_wide 5 Try.f5 rfl rfl rfl rfl rfl rfl rfl ⟨rfl, rfl, rfl, rfl, rfl⟩ rfl rfl rfl rfl rfl (by kernel_rfl) Try.func5 (by kernel_rfl)
    (of_decide_eq_true (by kernel_rfl)) (by unfold Func.isWrapper; first | (rw [if_pos (by decide +kernel)]; kernel_rfl) | (rw [if_neg (by decide +kernel)]; exact ⟨rfl, rfl⟩))
    (fun os started H enc _ => back_lifted os started H enc)
#print axioms wireBackTexts_holds
end Go.Proofs.Ytligalcphlfmcad
