/- WireReadTexts holds: for every text and every list of texts that can be read, what ReadTexts answers is packed as the text that was handed in, else it is ErrForm, and the list is not packed so; both read behind the call as they read before; no condition. -/
import Derived.Test.YtligalcphlfmcacInj
import Derived.Test.YtligalcphlfmcacRefTexts
import Derived.Test.YtligalcphlfmcacWholeNo
import Derived.Test.YtligalcphlfmcacArgT
namespace Go.Proofs.Ytligalcphlfmcac
open Go.ChangeShapes Go.WideShapes Go.ChangeAt Go.RowKit Go.Shelf
open Go.ChangeMaps (open_string shut_string)

theorem no_ss {s : ByteArray} (h : NoTexts s) (ss : List ByteArray) (hok : okTexts ss) : pk ss.length ++ pkSS ss ≠ s.data.toList := by
  intro he
  refine h ⟨ss.map fun x => x.data.toList, by simpa using hok.1, fun t ht => ?_, ?_⟩
  · obtain ⟨x, hx, rfl⟩ := List.mem_map.1 ht
    rw [← size_of (s := x) rfl]
    exact hok.2 x hx
  · rw [pkAll_map, ← he, List.length_map]
theorem yes_ss {s : ByteArray} (h : ¬ NoTexts s) : ∃ ss, okTexts ss ∧ s = ⟨(pk ss.length ++ pkSS ss).toArray⟩ := by
  obtain ⟨l, h1, h2, h3⟩ := Classical.not_not.1 h
  refine ⟨l.map fun t => ⟨t.toArray⟩, ⟨by simpa using h1, fun x hx => ?_⟩, ?_⟩
  · obtain ⟨t, ht, rfl⟩ := List.mem_map.1 hx
    rw [show (⟨t.toArray⟩ : ByteArray).size = t.length from size_of rfl]
    exact h2 t ht
  · rw [pkSS_all, List.length_map]
    exact bytes_eq h3

set_option maxHeartbeats 2000000 in
set_option maxRecDepth 100000 in
theorem rt_yes (ss0 : List ByteArray) (v : Value) (ss : List ByteArray) (w : World) (h : IsTexts w v ss) (hok : okTexts ss0) :
    Calls Try.prog 6 #[.string ⟨(pk ss0.length ++ pkSS ss0).toArray⟩, v] w fun e w' => e = .returned (.bool true) ∧ Below w.heap.size w w' := by
  have HK : Hid (okTexts ss0) := hok
  have N1 : Hid (ss0.length ≤ 4611686018427387904) := by have := hok.1; show _ ≤ _; omega
  obtain ⟨_, a, cap, rfl, _⟩ := h
  clear hok
  go_enter Try.func6, Try.ntmps6
  go_wp2_with fail
  refine (ReadTexts_ss ss0 w HK.out).mono ?_
  rintro e w1 ⟨x, rfl, hx, hb1⟩
  have X1 : Hid (OldTexts w1.heap.size w1 x ss0) := hx
  have B1 : Hid (Below w.heap.size w w1) := hb1
  obtain ⟨ax, capx, rfl, _⟩ := hx
  clear hb1
  go_wp2_with fail
  refine (wireBegun_any w1).mono ?_
  rintro e w2 ⟨rfl, hb2⟩
  have B2 : Hid (Below w.heap.size w w2) := B1.out.trans (hb2.mono B1.out.size)
  have X2 : Hid (OldTexts w1.heap.size w2 (.slice ax ss0.length capx) ss0) := texts_below X1.out hb2
  clear hb2
  go_wp2_with fail
  refine (wireBegun_any w2).mono ?_
  rintro e w3 ⟨rfl, hb3⟩
  have B3 : Hid (Below w.heap.size w w3) := B2.out.trans (hb3.mono B2.out.size)
  have X3 : Hid (OldTexts w2.heap.size w3 (.slice ax ss0.length capx) ss0) := texts_below (old_of _ _ _ (texts_of X2.out N1.out)) hb3
  clear hb3
  go_wp2_with fail
  refine ((cl_any 2000 _ ss0 w3 (texts_of X3.out N1.out)).1 HK.out).mono ?_
  rintro e w3' ⟨rfl, rfl⟩
  go_wp2_with fail
  refine (packtexts_any _ ss0 w3' HK.out (old_of _ _ _ (texts_of X3.out N1.out))).mono ?_
  rintro e w4 ⟨rfl, hb4⟩
  have B4 : Hid (Below w.heap.size w w4) := B3.out.trans (hb4.mono B3.out.size)
  clear hb4
  go_wp2
  go_ret
  exact ⟨by simp, B4.out⟩

set_option maxHeartbeats 2000000 in
set_option maxRecDepth 100000 in
theorem rt_no (s : ByteArray) (v : Value) (ss : List ByteArray) (w : World) (hs : s.size ≤ 140737488355328) (h : IsTexts w v ss) (hno : NoTexts s) :
    Calls Try.prog 6 #[.string s, v] w fun e w' => e = .returned (.bool true) ∧ Below w.heap.size w w' := by
  have HN : Hid (NoTexts s) := hno
  have O1 : Hid _ := old_of w v ss h
  have N1 : Hid _ := h.1
  obtain ⟨_, a, cap, rfl, _⟩ := h
  clear hno
  by_cases hok : okTexts ss
  · have HK : Hid (okTexts ss) := hok
    have hne : (pk ss.length ++ pkSS ss == s.toList) = false := by
      rw [beq_eq_false_iff_ne, Lib.toList_data]
      exact no_ss HN.out ss hok
    clear hok
    go_enter Try.func6, Try.ntmps6
    go_wp2_with fail
    refine (ReadTexts_no s w hs HN.out).mono ?_
    rintro e w1 ⟨rfl, hb1⟩
    have B1 : Hid (Below w.heap.size w w1) := hb1
    clear hb1
    go_wp2_with fail
    refine (wireBegun_any w1).mono ?_
    rintro e w2 ⟨rfl, hb2⟩
    have B2 : Hid (Below w.heap.size w w2) := B1.out.trans (hb2.mono B1.out.size)
    clear hb2
    go_wp2_with fail
    refine ((cl_any 2000 _ ss w2 (texts_of (texts_below O1.out B2.out) N1.out)).1 HK.out).mono ?_
    rintro e w3' ⟨rfl, rfl⟩
    go_wp2_with fail
    refine (packtexts_any _ ss w3' HK.out (old_of _ _ _ (texts_of (texts_below O1.out B2.out) N1.out))).mono ?_
    rintro e w4 ⟨rfl, hb4⟩
    have B4 : Hid (Below w.heap.size w w4) := B2.out.trans (hb4.mono B2.out.size)
    clear hb4
    go_wp2
    go_ret
    exact ⟨rfl, B4.out⟩
  · have HK : Hid (¬ okTexts ss) := hok
    clear hok
    go_enter Try.func6, Try.ntmps6
    go_wp2_with fail
    refine (ReadTexts_no s w hs HN.out).mono ?_
    rintro e w1 ⟨rfl, hb1⟩
    have B1 : Hid (Below w.heap.size w w1) := hb1
    clear hb1
    go_wp2_with fail
    refine (wireBegun_any w1).mono ?_
    rintro e w2 ⟨rfl, hb2⟩
    have B2 : Hid (Below w.heap.size w w2) := B1.out.trans (hb2.mono B1.out.size)
    clear hb2
    go_wp2_with fail
    refine ((cl_any 2000 _ ss w2 (texts_of (texts_below O1.out B2.out) N1.out)).2 HK.out).mono ?_
    rintro e w3' ⟨rfl, rfl⟩
    go_wp2
    go_ret
    exact ⟨rfl, B2.out⟩

theorem rt_walk (s : ByteArray) (v : Value) (ss : List ByteArray) (w : World) (hs : s.size ≤ 140737488355328) (h : IsTexts w v ss) :
    Calls Try.prog 6 #[.string s, v] w fun e w' => e = .returned (.bool true) ∧ Below w.heap.size w w' := by
  by_cases hno : NoTexts s
  · exact rt_no s v ss w hs h hno
  · obtain ⟨ss0, hok, rfl⟩ := yes_ss hno
    exact rt_yes ss0 v ss w h hok

set_option maxRecDepth 100000 in
theorem rt_lifted (os : Os) (started : os.Started) (H : Type) (enc : TypeId × Value → H) :
    ReturnsInHanded {} Try.checked os 6 .any (Rows.wireReadTextsSpec.pre6 enc Try.prog Try.f6 Rows.wireReadTextsRow.domain false) (Rows.wireReadTextsSpec.post enc Try.prog Try.f6 false true false false) := by
  refine returnsInHanded_of_change_sized (C := Try.checked) own started (by kernel_rfl) Try.func6
    (ChangeSpec.witness6 (enc := enc) (C := Try.checked) false ⟨#[], #[.string ByteArray.empty, .slice none 0 0], []⟩ 8 (by kernel_rfl) (by kernel_rfl) (by kernel_rfl) (by kernel_rfl)) ?_
  intro W base args ds gs before hval0 hW hcnd hsz0 _
  have hval : ∀ (j : Nat) t v, Try.f6.params[j]? = some t → args[j]? = some v → Value.okWide Try.prog W .any base t v := hval0
  have hW' := hW
  obtain ⟨p, q, hA0, hV, rfl, hfz, hnd⟩ := hW
  have hA : DataW.TrodAll enc Try.prog W 0 (fun _ => true) true Try.f6.params.toList args.toList ds p := hA0
  have hsz : (DataW.weightsEach Try.prog (Try.f6.params.toList ++ Rows.wireReadTextsSpec.plain.varTypes Try.prog) (ds ++ gs)).all (· ≤ reachBytes) = true := hsz0
  rw [Try.params6] at hA hval hsz
  obtain ⟨v0, v1, d0, d1, p0, p1, rfl, rfl, rfl, h0, h1⟩ := trodAll_two hA
  obtain ⟨rfl, rfl⟩ := trodVars_none hV
  obtain ⟨a0, rfl, rfl, rfl, w0⟩ := open_string Try.underlying9 (hval 0 9 v0 rfl rfl) h0
  have hr : a0.size ≤ 140737488355328 := by
    have h2 := sized_string hsz (j := 0) (t := 9) rfl rfl
    have h3 := reachBytes_lt
    rw [← size_of (s := a0) rfl] at h2
    omega
  obtain ⟨ss, i1⟩ := arg_texts (hval 1 22 v1 rfl rfl) h1 (arg_len hsz 1 d1 rfl rfl)
  have lt1 : ∀ x ∈ p1, x.block < W.heap.size := by obtain ⟨m, hm⟩ := h1; exact DataW.trod_lt m _ _ _ hm
  clear hA0 hval0
  refine (rt_walk a0 v1 ss W hr i1).mono fun e W' ⟨he, bel⟩ => ?_
  subst he
  exact ⟨_, rfl, _, _, _, [], _, [], hW', trodAll_mk1 (shut_bool Try.underlying4 _), trodAll_mk2 (shut_string Try.underlying9 w0) (Below.trod laidOut (by kernel_rfl) (of_decide_eq_true (by kernel_rfl)) h1 bel lt1), rfl, bel.frame _, fun h => by cases h⟩

theorem wireReadTexts_holds : Rows.WireReadTextsSaid :=
  OpenClaim.holds_of_wide 6 Try.f6 rfl rfl rfl rfl rfl rfl rfl ⟨rfl, rfl, rfl, rfl, rfl⟩ rfl rfl rfl rfl rfl (by kernel_rfl) Try.func6 (by kernel_rfl)
    (of_decide_eq_true (by kernel_rfl)) (by unfold Func.isWrapper; first | (rw [if_pos (by decide +kernel)]; kernel_rfl) | (rw [if_neg (by decide +kernel)]; exact ⟨rfl, rfl⟩))
    (fun os started H enc _ => rt_lifted os started H enc)
#print axioms wireReadTexts_holds
end Go.Proofs.Ytligalcphlfmcac
