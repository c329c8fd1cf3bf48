/- WireNodes holds: for every list of nodes that can be read Nodes answers just as the document says, errors too, and the list reads behind the call as it read before; no condition. -/
import Derived.Test.YtbddppbgkhcafaaNdUse
namespace Go.Proofs.Ytbddppbgkhcafaa
open Go.ChangeShapes Go.WideShapes Go.ChangeAt Go.RowKit Go.Shelf
open Go.ChangeMaps (open_string shut_string)

set_option maxHeartbeats 1000000 in
set_option maxRecDepth 100000 in
theorem nodes_yes (v : Value) (ns : List Nd) (w : World) (h : IsNodes w v ns) (hok : neC ns = 0) :
    Calls Try.prog 3 #[v] w fun e w' => e = .returned (.bool true) ∧ Below w.heap.size w w' := by
  have O1 : Hid _ := oldN_of w v ns h
  have I1 : Hid (IsNodes w v ns) := h
  have HK : Hid _ := hok
  obtain ⟨_, _, a, cap, rfl, _⟩ := h
  clear hok
  go_enter Try.func3, Try.ntmps3
  go_wp2_with fail
  refine (Nodes_yes _ ns w HK.out I1.out).mono ?_
  rintro e w1 ⟨rfl, hb1⟩
  have B1 : Hid (Below w.heap.size w w1) := hb1
  clear hb1
  go_wp2_with fail
  refine (ck_any _ ns w1 (nodes_of (nodes_below O1.out B1.out) B1.out.size I1.out.1 I1.out.2.1)).mono ?_
  rintro e w2 ⟨rfl, hb2⟩
  rw [HK.out]
  have B2 : Hid (Below w.heap.size w w2) := B1.out.trans (hb2.mono B1.out.size)
  clear hb2
  go_wp2_with fail
  refine (packnodes_any _ ns w2 (neC_ok HK.out).1 (oldN_up (nodes_below O1.out B2.out) B2.out.size)).mono ?_
  rintro e w3 ⟨rfl, hb3⟩
  have B3 : Hid (Below w.heap.size w w3) := B2.out.trans (hb3.mono B2.out.size)
  clear hb3
  go_wp2_with fail
  refine (wireBegun_any w3).mono ?_
  rintro e w4 ⟨rfl, hb4⟩
  have B4 : Hid (Below w.heap.size w w4) := B3.out.trans (hb4.mono B3.out.size)
  clear hb4
  go_wp2_with fail
  refine (textIs_ok _ w4).mono ?_
  rintro e w5 ⟨rfl, rfl⟩
  go_wp2
  go_ret
  exact ⟨rfl, B4.out⟩

set_option maxHeartbeats 1000000 in
set_option maxRecDepth 100000 in
theorem nodes_no (v : Value) (ns : List Nd) (w : World) (h : IsNodes w v ns) (hok : neC ns ≠ 0) :
    Calls Try.prog 3 #[v] w fun e w' => e = .returned (.bool true) ∧ Below w.heap.size w w' := by
  have O1 : Hid _ := oldN_of w v ns h
  have I1 : Hid (IsNodes w v ns) := h
  have HK : Hid (neC ns ≠ 0) := hok
  obtain ⟨_, _, a, cap, rfl, _⟩ := h
  clear hok
  go_enter Try.func3, Try.ntmps3
  go_wp2_with fail
  refine (Nodes_no _ ns w HK.out I1.out).mono ?_
  rintro e w1 ⟨rfl, hb1⟩
  have B1 : Hid (Below w.heap.size w w1) := hb1
  clear hb1
  go_wp2_with fail
  refine (ck_any _ ns w1 (nodes_of (nodes_below O1.out B1.out) B1.out.size I1.out.1 I1.out.2.1)).mono ?_
  rintro e w2 ⟨rfl, hb2⟩
  have B2 : Hid (Below w.heap.size w w2) := B1.out.trans (hb2.mono B1.out.size)
  clear hb2
  have hne : (neC ns != 0) = true := by rw [bne_iff_ne]; exact HK.out
  generalize neC ns = c at hne ⊢
  have HNE : Hid (( c != 0) = true) := hne
  go_wp2_with fail
  refine (wireBegun_any w2).mono ?_
  rintro e w3 ⟨rfl, hb3⟩
  have B3 : Hid (Below w.heap.size w w3) := B2.out.trans (hb3.mono B2.out.size)
  clear hb3
  go_wp2_with fail
  refine (textIs_no c _ w3 HNE.out).mono ?_
  rintro e w4 ⟨rfl, rfl⟩
  go_wp2
  go_ret
  exact ⟨rfl, B3.out⟩

theorem nodes_walk (v : Value) (ns : List Nd) (w : World) (h : IsNodes w v ns) :
    Calls Try.prog 3 #[v] w fun e w' => e = .returned (.bool true) ∧ Below w.heap.size w w' := by
  by_cases hok : neC ns = 0
  · exact nodes_yes v ns w h hok
  · exact nodes_no v ns w h hok

set_option maxRecDepth 100000 in
theorem nodes_lifted (os : Os) (started : os.Started) (H : Type) (enc : TypeId × Value → H) :
    ReturnsInHanded {} Try.checked os 3 .any (Rows.wireNodesSpec.pre6 enc Try.prog Try.f3 Rows.wireNodesRow.domain false) (Rows.wireNodesSpec.post enc Try.prog Try.f3 false true false false) := by
  refine returnsInHanded_of_change_sized (C := Try.checked) own started (by kernel_rfl) Try.func3
    (ChangeSpec.witness6 (enc := enc) (C := Try.checked) false ⟨#[], #[.slice none 0 0], []⟩ 8 (by kernel_rfl) (by kernel_rfl) (by kernel_rfl) (by kernel_rfl)) ?_
  intro W base args ds gs before hval0 hW hcnd hsz0 _
  have hval : ∀ (j : Nat) t v, Try.f3.params[j]? = some t → args[j]? = some v → Value.okWide Try.prog W .any base t v := hval0
  have hW' := hW
  obtain ⟨p, q, hA0, hV, rfl, hfz, hnd⟩ := hW
  have hA : DataW.TrodAll enc Try.prog W 0 (fun _ => true) true Try.f3.params.toList args.toList ds p := hA0
  have hsz : (DataW.weightsEach Try.prog (Try.f3.params.toList ++ Rows.wireNodesSpec.plain.varTypes Try.prog) (ds ++ gs)).all (· ≤ reachBytes) = true := hsz0
  rw [Try.params3] at hA hval hsz
  obtain ⟨v0, d0, rfl, rfl, h0⟩ := trodAll_one hA
  obtain ⟨rfl, rfl⟩ := trodVars_none hV
  have r0 : ∀ elems sp, d0 = .slice elems sp → elems.length ≤ 4611686018427387904 := fun elems sp he => by
    have h1 := sized_slice hsz (j := 0) (t := 22) rfl (by rw [he]; rfl) Try.underlying22
    have h2 := reachBytes_lt
    rw [bytesD] at h1
    omega
  obtain ⟨ns, i0⟩ := arg_nodes (hval 0 22 v0 rfl rfl) h0 r0
  have lt0 : ∀ x ∈ p, x.block < W.heap.size := by obtain ⟨m, hm⟩ := h0; exact DataW.trod_lt m _ _ _ hm
  clear hA0 hval0
  refine (nodes_walk v0 ns W i0).mono fun e W' ⟨he, bel⟩ => ?_
  subst he
  exact ⟨_, rfl, _, _, _, [], _, [], hW', trodAll_mk1 (shut_bool Try.underlying4 _), trodAll_mk1 (Below.trod laidOut (by kernel_rfl) (of_decide_eq_true (by kernel_rfl)) h0 bel lt0), rfl, bel.frame _, fun h => by cases h⟩

theorem wireNodes_holds : Rows.WireNodesSaid :=
  OpenClaim.holds_of_wide 3 Try.f3 rfl rfl rfl rfl rfl rfl rfl ⟨rfl, rfl, rfl, rfl, rfl⟩ rfl rfl rfl rfl rfl (by kernel_rfl) Try.func3 (by kernel_rfl)
    (of_decide_eq_true (by kernel_rfl)) (by unfold Func.isWrapper; first | (rw [if_pos (by decide +kernel)]; kernel_rfl) | (rw [if_neg (by decide +kernel)]; exact ⟨rfl, rfl⟩))
    (fun os started H enc _ => nodes_lifted os started H enc)
#print axioms wireNodes_holds
end Go.Proofs.Ytbddppbgkhcafaa
