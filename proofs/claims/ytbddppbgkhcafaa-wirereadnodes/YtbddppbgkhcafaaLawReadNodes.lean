/- WireReadNodes holds: for every text and every list of nodes that can be read, what ReadNodes answers is packed as the text that was handed in, else it is ErrForm, and the list is not packed so; both read behind the call as they read before; no condition. -/
import Derived.Test.YtbddppbgkhcafaaNdUse
import Derived.Test.YtbddppbgkhcafaaRdDNo
namespace Go.Proofs.Ytbddppbgkhcafaa
open Go.ChangeShapes Go.WideShapes Go.ChangeAt Go.RowKit Go.Shelf
open Go.ChangeMaps (open_string shut_string)

theorem no_ns {s : ByteArray} (h : NoNodes s) (ns : List Nd) (hok : neC ns = 0) : pk ns.length ++ pkDD ns ≠ s.data.toList := fun he => h ⟨ns, hok, he.symm⟩

set_option maxHeartbeats 2000000 in
set_option maxRecDepth 100000 in
theorem rd_yes (ns0 : List Nd) (v : Value) (ns : List Nd) (w : World) (h : IsNodes w v ns) (hok : neC ns0 = 0) :
    Calls Try.prog 4 #[.string ⟨(pk ns0.length ++ pkDD ns0).toArray⟩, v] w fun e w' => e = .returned (.bool true) ∧ Below w.heap.size w w' := by
  have HK : Hid (neC ns0 = 0) := hok
  have N1 : Hid (ns0.length ≤ 4611686018427387904) := by have := (neC_ok hok).1.1; show _ ≤ _; omega
  have M1 : Hid (∀ n ∈ ns0, n.1.size ≤ maxLen ∧ n.2.2.size ≤ maxLen) := fun n hn => by
    obtain ⟨o1, _, _, o4⟩ := (neC_ok hok).1.2 n hn
    unfold maxLen
    omega
  obtain ⟨_, _, a, cap, rfl, _⟩ := h
  clear hok
  go_enter Try.func4, Try.ntmps4
  go_wp2_with fail
  refine (ReadNodes_ns ns0 w HK.out).mono ?_
  rintro e w1 ⟨x, rfl, hx, hb1⟩
  have X1 : Hid (OldNodes w1.heap.size w1 x ns0) := hx
  have B1 : Hid (Below w.heap.size w w1) := hb1
  obtain ⟨ax, capx, rfl, _⟩ := hx
  clear hb1
  go_wp2_with fail
  refine (wireBegun_any w1).mono ?_
  rintro e w2 ⟨rfl, hb2⟩
  have B2 : Hid (Below w.heap.size w w2) := B1.out.trans (hb2.mono B1.out.size)
  have X2 : Hid (OldNodes w2.heap.size w2 (.slice ax ns0.length capx) ns0) := oldN_up (nodes_below X1.out hb2) hb2.size
  clear hb2
  go_wp2_with fail
  refine (wireBegun_any w2).mono ?_
  rintro e w3 ⟨rfl, hb3⟩
  have B3 : Hid (Below w.heap.size w w3) := B2.out.trans (hb3.mono B2.out.size)
  have X3 : Hid (OldNodes w3.heap.size w3 (.slice ax ns0.length capx) ns0) := oldN_up (nodes_below X2.out hb3) hb3.size
  clear hb3
  go_wp2_with fail
  refine (ck_any _ ns0 w3 (nodes_of X3.out (Nat.le_refl _) N1.out M1.out)).mono ?_
  rintro e w4 ⟨rfl, hb4⟩
  rw [HK.out]
  have B4 : Hid (Below w.heap.size w w4) := B3.out.trans (hb4.mono B3.out.size)
  have X4 : Hid (OldNodes w4.heap.size w4 (.slice ax ns0.length capx) ns0) := oldN_up (nodes_below X3.out hb4) hb4.size
  clear hb4
  go_wp2_with fail
  refine (packnodes_any _ ns0 w4 (neC_ok HK.out).1 X4.out).mono ?_
  rintro e w5 ⟨rfl, hb5⟩
  have B5 : Hid (Below w.heap.size w w5) := B4.out.trans (hb5.mono B4.out.size)
  clear hb5
  go_wp2
  go_ret
  exact ⟨by simp, B5.out⟩

set_option maxHeartbeats 2000000 in
set_option maxRecDepth 100000 in
theorem rd_no (s : ByteArray) (v : Value) (ns : List Nd) (w : World) (hs : s.size ≤ 140737488355328) (h : IsNodes w v ns) (hno : NoNodes s) :
    Calls Try.prog 4 #[.string s, v] w fun e w' => e = .returned (.bool true) ∧ Below w.heap.size w w' := by
  have HN : Hid (NoNodes s) := hno
  have O1 : Hid _ := oldN_of w v ns h
  have I1 : Hid (IsNodes w v ns) := h
  obtain ⟨_, _, a, cap, rfl, _⟩ := h
  clear hno
  by_cases hok : neC ns = 0
  · have HK : Hid (neC ns = 0) := hok
    have hne : (pk ns.length ++ pkDD ns == s.toList) = false := by
      rw [beq_eq_false_iff_ne, Lib.toList_data]
      exact no_ns HN.out ns hok
    clear hok
    go_enter Try.func4, Try.ntmps4
    go_wp2_with fail
    refine (ReadNodes_no s w hs HN.out).mono ?_
    rintro e w1 ⟨rfl, hb1⟩
    have B1 : Hid (Below w.heap.size w w1) := hb1
    clear hb1
    go_wp2_with fail
    refine (wireBegun_any w1).mono ?_
    rintro e w2 ⟨rfl, hb2⟩
    have B2 : Hid (Below w.heap.size w w2) := B1.out.trans (hb2.mono B1.out.size)
    clear hb2
    go_wp2_with fail
    refine (ck_any _ ns w2 (nodes_of (nodes_below O1.out B2.out) B2.out.size I1.out.1 I1.out.2.1)).mono ?_
    rintro e w3 ⟨rfl, hb3⟩
    rw [HK.out]
    have B3 : Hid (Below w.heap.size w w3) := B2.out.trans (hb3.mono B2.out.size)
    clear hb3
    go_wp2_with fail
    refine (packnodes_any _ ns w3 (neC_ok HK.out).1 (oldN_up (nodes_below O1.out B3.out) B3.out.size)).mono ?_
    rintro e w4 ⟨rfl, hb4⟩
    have B4 : Hid (Below w.heap.size w w4) := B3.out.trans (hb4.mono B3.out.size)
    clear hb4
    go_wp2
    go_ret
    exact ⟨rfl, B4.out⟩
  · have HK : Hid (neC ns ≠ 0) := hok
    have hne : (neC ns != 0) = true := by rw [bne_iff_ne]; exact hok
    clear hok
    go_enter Try.func4, Try.ntmps4
    go_wp2_with fail
    refine (ReadNodes_no s w hs HN.out).mono ?_
    rintro e w1 ⟨rfl, hb1⟩
    have B1 : Hid (Below w.heap.size w w1) := hb1
    clear hb1
    go_wp2_with fail
    refine (wireBegun_any w1).mono ?_
    rintro e w2 ⟨rfl, hb2⟩
    have B2 : Hid (Below w.heap.size w w2) := B1.out.trans (hb2.mono B1.out.size)
    clear hb2
    go_wp2_with fail
    refine (ck_any _ ns w2 (nodes_of (nodes_below O1.out B2.out) B2.out.size I1.out.1 I1.out.2.1)).mono ?_
    rintro e w3 ⟨rfl, hb3⟩
    have B3 : Hid (Below w.heap.size w w3) := B2.out.trans (hb3.mono B2.out.size)
    clear hb3
    generalize neC ns = c at hne ⊢
    go_wp2
    go_ret
    exact ⟨rfl, B3.out⟩

theorem rd_walk (s : ByteArray) (v : Value) (ns : List Nd) (w : World) (hs : s.size ≤ 140737488355328) (h : IsNodes w v ns) :
    Calls Try.prog 4 #[.string s, v] w fun e w' => e = .returned (.bool true) ∧ Below w.heap.size w w' := by
  by_cases hno : NoNodes s
  · exact rd_no s v ns w hs h hno
  · obtain ⟨ns0, hok, he⟩ := Classical.not_not.1 hno
    obtain rfl : s = ⟨(pk ns0.length ++ pkDD ns0).toArray⟩ := bytes_eq he
    exact rd_yes ns0 v ns w h hok

set_option maxRecDepth 100000 in
theorem rd_lifted (os : Os) (started : os.Started) (H : Type) (enc : TypeId × Value → H) :
    ReturnsInHanded {} Try.checked os 4 .any (Rows.wireReadNodesSpec.pre6 enc Try.prog Try.f4 Rows.wireReadNodesRow.domain false) (Rows.wireReadNodesSpec.post enc Try.prog Try.f4 false true false false) := by
  refine returnsInHanded_of_change_sized (C := Try.checked) own started (by kernel_rfl) Try.func4
    (ChangeSpec.witness6 (enc := enc) (C := Try.checked) false ⟨#[], #[.string ByteArray.empty, .slice none 0 0], []⟩ 8 (by kernel_rfl) (by kernel_rfl) (by kernel_rfl) (by kernel_rfl)) ?_
  intro W base args ds gs before hval0 hW hcnd hsz0 _
  have hval : ∀ (j : Nat) t v, Try.f4.params[j]? = some t → args[j]? = some v → Value.okWide Try.prog W .any base t v := hval0
  have hW' := hW
  obtain ⟨p, q, hA0, hV, rfl, hfz, hnd⟩ := hW
  have hA : DataW.TrodAll enc Try.prog W 0 (fun _ => true) true Try.f4.params.toList args.toList ds p := hA0
  have hsz : (DataW.weightsEach Try.prog (Try.f4.params.toList ++ Rows.wireReadNodesSpec.plain.varTypes Try.prog) (ds ++ gs)).all (· ≤ reachBytes) = true := hsz0
  rw [Try.params4] at hA hval hsz
  obtain ⟨v0, v1, d0, d1, p0, p1, rfl, rfl, rfl, h0, h1⟩ := trodAll_two hA
  obtain ⟨rfl, rfl⟩ := trodVars_none hV
  obtain ⟨a0, rfl, rfl, rfl, w0⟩ := open_string Try.underlying9 (hval 0 9 v0 rfl rfl) h0
  have hr : a0.size ≤ 140737488355328 := by
    have h2 := sized_string hsz (j := 0) (t := 9) rfl rfl
    have h3 := reachBytes_lt
    rw [← size_of (s := a0) rfl] at h2
    omega
  have r1 : ∀ elems sp, d1 = .slice elems sp → elems.length ≤ 4611686018427387904 := fun elems sp he => by
    have h1 := sized_slice hsz (j := 1) (t := 22) rfl (by rw [he]; rfl) Try.underlying22
    have h2 := reachBytes_lt
    rw [bytesD] at h1
    omega
  obtain ⟨ns, i1⟩ := arg_nodes (hval 1 22 v1 rfl rfl) h1 r1
  have lt1 : ∀ x ∈ p1, x.block < W.heap.size := by obtain ⟨m, hm⟩ := h1; exact DataW.trod_lt m _ _ _ hm
  clear hA0 hval0
  refine (rd_walk a0 v1 ns W hr i1).mono fun e W' ⟨he, bel⟩ => ?_
  subst he
  exact ⟨_, rfl, _, _, _, [], _, [], hW', trodAll_mk1 (shut_bool Try.underlying4 _), trodAll_mk2 (shut_string Try.underlying9 w0) (Below.trod laidOut (by kernel_rfl) (of_decide_eq_true (by kernel_rfl)) h1 bel lt1), rfl, bel.frame _, fun h => by cases h⟩

theorem wireReadNodes_holds : Rows.WireReadNodesSaid :=
  OpenClaim.holds_of_wide 4 Try.f4 rfl rfl rfl rfl rfl rfl rfl ⟨rfl, rfl, rfl, rfl, rfl⟩ rfl rfl rfl rfl rfl (by kernel_rfl) Try.func4 (by kernel_rfl)
    (of_decide_eq_true (by kernel_rfl)) (by unfold Func.isWrapper; first | (rw [if_pos (by decide +kernel)]; kernel_rfl) | (rw [if_neg (by decide +kernel)]; exact ⟨rfl, rfl⟩))
    (fun os started H enc _ => rd_lifted os started H enc)
#print axioms wireReadNodes_holds
end Go.Proofs.Ytbddppbgkhcafaa
