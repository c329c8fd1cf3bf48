/- WireBackNodes holds: for all two lists of nodes that can be read, what Nodes packs is read by ReadNodes as it was, and two lists that can be packed are packed alike just if they are the same; both read behind the call as they read before; no condition. -/
import Derived.Test.YtligalcphlfmcadArgD
import Derived.Test.YtligalcphlfmcadSameD
import Derived.Test.YtligalcphlfmcadSame
namespace Go.Proofs.Ytligalcphlfmcad
open Go.ChangeShapes Go.WideShapes Go.ChangeAt Go.RowKit Go.Shelf
open Go.ChangeMaps (open_string shut_string)

theorem own : ownKnob Try.prog.godebug = none := by kernel_rfl
theorem laidOut : laidOutB Try.prog = true := by kernel_rfl
theorem bytesD : Try.prog.bytesOf 75 = 40 := by kernel_rfl

theorem oldN_up {B B' : Nat} {w : World} {v : Value} {ns : List Nd} (h : OldNodes B w v ns) (hb : B ≤ B') : OldNodes B' w v ns := by
  obtain ⟨a, cap, e, hs⟩ := h
  refine ⟨a, cap, e, ?_⟩
  rcases hs with h | ⟨g, o, h1, h2, h3⟩
  · exact Or.inl h
  · exact Or.inr ⟨g, o, h1, Nat.lt_of_lt_of_le h2 hb, h3⟩

theorem ReadNodes_ns (ns : List Nd) (w : World) (hok : neC ns = 0) :
    Calls Try.prog 17 #[.string ⟨(pk ns.length ++ pkDD ns).toArray⟩] w fun e w' => ∃ v, e = .returned (.tuple #[v, .int .i64 0]) ∧ OldNodes w'.heap.size w' v ns ∧ Below w.heap.size w w' := by
  have hd := (neC_ok hok).1
  have hl := pkDs_len ns hd
  refine (ReadNodes_pk _ w ns (by rw [show (⟨(pk ns.length ++ pkDD ns).toArray⟩ : ByteArray).size = (pk ns.length ++ pkDD ns).length from size_of rfl]; unfold maxLen; omega) hok rfl).mono ?_
  rintro e w' ⟨v, rfl, ho, hb⟩
  exact ⟨v, rfl, oldN_of w' v ns (own_nodes ho hd.1 hd.2), hb⟩

set_option maxHeartbeats 2000000 in
set_option maxRecDepth 100000 in
theorem backd_yes (v v' : Value) (ns ns' : List Nd) (w : World) (h : IsNodes w v ns) (h' : IsNodes w v' ns') (hok : neC ns = 0) :
    Calls Try.prog 6 #[v, v'] w fun e w' => e = .returned (.bool true) ∧ Below w.heap.size w w' := by
  have HK : Hid _ := hok
  have O1 : Hid _ := oldN_of w v ns h
  have O2 : Hid _ := oldN_of w v' ns' h'
  have N1 : Hid _ := h.1
  have N2 : Hid _ := h'.1
  have M1 : Hid _ := h.2.1
  have M2 : Hid _ := h'.2.1
  obtain ⟨_, _, a, cap, rfl, _⟩ := h
  obtain ⟨_, _, a', cap', rfl, _⟩ := h'
  clear hok
  go_enter Try.func6, Try.ntmps6
  go_wp2_with fail
  refine (wireBegun_any w).mono ?_
  rintro e w1 ⟨rfl, hb1⟩
  have B1 : Hid _ := hb1
  clear hb1
  go_wp2_with fail
  refine (Nodes_yes _ ns w1 HK.out (nodes_of (nodes_below O1.out B1.out) B1.out.size N1.out M1.out)).mono ?_
  rintro e w2 ⟨rfl, hb2⟩
  have B2 : Hid (Below w.heap.size w w2) := B1.out.trans (hb2.mono B1.out.size)
  clear hb2
  go_wp2_with fail
  refine (ReadNodes_ns ns w2 HK.out).mono ?_
  rintro e w3 ⟨x, rfl, hx, hb3⟩
  have B3 : Hid (Below w.heap.size w w3) := B2.out.trans (hb3.mono B2.out.size)
  have X3 : Hid _ := hx
  obtain ⟨ax, capx, rfl, _⟩ := hx
  clear hb3
  by_cases hok' : neC ns' = 0
  · have HK' : Hid _ := hok'
    clear hok'
    go_wp2_with fail
    refine (Nodes_yes _ ns' w3 HK'.out (nodes_of (nodes_below O2.out B3.out) B3.out.size N2.out M2.out)).mono ?_
    rintro e w4 ⟨rfl, hb4⟩
    have B4 : Hid (Below w.heap.size w w4) := B3.out.trans (hb4.mono B3.out.size)
    have X4 : Hid (OldNodes w4.heap.size w4 (.slice ax ns.length capx) ns) := oldN_up (nodes_below X3.out hb4) hb4.size
    clear hb4
    go_wp2_with fail
    refine (samed_any w4 _ _ ns ns (nodes_of (nodes_below O1.out B4.out) B4.out.size N1.out M1.out) (nodes_of X4.out (Nat.le_refl _) N1.out M1.out)).mono ?_
    rintro e w5 ⟨rfl, n, rfl⟩
    have hd : decide (ns = ns) = true := by simp
    rw [hd]
    have B5 : Hid (Below w.heap.size w (w4.drewN n)) := ⟨B4.out.os, B4.out.tape, B4.out.output, B4.out.size, B4.out.block⟩
    go_wp2_with fail
    refine (samed_any (w4.drewN n) _ _ ns ns' (nodes_of (nodes_below O1.out B5.out) B5.out.size N1.out M1.out) (nodes_of (nodes_below O2.out B5.out) B5.out.size N2.out M2.out)).mono ?_
    rintro e w6 ⟨rfl, m, rfl⟩
    have hfin : ((pk ns.length ++ pkDD ns == pk ns'.length ++ pkDD ns') == decide (ns = ns')) = true := by
      by_cases he : ns = ns'
      · subst he; simp
      · have hne : pk ns.length ++ pkDD ns ≠ pk ns'.length ++ pkDD ns' := fun h => he (pkNodes_inj ns ns' (neC_ok HK.out).1 (neC_ok HK'.out).1 h)
        simp [he, hne]
    have HF : Hid _ := hfin
    clear hfin
    go_wp2
    go_ret
    have b := B4.out
    exact ⟨by rw [← HF.out]; rfl, b.os, b.tape, b.output, b.size, b.block⟩
  · have HN : Hid (neC ns' ≠ 0) := hok'
    clear hok'
    go_wp2_with fail
    refine (Nodes_no _ ns' w3 HN.out (nodes_of (nodes_below O2.out B3.out) B3.out.size N2.out M2.out)).mono ?_
    rintro e w4 ⟨rfl, hb4⟩
    have B4 : Hid (Below w.heap.size w w4) := B3.out.trans (hb4.mono B3.out.size)
    have X4 : Hid (OldNodes w4.heap.size w4 (.slice ax ns.length capx) ns) := oldN_up (nodes_below X3.out hb4) hb4.size
    clear hb4
    have hne : (neC ns' != 0) = true := by rw [bne_iff_ne]; exact HN.out
    generalize neC ns' = r at hne
    go_wp2_with fail
    refine (samed_any w4 _ _ ns ns (nodes_of (nodes_below O1.out B4.out) B4.out.size N1.out M1.out) (nodes_of X4.out (Nat.le_refl _) N1.out M1.out)).mono ?_
    rintro e w5 ⟨rfl, n, rfl⟩
    have hd : decide (ns = ns) = true := by simp
    rw [hd]
    go_wp2
    go_ret
    have b := B4.out
    exact ⟨rfl, b.os, b.tape, b.output, b.size, b.block⟩

set_option maxHeartbeats 1000000 in
theorem backd_no (v v' : Value) (ns ns' : List Nd) (w : World) (h : IsNodes w v ns) (h' : IsNodes w v' ns') (hno : neC ns ≠ 0) :
    Calls Try.prog 6 #[v, v'] w fun e w' => e = .returned (.bool true) ∧ Below w.heap.size w w' := by
  have O1 : Hid _ := oldN_of w v ns h
  have N1 : Hid _ := h.1
  have M1 : Hid _ := h.2.1
  have HN : Hid (neC ns ≠ 0) := hno
  obtain ⟨_, _, a, cap, rfl, _⟩ := h
  obtain ⟨_, _, a', cap', rfl, _⟩ := h'
  clear hno
  go_enter Try.func6, Try.ntmps6
  go_wp2_with fail
  refine (wireBegun_any w).mono ?_
  rintro e w1 ⟨rfl, hb1⟩
  have B1 : Hid _ := hb1
  clear hb1
  go_wp2_with fail
  refine (Nodes_no _ ns w1 HN.out (nodes_of (nodes_below O1.out B1.out) B1.out.size N1.out M1.out)).mono ?_
  rintro e w2 ⟨rfl, hb2⟩
  have B2 : Hid (Below w.heap.size w w2) := B1.out.trans (hb2.mono B1.out.size)
  clear hb2
  have hne : (neC ns != 0) = true := by rw [bne_iff_ne]; exact HN.out
  generalize neC ns = r at hne
  go_wp2
  go_ret
  exact ⟨rfl, B2.out⟩

theorem backd_walk (v v' : Value) (ns ns' : List Nd) (w : World) (h : IsNodes w v ns) (h' : IsNodes w v' ns') :
    Calls Try.prog 6 #[v, v'] w fun e w' => e = .returned (.bool true) ∧ Below w.heap.size w w' := by
  by_cases hok : neC ns = 0
  · exact backd_yes v v' ns ns' w h h' hok
  · exact backd_no v v' ns ns' w h h' hok

set_option maxRecDepth 100000 in
theorem backd_lifted (os : Os) (started : os.Started) (H : Type) (enc : TypeId × Value → H) :
    ReturnsInHanded {} Try.checked os 6 .any (Rows.wireBackNodesSpec.pre6 enc Try.prog Try.f6 Rows.wireBackNodesRow.domain false) (Rows.wireBackNodesSpec.post enc Try.prog Try.f6 false true false false) := by
  refine returnsInHanded_of_change_sized (C := Try.checked) own started (by kernel_rfl) Try.func6
    (ChangeSpec.witness6 (enc := enc) (C := Try.checked) false ⟨#[], #[.slice none 0 0, .slice none 0 0], []⟩ 8 (by kernel_rfl) (by kernel_rfl) (by kernel_rfl) (by kernel_rfl)) ?_
  intro W base args ds gs before hval0 hW hcnd hsz0 _
  have hval : ∀ (j : Nat) t v, Try.f6.params[j]? = some t → args[j]? = some v → Value.okWide Try.prog W .any base t v := hval0
  have hW' := hW
  obtain ⟨p, q, hA0, hV, rfl, hfz, hnd⟩ := hW
  have hA : DataW.TrodAll enc Try.prog W 0 (fun _ => true) true Try.f6.params.toList args.toList ds p := hA0
  have hsz : (DataW.weightsEach Try.prog (Try.f6.params.toList ++ Rows.wireBackNodesSpec.plain.varTypes Try.prog) (ds ++ gs)).all (· ≤ reachBytes) = true := hsz0
  rw [Try.params6] at hA hval hsz
  obtain ⟨v0, v1, d0, d1, p0, p1, rfl, rfl, rfl, h0, h1⟩ := trodAll_two hA
  obtain ⟨rfl, rfl⟩ := trodVars_none hV
  have r0 : ∀ elems sp, d0 = .slice elems sp → elems.length ≤ 4611686018427387904 := fun elems sp he => by
    have h1 := sized_slice hsz (j := 0) (t := 41) rfl (by rw [he]; rfl) Try.underlying41
    have h2 := reachBytes_lt
    rw [bytesD] at h1
    omega
  have r1 : ∀ elems sp, d1 = .slice elems sp → elems.length ≤ 4611686018427387904 := fun elems sp he => by
    have h1 := sized_slice hsz (j := 1) (t := 41) rfl (by rw [he]; rfl) Try.underlying41
    have h2 := reachBytes_lt
    rw [bytesD] at h1
    omega
  obtain ⟨ns, i0⟩ := arg_nodes (hval 0 41 v0 rfl rfl) h0 r0
  obtain ⟨ns', i1⟩ := arg_nodes (hval 1 41 v1 rfl rfl) h1 r1
  have lt0 : ∀ x ∈ p0, x.block < W.heap.size := by obtain ⟨m, hm⟩ := h0; exact DataW.trod_lt m _ _ _ hm
  have lt1 : ∀ x ∈ p1, x.block < W.heap.size := by obtain ⟨m, hm⟩ := h1; exact DataW.trod_lt m _ _ _ hm
  clear hA0 hval0
  refine (backd_walk v0 v1 ns ns' W i0 i1).mono fun e W' ⟨he, bel⟩ => ?_
  subst he
  exact ⟨_, rfl, _, _, _, [], _, [], hW', trodAll_mk1 (shut_bool Try.underlying4 _), trodAll_mk2 (Below.trod laidOut (by kernel_rfl) (of_decide_eq_true (by kernel_rfl)) h0 bel lt0) (Below.trod laidOut (by kernel_rfl) (of_decide_eq_true (by kernel_rfl)) h1 bel lt1), rfl, bel.frame _, fun h => by cases h⟩

theorem wireBackNodes_holds : Rows.WireBackNodesSaid :=
  OpenClaim.holds_of_wide 6 Try.f6 rfl rfl rfl rfl rfl rfl rfl ⟨rfl, rfl, rfl, rfl, rfl⟩ rfl rfl rfl rfl rfl (by kernel_rfl) Try.func6 (by kernel_rfl)
    (of_decide_eq_true (by kernel_rfl)) (by unfold Func.isWrapper; first | (rw [if_pos (by decide +kernel)]; kernel_rfl) | (rw [if_neg (by decide +kernel)]; exact ⟨rfl, rfl⟩))
    (fun os started H enc _ => backd_lifted os started H enc)
#print axioms wireBackNodes_holds
end Go.Proofs.Ytligalcphlfmcad
