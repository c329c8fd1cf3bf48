/- LogReads, its second form: for every text of at most so many bytes (the row's bound), Read answers just what the document says; the text reads behind the call as it read before. -/
import Derived.Test.YtcfplkfddcblnaaLogB
import Derived.Test.YtcfplkfddcblnaaRefL
import Derived.Test.YtcfplkfddcblnaaArgT
import Derived.JoinedCond
namespace Go.Proofs.Ytcfplkfddcblnaa
open Go.ChangeShapes Go.WideShapes Go.ChangeAt Go.RowKit Go.Shelf
open Go.ChangeMaps (open_string shut_string)

set_option maxHeartbeats 2000000 in
set_option maxRecDepth 100000 in
theorem lrd_walk (s : ByteArray) (w : World) (hs : s.size ≤ 1048576) :
    Calls Try.prog 4 #[.string s] w fun e w' => e = .returned (.bool true) ∧ Below w.heap.size w w' := by
  obtain ⟨l, r, hl, hr, h⟩ := flat_all _ s.data.toList (Nat.le_refl _)
  have hll : l.length ≤ 4611686018427387904 := by
    have h1 := flat_len l
    have h2 : (flat l).length ≤ s.size := by rw [size_of h, List.length_append]; omega
    omega
  have HR : Hid (∀ w, Calls Try.prog 13 #[.string s] w fun e w' => ∃ v, e = .returned (.tuple #[v, .int .i64 ((flat l).length : Nat)]) ∧ w'.ownsRow w.heap.size 9 1 v l.length (strs l) ∧ Below w.heap.size w w') := fun w => Read_any s l r w (by omega) h hl hr
  have HE : Hid (∀ w, Calls Try.prog 14 #[.string s] w fun e w' => ∃ v, e = .returned (.tuple #[v, .int .i64 ((flat l).length : Nat)]) ∧ w'.ownsRow w.heap.size 9 1 v l.length (strs l) ∧ Below w.heap.size w w') := fun w => LogEntries_any s l r w (by omega) h hl hr
  generalize (flat l).length = n at HR HE
  clear h hl hr
  go_enter Try.func4, Try.ntmps4
  go_wp2_with fail
  refine (HR.out w).mono ?_
  rintro e w1 ⟨v1, rfl, ho1, hb1⟩
  have O1 : Hid (w1.ownsRow w.heap.size 9 1 v1 l.length (strs l)) := ho1
  have B1 : Hid (Below w.heap.size w w1) := hb1
  clear ho1 hb1
  go_wp2_with fail
  refine (HE.out w1).mono ?_
  rintro e w2 ⟨v2, rfl, ho2, hb2⟩
  have O2 : Hid (w2.ownsRow w1.heap.size 9 1 v2 l.length (strs l)) := ho2
  have P2 : Hid (w2.ownsRow w.heap.size 9 1 v1 l.length (strs l)) := own_below O1.out hb2
  have B2 : Hid (Below w.heap.size w w2) := B1.out.trans (hb2.mono B1.out.size)
  clear ho2 hb2
  go_wp2_with fail
  refine (logBegun_any w2).mono ?_
  rintro e w3 ⟨rfl, hb3⟩
  have O3 : Hid (w3.ownsRow w1.heap.size 9 1 v2 l.length (strs l)) := own_below O2.out hb3
  have P3 : Hid (w3.ownsRow w.heap.size 9 1 v1 l.length (strs l)) := own_below P2.out hb3
  have B3 : Hid (Below w.heap.size w w3) := B2.out.trans (hb3.mono B2.out.size)
  clear hb3
  go_wp2_with fail
  refine (same_any _ _ _ _ _ (own_texts P3.out hll) (own_texts O3.out hll)).mono ?_
  rintro e w4 ⟨rfl, q, rfl⟩
  have B4 : Hid (Below w.heap.size w (w3.drewN q)) := ⟨B3.out.os, B3.out.tape, B3.out.output, B3.out.size, B3.out.block⟩
  rw [decide_eq_true rfl]
  go_wp2
  go_ret
  exact ⟨by simp, B4.out⟩

set_option maxRecDepth 100000 in
theorem lrd_lifted (os : Os) (started : os.Started) (H : Type) (enc : TypeId × Value → H) (F : Stop.Interp) :
    ReturnsInHanded {} Try.checked os 4 .any ((Rows.OpenSpec.upto Rows.logReadsSpec).pre6 enc Try.prog Try.f4 Rows.logReadsUptoRow.domain false) (((Rows.OpenSpec.upto Rows.logReadsSpec).at F).post enc Try.prog Try.f4 false true false false) := by
  refine returnsInHanded_of_cond (C := Try.checked) (s := Rows.OpenSpec.upto Rows.logReadsSpec) (k := Rows.uptoSmall) rfl own started (by kernel_rfl) Try.func4
    (OpenSpec.witness (enc := enc) (C := Try.checked) (s := Rows.OpenSpec.upto Rows.logReadsSpec) (k := Rows.uptoSmall) rfl false ⟨#[], #[.string ByteArray.empty], []⟩ 8 (by kernel_rfl) (by kernel_rfl) (by kernel_rfl)
      (x := ([.lit (.string [])], [], [])) (by kernel_rfl) rfl (by kernel_rfl)) ?_
  intro W base args ds gs before hval0 hW _ hk _
  have hval : ∀ (j : Nat) t v, Try.f4.params[j]? = some t → args[j]? = some v → Value.okWide Try.prog W .any base t v := hval0
  have hW' := hW
  obtain ⟨p, q, hA0, hV, rfl, hfz, hnd⟩ := hW
  have hA : DataW.TrodAll enc Try.prog W 0 (fun _ => true) true Try.f4.params.toList args.toList ds p := hA0
  rw [Try.params4] at hA hval
  obtain ⟨v0, d0, rfl, rfl, h0⟩ := trodAll_one hA
  obtain ⟨rfl, rfl⟩ := trodVars_none hV
  obtain ⟨a0, rfl, rfl, rfl, w0⟩ := open_string Try.underlying9 (hval 0 9 v0 rfl rfl) h0
  have hr : a0.size ≤ 1048576 := by
    have h2 := of_decide_eq_true hk
    simp only [List.cons_append, List.nil_append, Rows.uptoBulkAll, Rows.uptoBulk] at h2
    rw [size_of (s := a0) rfl]
    omega
  clear hA0 hval0
  refine (lrd_walk a0 W hr).mono fun e W' ⟨he, bel⟩ => ?_
  subst he
  exact ⟨_, rfl, _, _, _, [], _, [], hW', trodAll_mk1 (shut_bool Try.underlying4 _), trodAll_mk1 (shut_string Try.underlying9 w0), rfl, bel.frame _, fun h => by cases h⟩

theorem logReads_holds : Rows.LogReadsUptoSaid :=
  OpenClaim.holds_of_cond 4 Try.f4 rfl rfl rfl rfl rfl rfl rfl ⟨rfl, rfl, rfl, rfl, rfl⟩ rfl rfl rfl rfl rfl (by kernel_rfl) Try.func4 (by kernel_rfl)
    (of_decide_eq_true (by kernel_rfl)) (by unfold Func.isWrapper; first | (rw [if_pos (by decide +kernel)]; kernel_rfl) | (rw [if_neg (by decide +kernel)]; exact ⟨rfl, rfl⟩))
    (fun os started H enc _ F => lrd_lifted os started H enc F)
#print axioms logReads_holds
end Go.Proofs.Ytcfplkfddcblnaa
