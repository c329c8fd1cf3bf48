/- LogChecks holds: for every text, Check answers just what the document says; the text reads behind the call as it read before; no condition. -/
import Derived.Test.YtcmjfjbhmfmkmaaLogB
import Derived.Test.YtcmjfjbhmfmkmaaRefC
import Derived.Test.YtcmjfjbhmfmkmaaArgT
namespace Go.Proofs.Ytcmjfjbhmfmkmaa
open Go.ChangeShapes Go.WideShapes Go.ChangeAt Go.RowKit Go.Shelf
open Go.ChangeMaps (open_string shut_string)

set_option maxHeartbeats 2000000 in
set_option maxRecDepth 100000 in
theorem lchk_walk (s : ByteArray) (w : World) (hs : s.size ≤ 140737488355328) :
    Calls Try.prog 3 #[.string s] w fun e w' => e = .returned (.bool true) ∧ Below w.heap.size w w' := by
  have HC : Hid (∀ w1, Calls Try.prog 5 #[.string s] w1 fun e w' => e = .returned (.int .i64 (crc s.data.toList : Nat)) ∧ Below w1.heap.size w1 w') := fun w1 => Check_any s w1 (by omega)
  have HD : Hid (∀ w1, Calls Try.prog 6 #[.string s] w1 fun e w' => e = .returned (.int .i64 (crc s.data.toList : Nat)) ∧ Below w1.heap.size w1 w') := fun w1 => CheckOf_any s w1 (by omega)
  generalize crc s.data.toList = c at HC HD
  go_enter Try.func3, Try.ntmps3
  go_wp2_with fail
  refine (logBegun_any w).mono ?_
  rintro e w1 ⟨rfl, hb1⟩
  have B1 : Hid (Below w.heap.size w w1) := hb1
  clear hb1
  go_wp2_with fail
  refine (HC.out w1).mono ?_
  rintro e w2 ⟨rfl, hb2⟩
  have B2 : Hid (Below w.heap.size w w2) := B1.out.trans (hb2.mono B1.out.size)
  clear hb2
  go_wp2_with fail
  refine (HD.out w2).mono ?_
  rintro e w3 ⟨rfl, hb3⟩
  have B3 : Hid (Below w.heap.size w w3) := B2.out.trans (hb3.mono B2.out.size)
  clear hb3
  go_wp2
  go_ret
  exact ⟨by simp, B3.out⟩

set_option maxRecDepth 100000 in
theorem lchk_lifted (os : Os) (started : os.Started) (H : Type) (enc : TypeId × Value → H) :
    ReturnsInHanded {} Try.checked os 3 .any (Rows.logChecksSpec.pre6 enc Try.prog Try.f3 Rows.logChecksRow.domain false) (Rows.logChecksSpec.post enc Try.prog Try.f3 false true false false) := by
  refine returnsInHanded_of_change_sized (C := Try.checked) own started (by kernel_rfl) Try.func3
    (ChangeSpec.witness6 (enc := enc) (C := Try.checked) false ⟨#[], #[.string ByteArray.empty], []⟩ 8 (by kernel_rfl) (by kernel_rfl) (by kernel_rfl) (by kernel_rfl)) ?_
  intro W base args ds gs before hval0 hW hcnd hsz0 _
  have hval : ∀ (j : Nat) t v, Try.f3.params[j]? = some t → args[j]? = some v → Value.okWide Try.prog W .any base t v := hval0
  have hW' := hW
  obtain ⟨p, q, hA0, hV, rfl, hfz, hnd⟩ := hW
  have hA : DataW.TrodAll enc Try.prog W 0 (fun _ => true) true Try.f3.params.toList args.toList ds p := hA0
  have hsz : (DataW.weightsEach Try.prog (Try.f3.params.toList ++ Rows.logChecksSpec.plain.varTypes Try.prog) (ds ++ gs)).all (· ≤ reachBytes) = true := hsz0
  rw [Try.params3] at hA hval hsz
  obtain ⟨v0, d0, rfl, rfl, h0⟩ := trodAll_one hA
  obtain ⟨rfl, rfl⟩ := trodVars_none hV
  obtain ⟨a0, rfl, rfl, rfl, w0⟩ := open_string Try.underlying9 (hval 0 9 v0 rfl rfl) h0
  have hr : a0.size ≤ 140737488355328 := by
    have h2 := sized_string hsz (j := 0) (t := 9) rfl rfl
    have h3 := reachBytes_lt
    rw [← size_of (s := a0) rfl] at h2
    omega
  clear hA0 hval0
  refine (lchk_walk a0 W hr).mono fun e W' ⟨he, bel⟩ => ?_
  subst he
  exact ⟨_, rfl, _, _, _, [], _, [], hW', trodAll_mk1 (shut_bool Try.underlying4 _), trodAll_mk1 (shut_string Try.underlying9 w0), rfl, bel.frame _, fun h => by cases h⟩

theorem logChecks_holds : Rows.LogChecksSaid :=
  OpenClaim.holds_of_wide 3 Try.f3 rfl rfl rfl rfl rfl rfl rfl ⟨rfl, rfl, rfl, rfl, rfl⟩ rfl rfl rfl rfl rfl (by kernel_rfl) Try.func3 (by kernel_rfl)
    (of_decide_eq_true (by kernel_rfl)) (by unfold Func.isWrapper; first | (rw [if_pos (by decide +kernel)]; kernel_rfl) | (rw [if_neg (by decide +kernel)]; exact ⟨rfl, rfl⟩))
    (fun os started H enc _ => lchk_lifted os started H enc)
#print axioms logChecks_holds
end Go.Proofs.Ytcmjfjbhmfmkmaa
