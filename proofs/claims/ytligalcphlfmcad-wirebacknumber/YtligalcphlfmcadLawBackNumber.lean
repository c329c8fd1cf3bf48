/- WireBackNumber holds: for every number, and whatever text stands behind it, what Number packs is read by ReadNumber as it was, with as many bytes as it has; both read behind the call as they read before; no condition. -/
import Derived.Test.YtligalcphlfmcadSame
import Derived.ProofKit
import Derived.OpenShut
import Derived.ShutString
import Derived.ChangeOld
import Derived.Below
namespace Go.Proofs.Ytligalcphlfmcad
open Go.ChangeShapes Go.WideShapes Go.ChangeAt Go.RowKit Go.Shelf
open Go.ChangeMaps (open_string shut_string)

theorem bn_own : ownKnob Try.prog.godebug = none := by kernel_rfl

theorem add_bytes (l : List UInt8) (b : ByteArray) (h : l.length + b.size ≤ 9223372036854775807) (W : World) : (Op.stringOp .add ⟨l.toArray⟩ b).run Try.prog W = .ok (.string ⟨(l ++ b.data.toList).toArray⟩) W := by
  refine (run_string_add_sum (w := W) _ _ (by rw [show (⟨l.toArray⟩ : ByteArray).size = l.length from size_of rfl]; exact h)).trans ?_
  have hb : b = ⟨b.data.toList.toArray⟩ := bytes_eq rfl
  rw [hb, ByteArray.mk_append_mk]

set_option maxHeartbeats 1000000 in
set_option maxRecDepth 100000 in
theorem bn_yes (n : Nat) (b : ByteArray) (w : World) (hn : n ≤ 9007199254740991) (hb : b.size ≤ 140737488355328) :
    Calls Try.prog 4 #[.int .i64 n, .string b] w fun e w' => e = .returned (.bool true) ∧ Below w.heap.size w w' := by
  have h8 := pk_len8 n hn
  have hadd : ∀ W : World, (Op.stringOp .add ⟨(pk n).toArray⟩ b).run Try.prog W = .ok (.string ⟨(pk n ++ b.data.toList).toArray⟩) W := add_bytes (pk n) b (by omega)
  have hsz : (⟨(pk n ++ b.data.toList).toArray⟩ : ByteArray).size ≤ maxLen := by
    rw [show (⟨(pk n ++ b.data.toList).toArray⟩ : ByteArray).size = (pk n ++ b.data.toList).length from size_of rfl, List.length_append, ← size_of (s := b) rfl]
    unfold maxLen
    omega
  have HZ : Hid _ := hsz
  have hps : (⟨(pk n).toArray⟩ : ByteArray).size = (pk n).length := size_of rfl
  clear hsz h8
  go_enter Try.func4, Try.ntmps4
  go_wp2_with fail
  refine (wireBegun_any w).mono ?_
  rintro e w1 ⟨rfl, hb1⟩
  go_wp2_with fail
  refine (Number_yes n w1 hn).mono ?_
  rintro e w2 ⟨rfl, hb2⟩
  go_wp2_with fail
  refine (ReadNumber_pk _ w2 n b.data.toList HZ.out hn rfl).mono ?_
  rintro e w3 ⟨rfl, rfl⟩
  go_wp2
  go_ret
  exact ⟨by simp, hb1.trans (hb2.mono hb1.size)⟩

set_option maxHeartbeats 1000000 in
theorem bn_no (n : Int) (b : ByteArray) (w : World) (hn : n < 0 ∨ 9007199254740991 < n) :
    Calls Try.prog 4 #[.int .i64 n, .string b] w fun e w' => e = .returned (.bool true) ∧ Below w.heap.size w w' := by
  have HN : Hid _ := hn
  clear hn
  go_enter Try.func4, Try.ntmps4
  go_wp2_with fail
  refine (wireBegun_any w).mono ?_
  rintro e w1 ⟨rfl, hb1⟩
  go_wp2_with fail
  refine (Number_no n w1 HN.out).mono ?_
  rintro e w2 ⟨rfl, rfl⟩
  go_wp2
  go_ret
  exact ⟨rfl, hb1⟩

theorem bn_walk (n : Int) (b : ByteArray) (w : World) (hb : b.size ≤ 140737488355328) :
    Calls Try.prog 4 #[.int .i64 n, .string b] w fun e w' => e = .returned (.bool true) ∧ Below w.heap.size w w' := by
  by_cases h : 0 ≤ n ∧ n ≤ 9007199254740991
  · obtain ⟨m, rfl⟩ := Int.eq_ofNat_of_zero_le h.1
    exact bn_yes m b w (by omega) hb
  · exact bn_no n b w (by omega)

set_option maxRecDepth 100000 in
theorem bn_lifted (os : Os) (started : os.Started) (H : Type) (enc : TypeId × Value → H) :
    ReturnsInHanded {} Try.checked os 4 .any (Rows.wireBackNumberSpec.pre6 enc Try.prog Try.f4 Rows.wireBackNumberRow.domain false) (Rows.wireBackNumberSpec.post enc Try.prog Try.f4 false true false false) := by
  refine returnsInHanded_of_change_sized (C := Try.checked) bn_own started (by kernel_rfl) Try.func4
    (ChangeSpec.witness6 (enc := enc) (C := Try.checked) false ⟨#[], #[.int .i64 0, .string ByteArray.empty], []⟩ 8 (by kernel_rfl) (by kernel_rfl) (by kernel_rfl) (by kernel_rfl)) ?_
  intro W base args ds gs before hval0 hW hcnd hsz0 _
  have hval : ∀ (j : Nat) t v, Try.f4.params[j]? = some t → args[j]? = some v → Value.okWide Try.prog W .any base t v := hval0
  have hW' := hW
  obtain ⟨p, q, hA0, hV, rfl, hfz, hnd⟩ := hW
  have hA : DataW.TrodAll enc Try.prog W 0 (fun _ => true) true Try.f4.params.toList args.toList ds p := hA0
  have hsz : (DataW.weightsEach Try.prog (Try.f4.params.toList ++ Rows.wireBackNumberSpec.plain.varTypes Try.prog) (ds ++ gs)).all (· ≤ reachBytes) = true := hsz0
  rw [Try.params4] at hA hval hsz
  obtain ⟨v0, v1, d0, d1, p0, p1, rfl, rfl, rfl, h0, h1⟩ := trodAll_two hA
  obtain ⟨rfl, rfl⟩ := trodVars_none hV
  obtain ⟨a0, rfl, rfl, rfl, w0⟩ := open_int Try.underlying3 (hval 0 3 v0 rfl rfl) h0
  obtain ⟨a1, rfl, rfl, rfl, w1⟩ := open_string Try.underlying9 (hval 1 9 v1 rfl rfl) h1
  have hr : a1.size ≤ 140737488355328 := by
    have h2 := sized_string hsz (j := 1) (t := 9) rfl rfl
    have h3 := reachBytes_lt
    rw [← size_of (s := a1) rfl] at h2
    omega
  clear hA0 hval0
  refine (bn_walk a0 a1 W hr).mono fun e W' ⟨he, bel⟩ => ?_
  subst he
  exact ⟨_, rfl, _, _, _, [], _, [], hW', trodAll_mk1 (shut_bool Try.underlying4 _), trodAll_mk2 (shut_int Try.underlying3 w0) (shut_string Try.underlying9 w1), rfl, bel.frame _, fun h => by cases h⟩

theorem wireBackNumber_holds : Rows.WireBackNumberSaid :=
  OpenClaim.holds_of_wide 4 Try.f4 rfl rfl rfl rfl rfl rfl rfl ⟨rfl, rfl, rfl, rfl, rfl⟩ rfl rfl rfl rfl rfl (by kernel_rfl) Try.func4 (by kernel_rfl)
    (of_decide_eq_true (by kernel_rfl)) (by unfold Func.isWrapper; first | (rw [if_pos (by decide +kernel)]; kernel_rfl) | (rw [if_neg (by decide +kernel)]; exact ⟨rfl, rfl⟩))
    (fun os started H enc _ => bn_lifted os started H enc)
#print axioms wireBackNumber_holds
end Go.Proofs.Ytligalcphlfmcad
