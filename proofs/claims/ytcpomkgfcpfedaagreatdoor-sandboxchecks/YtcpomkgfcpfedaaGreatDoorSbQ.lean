/- The document's RightLine, whole. -/
import Derived.Test.YtcpomkgfcpfedaaGreatDoorSbK
import Derived.Test.YtcpomkgfcpfedaaGreatDoorSbL
import Derived.Test.YtcpomkgfcpfedaaGreatDoorSbM
import Derived.Test.YtcpomkgfcpfedaaGreatDoorSbN
import Derived.Test.YtcpomkgfcpfedaaGreatDoorSbO
namespace Go.Proofs.YtcpomkgfcpfedaaGreatDoor
open Go.RowKit Go.Shelf

theorem len2 {α : Type} {l : List α} (h : l.length = 2) : ∃ a b, l = [a, b] := by
  match l, h with
  | [a, b], _ => exact ⟨a, b, rfl⟩
theorem len3 {α : Type} {l : List α} (h : l.length = 3) : ∃ a b c, l = [a, b, c] := by
  match l, h with
  | [a, b, c], _ => exact ⟨a, b, c, rfl⟩

set_option maxHeartbeats 4000000 in
set_option maxRecDepth 100000 in
theorem RL_other (lines : Nat) (s : ByteArray) (w : World) (hs : s.size ≤ 100000) {x : List UInt8} {rest : List (List UInt8)} (hws : wdL [] s.data.toList = x :: rest) (d0 : ¬ x = [115, 101, 116]) (d1 : ¬ x = [114, 101, 97, 100]) (d2 : ¬ x = [108, 105, 115, 116]) (d3 : ¬ x = [106, 111, 105, 110]) (d4 : ¬ x = [99, 117, 116]) (d5 : ¬ x = [115, 105, 122, 101]) (d6 : ¬ x = [115, 117, 109]) (d7 : ¬ x = [109, 97, 107, 101]) (d8 : ¬ x = [114, 117, 110]) (d9 : ¬ x = [115, 97, 109, 101]) (d10 : ¬ x = [108, 101, 115, 115]) (d11 : ¬ x = [103, 111, 116, 111]) (d12 : ¬ x = [101, 120, 105, 116]) :
    Calls Tryz.prog 9 #[.string s, .int .i64 (lines : Int)] w fun e w' => e = .returned (.bool (rigF lines s.data.toList)) ∧ Below w.heap.size w w' := by
  have hf : frmF x = none := by
    unfold frmF frmL
    simp only [List.lookup_cons, List.lookup_nil, beq_eq_false_iff_ne.2 d0, beq_eq_false_iff_ne.2 d1, beq_eq_false_iff_ne.2 d2, beq_eq_false_iff_ne.2 d3, beq_eq_false_iff_ne.2 d4, beq_eq_false_iff_ne.2 d5, beq_eq_false_iff_ne.2 d6, beq_eq_false_iff_ne.2 d7, beq_eq_false_iff_ne.2 d8, beq_eq_false_iff_ne.2 d9, beq_eq_false_iff_ne.2 d10, beq_eq_false_iff_ne.2 d11, beq_eq_false_iff_ne.2 d12]
  rw [rig_no hws rfl hf]
  obtain ⟨ws, hwe⟩ : ∃ ws, x :: rest = ws := ⟨_, rfl⟩
  obtain ⟨n, hn1⟩ : ∃ n, ws.length = n := ⟨_, rfl⟩
  have HWS : Hid (ws = x :: rest) := hwe.symm
  rw [hwe] at hws
  have hnp : 1 ≤ n := by rw [← hn1, ← hwe]; simp
  have hnb : n ≤ 1000000 := by
    have h1 := wdL_len s.data.toList []
    have h2 : s.size = s.data.toList.length := size_of rfl
    rw [hws, hn1] at h1
    omega
  have HW := words_front s w hs hws hn1
  have HW : Hid (Calls Tryz.prog 15 #[.string s] w fun e w1 => ∃ g cap, e = .returned (.slice (some ⟨g, 0, none⟩) n cap) ∧ Hid (Below w.heap.size w w1) ∧ RW (w1.alloc (.cells #[.slice (some ⟨g, 0, none⟩) n cap] 22)) w1.heap.size g n cap ws) := HW
  obtain ⟨m, hm⟩ : ∃ m : Nat, n = m + 1 := ⟨n - 1, by omega⟩
  subst hm
  have e1 : IntKind.i64.wrap (m : Int) = (m : Int) := by rw [IntKind.wrap_i64]; omega
  have e2 : (0 : Int) < (m : Int) + 1 := by omega
  obtain ⟨wd, hwd⟩ : ∃ wd, wd = bA x := ⟨_, rfl⟩
  have hbx : (bA x).toList = x := by rw [Lib.toList_data]; unfold bA; simp
  have k0 : (wd.toList == [115, 101, 116]) = false := by rw [hwd, hbx]; exact beq_eq_false_iff_ne.2 d0
  have k1 : (wd.toList == [114, 101, 97, 100]) = false := by rw [hwd, hbx]; exact beq_eq_false_iff_ne.2 d1
  have k2 : (wd.toList == [108, 105, 115, 116]) = false := by rw [hwd, hbx]; exact beq_eq_false_iff_ne.2 d2
  have k3 : (wd.toList == [106, 111, 105, 110]) = false := by rw [hwd, hbx]; exact beq_eq_false_iff_ne.2 d3
  have k4 : (wd.toList == [99, 117, 116]) = false := by rw [hwd, hbx]; exact beq_eq_false_iff_ne.2 d4
  have k5 : (wd.toList == [115, 105, 122, 101]) = false := by rw [hwd, hbx]; exact beq_eq_false_iff_ne.2 d5
  have k6 : (wd.toList == [115, 117, 109]) = false := by rw [hwd, hbx]; exact beq_eq_false_iff_ne.2 d6
  have k7 : (wd.toList == [109, 97, 107, 101]) = false := by rw [hwd, hbx]; exact beq_eq_false_iff_ne.2 d7
  have k8 : (wd.toList == [114, 117, 110]) = false := by rw [hwd, hbx]; exact beq_eq_false_iff_ne.2 d8
  have k9 : (wd.toList == [115, 97, 109, 101]) = false := by rw [hwd, hbx]; exact beq_eq_false_iff_ne.2 d9
  have k10 : (wd.toList == [108, 101, 115, 115]) = false := by rw [hwd, hbx]; exact beq_eq_false_iff_ne.2 d10
  have k11 : (wd.toList == [103, 111, 116, 111]) = false := by rw [hwd, hbx]; exact beq_eq_false_iff_ne.2 d11
  have k12 : (wd.toList == [101, 120, 105, 116]) = false := by rw [hwd, hbx]; exact beq_eq_false_iff_ne.2 d12
  have HWD : Hid (wd = bA x) := hwd
  clear hws hwe hn1 hnp hnb hs hwd hbx hf d0 d1 d2 d3 d4 d5 d6 d7 d8 d9 d10 d11 d12
  go_enter Tryz.func9, Tryz.ntmps9
  go_wp2_with (first
    | (go_at_call 15; refine HW.out.mono ?_; rintro e w1 ⟨g, cap, rfl, HB1, hrw⟩; have q0 := (hrw.cells 0 x (by rw [HWS.out]; rfl)).1; rw [← HWD.out] at q0; have yc := hrw.y; have HBA : Hid (Below w.heap.size w (w1.alloc (.cells #[.slice (some ⟨g, 0, none⟩) (m + 1) cap] 22))) := HB1.out.alloc HB1.out.size _; clear hrw)
    | go_in)
  go_ret
  exact ⟨rfl, HBA.out⟩

theorem RightLine_any (lines : Nat) (s : ByteArray) (w : World) (hs : s.size ≤ 100000) :
    Calls Tryz.prog 9 #[.string s, .int .i64 (lines : Int)] w fun e w' => e = .returned (.bool (rigF lines s.data.toList)) ∧ Below w.heap.size w w' := by
  cases hws : wdL [] s.data.toList with
  | nil => exact absurd hws (wdL_ne _ _)
  | cons x rest =>
    by_cases d0 : x = [115, 101, 116]
    · subst d0
      by_cases hn : 3 ≤ ([115, 101, 116] :: rest).length
      · cases rest with
        | nil => exact absurd hn (by simp)
        | cons b rest => cases rest with
          | nil => exact absurd hn (by simp)
          | cons c rest => cases h0 : okP lines 0 b with
            | false => exact RL_set_0 lines s w hs hws h0
            | true => exact RL_set_1 lines s w hs hws h0
      · exact RL_set_no lines s w hs hws hn
    by_cases d1 : x = [114, 101, 97, 100]
    · subst d1
      by_cases hn : ([114, 101, 97, 100] :: rest).length = 3
      · obtain ⟨b, c, rfl⟩ := len2 (show rest.length = 2 by simpa using hn)
        cases h0 : okP lines 0 b with
        | false => exact RL_read_0 lines s w hs hws h0
        | true =>
          cases h1 : okP lines 7 c with
          | false => exact RL_read_1 lines s w hs hws h0 h1
          | true =>
            exact RL_read_2 lines s w hs hws h0 h1
      · exact RL_read_no lines s w hs hws hn
    by_cases d2 : x = [108, 105, 115, 116]
    · subst d2
      by_cases hn : ([108, 105, 115, 116] :: rest).length = 3
      · obtain ⟨b, c, rfl⟩ := len2 (show rest.length = 2 by simpa using hn)
        cases h0 : okP lines 0 b with
        | false => exact RL_list_0 lines s w hs hws h0
        | true =>
          cases h1 : okP lines 8 c with
          | false => exact RL_list_1 lines s w hs hws h0 h1
          | true =>
            exact RL_list_2 lines s w hs hws h0 h1
      · exact RL_list_no lines s w hs hws hn
    by_cases d3 : x = [106, 111, 105, 110]
    · subst d3
      by_cases hn : ([106, 111, 105, 110] :: rest).length = 3
      · obtain ⟨b, c, rfl⟩ := len2 (show rest.length = 2 by simpa using hn)
        cases h0 : okP lines 0 b with
        | false => exact RL_join_0 lines s w hs hws h0
        | true =>
          cases h1 : okP lines 1 c with
          | false => exact RL_join_1 lines s w hs hws h0 h1
          | true =>
            exact RL_join_2 lines s w hs hws h0 h1
      · exact RL_join_no lines s w hs hws hn
    by_cases d4 : x = [99, 117, 116]
    · subst d4
      by_cases hn : ([99, 117, 116] :: rest).length = 4
      · obtain ⟨b, c, d, rfl⟩ := len3 (show rest.length = 3 by simpa using hn)
        cases h0 : okP lines 0 b with
        | false => exact RL_cut_0 lines s w hs hws h0
        | true =>
          cases h1 : okP lines 2 c with
          | false => exact RL_cut_1 lines s w hs hws h0 h1
          | true =>
            cases h2 : okP lines 3 d with
            | false => exact RL_cut_2 lines s w hs hws h0 h1 h2
            | true =>
              exact RL_cut_3 lines s w hs hws h0 h1 h2
      · exact RL_cut_no lines s w hs hws hn
    by_cases d5 : x = [115, 105, 122, 101]
    · subst d5
      by_cases hn : ([115, 105, 122, 101] :: rest).length = 3
      · obtain ⟨b, c, rfl⟩ := len2 (show rest.length = 2 by simpa using hn)
        cases h0 : okP lines 0 b with
        | false => exact RL_size_0 lines s w hs hws h0
        | true =>
          cases h1 : okP lines 1 c with
          | false => exact RL_size_1 lines s w hs hws h0 h1
          | true =>
            exact RL_size_2 lines s w hs hws h0 h1
      · exact RL_size_no lines s w hs hws hn
    by_cases d6 : x = [115, 117, 109]
    · subst d6
      by_cases hn : ([115, 117, 109] :: rest).length = 2
      · obtain ⟨b, rfl⟩ := List.length_eq_one_iff.1 (show rest.length = 1 by simpa using hn)
        cases h0 : okP lines 0 b with
        | false => exact RL_sum_0 lines s w hs hws h0
        | true =>
          exact RL_sum_1 lines s w hs hws h0
      · exact RL_sum_no lines s w hs hws hn
    by_cases d7 : x = [109, 97, 107, 101]
    · subst d7
      by_cases hn : ([109, 97, 107, 101] :: rest).length = 3
      · obtain ⟨b, c, rfl⟩ := len2 (show rest.length = 2 by simpa using hn)
        cases h0 : okP lines 7 b with
        | false => exact RL_make_0 lines s w hs hws h0
        | true =>
          cases h1 : okP lines 0 c with
          | false => exact RL_make_1 lines s w hs hws h0 h1
          | true =>
            exact RL_make_2 lines s w hs hws h0 h1
      · exact RL_make_no lines s w hs hws hn
    by_cases d8 : x = [114, 117, 110]
    · subst d8
      by_cases hn : ([114, 117, 110] :: rest).length = 3
      · obtain ⟨b, c, rfl⟩ := len2 (show rest.length = 2 by simpa using hn)
        cases h0 : okP lines 7 b with
        | false => exact RL_run_0 lines s w hs hws h0
        | true =>
          cases h1 : okP lines 0 c with
          | false => exact RL_run_1 lines s w hs hws h0 h1
          | true =>
            exact RL_run_2 lines s w hs hws h0 h1
      · exact RL_run_no lines s w hs hws hn
    by_cases d9 : x = [115, 97, 109, 101]
    · subst d9
      by_cases hn : ([115, 97, 109, 101] :: rest).length = 4
      · obtain ⟨b, c, d, rfl⟩ := len3 (show rest.length = 3 by simpa using hn)
        cases h0 : okP lines 0 b with
        | false => exact RL_same_0 lines s w hs hws h0
        | true =>
          cases h1 : okP lines 1 c with
          | false => exact RL_same_1 lines s w hs hws h0 h1
          | true =>
            cases h2 : okP lines 4 d with
            | false => exact RL_same_2 lines s w hs hws h0 h1 h2
            | true =>
              exact RL_same_3 lines s w hs hws h0 h1 h2
      · exact RL_same_no lines s w hs hws hn
    by_cases d10 : x = [108, 101, 115, 115]
    · subst d10
      by_cases hn : ([108, 101, 115, 115] :: rest).length = 4
      · obtain ⟨b, c, d, rfl⟩ := len3 (show rest.length = 3 by simpa using hn)
        cases h0 : okP lines 0 b with
        | false => exact RL_less_0 lines s w hs hws h0
        | true =>
          cases h1 : okP lines 1 c with
          | false => exact RL_less_1 lines s w hs hws h0 h1
          | true =>
            cases h2 : okP lines 4 d with
            | false => exact RL_less_2 lines s w hs hws h0 h1 h2
            | true =>
              exact RL_less_3 lines s w hs hws h0 h1 h2
      · exact RL_less_no lines s w hs hws hn
    by_cases d11 : x = [103, 111, 116, 111]
    · subst d11
      by_cases hn : ([103, 111, 116, 111] :: rest).length = 2
      · obtain ⟨b, rfl⟩ := List.length_eq_one_iff.1 (show rest.length = 1 by simpa using hn)
        cases h0 : okP lines 4 b with
        | false => exact RL_goto_0 lines s w hs hws h0
        | true =>
          exact RL_goto_1 lines s w hs hws h0
      · exact RL_goto_no lines s w hs hws hn
    by_cases d12 : x = [101, 120, 105, 116]
    · subst d12
      by_cases hn : ([101, 120, 105, 116] :: rest).length = 2
      · obtain ⟨b, rfl⟩ := List.length_eq_one_iff.1 (show rest.length = 1 by simpa using hn)
        cases h0 : okP lines 5 b with
        | false => exact RL_exit_0 lines s w hs hws h0
        | true =>
          exact RL_exit_1 lines s w hs hws h0
      · exact RL_exit_no lines s w hs hws hn
    exact RL_other lines s w hs hws d0 d1 d2 d3 d4 d5 d6 d7 d8 d9 d10 d11 d12
end Go.Proofs.YtcpomkgfcpfedaaGreatDoor
