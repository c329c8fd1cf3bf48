/- The document's RightLine, by a line's first word. -/
import Derived.Test.YtcpomkgfcpfedaaGreatDoorSbJ
namespace Go.Proofs.YtcpomkgfcpfedaaGreatDoor
open Go.RowKit Go.Shelf

set_option maxHeartbeats 4000000 in
set_option maxRecDepth 100000 in
theorem RL_join_no (lines : Nat) (s : ByteArray) (w : World) (hs : s.size ≤ 100000) {rest : List (List UInt8)} (hws : wdL [] s.data.toList = [106, 111, 105, 110] :: rest) (hn : ¬ ([106, 111, 105, 110] :: rest).length = 3) :
    Calls Tryz.prog 9 #[.string s, .int .i64 (lines : Int)] w fun e w' => e = .returned (.bool (rigF lines s.data.toList)) ∧ Below w.heap.size w w' := by
  have hrig : rigF lines s.data.toList = false := by
    rw [rig_of hws rfl (f := [0, 1]) rfl (by decide), decide_eq_false (by simpa using hn), Bool.false_and]
  rw [hrig]
  obtain ⟨ws, hwe⟩ : ∃ ws, [106, 111, 105, 110] :: rest = ws := ⟨_, rfl⟩
  obtain ⟨n, hn1⟩ : ∃ n, ws.length = n := ⟨_, rfl⟩
  have HWS : Hid (ws = [106, 111, 105, 110] :: rest) := hwe.symm
  rw [hwe] at hws hn
  rw [hn1] at hn
  have hnp : 1 ≤ n := by rw [← hn1, ← hwe]; simp
  have hnb : n ≤ 1000000 := by
    have h1 := wdL_len s.data.toList []
    have h2 : s.size = s.data.toList.length := size_of rfl
    rw [hws, hn1] at h1
    omega
  have HW := words_front s w hs hws hn1
  have HW : Hid (Calls Tryz.prog 15 #[.string s] w fun e w1 => ∃ g cap, e = .returned (.slice (some ⟨g, 0, none⟩) n cap) ∧ Hid (Below w.heap.size w w1) ∧ RW (w1.alloc (.cells #[.slice (some ⟨g, 0, none⟩) n cap] 22)) w1.heap.size g n cap ws) := HW
  obtain ⟨m, hm⟩ : ∃ m : Nat, n = m + 1 := ⟨n - 1, by omega⟩
  subst hm
  have e1 : IntKind.i64.wrap (m : Int) = (m : Int) := by rw [IntKind.wrap_i64]; omega
  have e2 : (0 : Int) < (m : Int) + 1 := by omega
  have e3 : ((m : Int) == 2) = false := by simp; omega
  obtain ⟨wd, hwd⟩ : ∃ wd, wd = bA [106, 111, 105, 110] := ⟨_, rfl⟩
  have k0 : (wd.toList == [115, 101, 116]) = false := by rw [hwd, Lib.toList_data]; decide
  have k1 : (wd.toList == [114, 101, 97, 100]) = false := by rw [hwd, Lib.toList_data]; decide
  have k2 : (wd.toList == [108, 105, 115, 116]) = false := by rw [hwd, Lib.toList_data]; decide
  have k3 : (wd.toList == [106, 111, 105, 110]) = true := by rw [hwd, Lib.toList_data]; decide
  have k4 : (wd.toList == [99, 117, 116]) = false := by rw [hwd, Lib.toList_data]; decide
  have k5 : (wd.toList == [115, 105, 122, 101]) = false := by rw [hwd, Lib.toList_data]; decide
  have k6 : (wd.toList == [115, 117, 109]) = false := by rw [hwd, Lib.toList_data]; decide
  have k7 : (wd.toList == [109, 97, 107, 101]) = false := by rw [hwd, Lib.toList_data]; decide
  have k8 : (wd.toList == [114, 117, 110]) = false := by rw [hwd, Lib.toList_data]; decide
  have k9 : (wd.toList == [115, 97, 109, 101]) = false := by rw [hwd, Lib.toList_data]; decide
  have k10 : (wd.toList == [108, 101, 115, 115]) = false := by rw [hwd, Lib.toList_data]; decide
  have k11 : (wd.toList == [103, 111, 116, 111]) = false := by rw [hwd, Lib.toList_data]; decide
  have k12 : (wd.toList == [101, 120, 105, 116]) = false := by rw [hwd, Lib.toList_data]; decide
  have HWD : Hid (wd = bA [106, 111, 105, 110]) := hwd
  clear hwd
  clear hrig hws hwe hn hn1 hnp hnb hs
  go_enter Tryz.func9, Tryz.ntmps9
  go_wp2_with (first
    | (go_at_call 15; refine HW.out.mono ?_; rintro e w1 ⟨g, cap, rfl, HB1, hrw⟩; have HRW : Hid (RW (w1.alloc (.cells #[.slice (some ⟨g, 0, none⟩) (m + 1) cap] 22)) w1.heap.size g (m + 1) cap ws) := hrw; have q0 := (hrw.cells 0 [106, 111, 105, 110] (by rw [HWS.out]; rfl)).1; rw [← HWD.out] at q0; have yc := hrw.y; have HBA : Hid (Below w.heap.size w (w1.alloc (.cells #[.slice (some ⟨g, 0, none⟩) (m + 1) cap] 22))) := HB1.out.alloc HB1.out.size _; clear hrw)
    | go_in)
  go_ret
  exact ⟨rfl, HBA.out⟩

set_option maxHeartbeats 4000000 in
set_option maxRecDepth 100000 in
theorem RL_join_0 (lines : Nat) (s : ByteArray) (w : World) (hs : s.size ≤ 100000) {b c : List UInt8} (hws : wdL [] s.data.toList = [[106, 111, 105, 110], b, c]) (h0 : okP lines 0 b = false) :
    Calls Tryz.prog 9 #[.string s, .int .i64 (lines : Int)] w fun e w' => e = .returned (.bool (rigF lines s.data.toList)) ∧ Below w.heap.size w w' := by
  have hrig : rigF lines s.data.toList = false := by
    rw [rig_of hws rfl (f := [0, 1]) rfl (by decide)]
    simp [allP, h0]
  rw [hrig]
  obtain ⟨ws, hwe⟩ : ∃ ws, [[106, 111, 105, 110], b, c] = ws := ⟨_, rfl⟩
  have hn1 : ws.length = 3 := by rw [← hwe]; rfl
  have HWS : Hid (ws = [[106, 111, 105, 110], b, c]) := hwe.symm
  rw [hwe] at hws
  have HW := words_front s w hs hws hn1
  have HW : Hid (Calls Tryz.prog 15 #[.string s] w fun e w1 => ∃ g cap, e = .returned (.slice (some ⟨g, 0, none⟩) 3 cap) ∧ Hid (Below w.heap.size w w1) ∧ RW (w1.alloc (.cells #[.slice (some ⟨g, 0, none⟩) 3 cap] 22)) w1.heap.size g 3 cap ws) := HW
  obtain ⟨wd, hwd⟩ : ∃ wd, wd = bA [106, 111, 105, 110] := ⟨_, rfl⟩
  have k0 : (wd.toList == [115, 101, 116]) = false := by rw [hwd, Lib.toList_data]; decide
  have k1 : (wd.toList == [114, 101, 97, 100]) = false := by rw [hwd, Lib.toList_data]; decide
  have k2 : (wd.toList == [108, 105, 115, 116]) = false := by rw [hwd, Lib.toList_data]; decide
  have k3 : (wd.toList == [106, 111, 105, 110]) = true := by rw [hwd, Lib.toList_data]; decide
  have k4 : (wd.toList == [99, 117, 116]) = false := by rw [hwd, Lib.toList_data]; decide
  have k5 : (wd.toList == [115, 105, 122, 101]) = false := by rw [hwd, Lib.toList_data]; decide
  have k6 : (wd.toList == [115, 117, 109]) = false := by rw [hwd, Lib.toList_data]; decide
  have k7 : (wd.toList == [109, 97, 107, 101]) = false := by rw [hwd, Lib.toList_data]; decide
  have k8 : (wd.toList == [114, 117, 110]) = false := by rw [hwd, Lib.toList_data]; decide
  have k9 : (wd.toList == [115, 97, 109, 101]) = false := by rw [hwd, Lib.toList_data]; decide
  have k10 : (wd.toList == [108, 101, 115, 115]) = false := by rw [hwd, Lib.toList_data]; decide
  have k11 : (wd.toList == [103, 111, 116, 111]) = false := by rw [hwd, Lib.toList_data]; decide
  have k12 : (wd.toList == [101, 120, 105, 116]) = false := by rw [hwd, Lib.toList_data]; decide
  have HWD : Hid (wd = bA [106, 111, 105, 110]) := hwd
  clear hwd
  have r1 : (regF b).isSome = false := h0
  clear hrig hws hwe hn1 hs h0
  go_enter Tryz.func9, Tryz.ntmps9
  go_wp2_with (first
    | (go_at_call 15; refine HW.out.mono ?_; rintro e w1 ⟨g, cap, rfl, HB1, hrw⟩; have HRW : Hid (RW (w1.alloc (.cells #[.slice (some ⟨g, 0, none⟩) 3 cap] 22)) w1.heap.size g 3 cap ws) := hrw; have q0 := (hrw.cells 0 [106, 111, 105, 110] (by rw [HWS.out]; rfl)).1; rw [← HWD.out] at q0; have yc := hrw.y; have HBA : Hid (Below w.heap.size w (w1.alloc (.cells #[.slice (some ⟨g, 0, none⟩) 3 cap] 22))) := HB1.out.alloc HB1.out.size _; clear hrw)
    | (go_at_call 16; refine (r_any HRW.out 1 (x := b) (by rw [HWS.out]; rfl)).mono ?_; rintro e w4 ⟨rfl, hw⟩; subst w4)
    | go_in)
  go_ret
  exact ⟨rfl, HBA.out⟩

set_option maxHeartbeats 4000000 in
set_option maxRecDepth 100000 in
theorem RL_join_1 (lines : Nat) (s : ByteArray) (w : World) (hs : s.size ≤ 100000) {b c : List UInt8} (hws : wdL [] s.data.toList = [[106, 111, 105, 110], b, c]) (h0 : okP lines 0 b = true) (h1 : okP lines 1 c = false) :
    Calls Tryz.prog 9 #[.string s, .int .i64 (lines : Int)] w fun e w' => e = .returned (.bool (rigF lines s.data.toList)) ∧ Below w.heap.size w w' := by
  have hrig : rigF lines s.data.toList = false := by
    rw [rig_of hws rfl (f := [0, 1]) rfl (by decide)]
    simp [allP, h0, h1]
  rw [hrig]
  obtain ⟨ws, hwe⟩ : ∃ ws, [[106, 111, 105, 110], b, c] = ws := ⟨_, rfl⟩
  have hn1 : ws.length = 3 := by rw [← hwe]; rfl
  have HWS : Hid (ws = [[106, 111, 105, 110], b, c]) := hwe.symm
  rw [hwe] at hws
  have HW := words_front s w hs hws hn1
  have HW : Hid (Calls Tryz.prog 15 #[.string s] w fun e w1 => ∃ g cap, e = .returned (.slice (some ⟨g, 0, none⟩) 3 cap) ∧ Hid (Below w.heap.size w w1) ∧ RW (w1.alloc (.cells #[.slice (some ⟨g, 0, none⟩) 3 cap] 22)) w1.heap.size g 3 cap ws) := HW
  obtain ⟨wd, hwd⟩ : ∃ wd, wd = bA [106, 111, 105, 110] := ⟨_, rfl⟩
  have k0 : (wd.toList == [115, 101, 116]) = false := by rw [hwd, Lib.toList_data]; decide
  have k1 : (wd.toList == [114, 101, 97, 100]) = false := by rw [hwd, Lib.toList_data]; decide
  have k2 : (wd.toList == [108, 105, 115, 116]) = false := by rw [hwd, Lib.toList_data]; decide
  have k3 : (wd.toList == [106, 111, 105, 110]) = true := by rw [hwd, Lib.toList_data]; decide
  have k4 : (wd.toList == [99, 117, 116]) = false := by rw [hwd, Lib.toList_data]; decide
  have k5 : (wd.toList == [115, 105, 122, 101]) = false := by rw [hwd, Lib.toList_data]; decide
  have k6 : (wd.toList == [115, 117, 109]) = false := by rw [hwd, Lib.toList_data]; decide
  have k7 : (wd.toList == [109, 97, 107, 101]) = false := by rw [hwd, Lib.toList_data]; decide
  have k8 : (wd.toList == [114, 117, 110]) = false := by rw [hwd, Lib.toList_data]; decide
  have k9 : (wd.toList == [115, 97, 109, 101]) = false := by rw [hwd, Lib.toList_data]; decide
  have k10 : (wd.toList == [108, 101, 115, 115]) = false := by rw [hwd, Lib.toList_data]; decide
  have k11 : (wd.toList == [103, 111, 116, 111]) = false := by rw [hwd, Lib.toList_data]; decide
  have k12 : (wd.toList == [101, 120, 105, 116]) = false := by rw [hwd, Lib.toList_data]; decide
  have HWD : Hid (wd = bA [106, 111, 105, 110]) := hwd
  clear hwd
  have r1 : (regF b).isSome = true := h0
  have r2 : (regF c).isSome = false := h1
  clear hrig hws hwe hn1 hs h0 h1
  go_enter Tryz.func9, Tryz.ntmps9
  go_wp2_with (first
    | (go_at_call 15; refine HW.out.mono ?_; rintro e w1 ⟨g, cap, rfl, HB1, hrw⟩; have HRW : Hid (RW (w1.alloc (.cells #[.slice (some ⟨g, 0, none⟩) 3 cap] 22)) w1.heap.size g 3 cap ws) := hrw; have q0 := (hrw.cells 0 [106, 111, 105, 110] (by rw [HWS.out]; rfl)).1; rw [← HWD.out] at q0; have yc := hrw.y; have HBA : Hid (Below w.heap.size w (w1.alloc (.cells #[.slice (some ⟨g, 0, none⟩) 3 cap] 22))) := HB1.out.alloc HB1.out.size _; clear hrw)
    | (go_at_call 16; refine (r_any HRW.out 1 (x := b) (by rw [HWS.out]; rfl)).mono ?_; rintro e w4 ⟨rfl, hw⟩; subst w4)
    | (go_at_call 16; refine (r_any HRW.out 2 (x := c) (by rw [HWS.out]; rfl)).mono ?_; rintro e w4 ⟨rfl, hw⟩; subst w4)
    | go_in)
  go_ret
  exact ⟨rfl, HBA.out⟩

set_option maxHeartbeats 4000000 in
set_option maxRecDepth 100000 in
theorem RL_join_2 (lines : Nat) (s : ByteArray) (w : World) (hs : s.size ≤ 100000) {b c : List UInt8} (hws : wdL [] s.data.toList = [[106, 111, 105, 110], b, c]) (h0 : okP lines 0 b = true) (h1 : okP lines 1 c = true) :
    Calls Tryz.prog 9 #[.string s, .int .i64 (lines : Int)] w fun e w' => e = .returned (.bool (rigF lines s.data.toList)) ∧ Below w.heap.size w w' := by
  have hrig : rigF lines s.data.toList = true := by
    rw [rig_of hws rfl (f := [0, 1]) rfl (by decide)]
    simp [allP, h0, h1]
  rw [hrig]
  obtain ⟨ws, hwe⟩ : ∃ ws, [[106, 111, 105, 110], b, c] = ws := ⟨_, rfl⟩
  have hn1 : ws.length = 3 := by rw [← hwe]; rfl
  have HWS : Hid (ws = [[106, 111, 105, 110], b, c]) := hwe.symm
  rw [hwe] at hws
  have HW := words_front s w hs hws hn1
  have HW : Hid (Calls Tryz.prog 15 #[.string s] w fun e w1 => ∃ g cap, e = .returned (.slice (some ⟨g, 0, none⟩) 3 cap) ∧ Hid (Below w.heap.size w w1) ∧ RW (w1.alloc (.cells #[.slice (some ⟨g, 0, none⟩) 3 cap] 22)) w1.heap.size g 3 cap ws) := HW
  obtain ⟨wd, hwd⟩ : ∃ wd, wd = bA [106, 111, 105, 110] := ⟨_, rfl⟩
  have k0 : (wd.toList == [115, 101, 116]) = false := by rw [hwd, Lib.toList_data]; decide
  have k1 : (wd.toList == [114, 101, 97, 100]) = false := by rw [hwd, Lib.toList_data]; decide
  have k2 : (wd.toList == [108, 105, 115, 116]) = false := by rw [hwd, Lib.toList_data]; decide
  have k3 : (wd.toList == [106, 111, 105, 110]) = true := by rw [hwd, Lib.toList_data]; decide
  have k4 : (wd.toList == [99, 117, 116]) = false := by rw [hwd, Lib.toList_data]; decide
  have k5 : (wd.toList == [115, 105, 122, 101]) = false := by rw [hwd, Lib.toList_data]; decide
  have k6 : (wd.toList == [115, 117, 109]) = false := by rw [hwd, Lib.toList_data]; decide
  have k7 : (wd.toList == [109, 97, 107, 101]) = false := by rw [hwd, Lib.toList_data]; decide
  have k8 : (wd.toList == [114, 117, 110]) = false := by rw [hwd, Lib.toList_data]; decide
  have k9 : (wd.toList == [115, 97, 109, 101]) = false := by rw [hwd, Lib.toList_data]; decide
  have k10 : (wd.toList == [108, 101, 115, 115]) = false := by rw [hwd, Lib.toList_data]; decide
  have k11 : (wd.toList == [103, 111, 116, 111]) = false := by rw [hwd, Lib.toList_data]; decide
  have k12 : (wd.toList == [101, 120, 105, 116]) = false := by rw [hwd, Lib.toList_data]; decide
  have HWD : Hid (wd = bA [106, 111, 105, 110]) := hwd
  clear hwd
  have r1 : (regF b).isSome = true := h0
  have r2 : (regF c).isSome = true := h1
  clear hrig hws hwe hn1 hs h0 h1
  go_enter Tryz.func9, Tryz.ntmps9
  go_wp2_with (first
    | (go_at_call 15; refine HW.out.mono ?_; rintro e w1 ⟨g, cap, rfl, HB1, hrw⟩; have HRW : Hid (RW (w1.alloc (.cells #[.slice (some ⟨g, 0, none⟩) 3 cap] 22)) w1.heap.size g 3 cap ws) := hrw; have q0 := (hrw.cells 0 [106, 111, 105, 110] (by rw [HWS.out]; rfl)).1; rw [← HWD.out] at q0; have yc := hrw.y; have HBA : Hid (Below w.heap.size w (w1.alloc (.cells #[.slice (some ⟨g, 0, none⟩) 3 cap] 22))) := HB1.out.alloc HB1.out.size _; clear hrw)
    | (go_at_call 16; refine (r_any HRW.out 1 (x := b) (by rw [HWS.out]; rfl)).mono ?_; rintro e w4 ⟨rfl, hw⟩; subst w4)
    | (go_at_call 16; refine (r_any HRW.out 2 (x := c) (by rw [HWS.out]; rfl)).mono ?_; rintro e w4 ⟨rfl, hw⟩; subst w4)
    | go_in)
  go_ret
  exact ⟨rfl, HBA.out⟩

set_option maxHeartbeats 4000000 in
set_option maxRecDepth 100000 in
theorem RL_size_no (lines : Nat) (s : ByteArray) (w : World) (hs : s.size ≤ 100000) {rest : List (List UInt8)} (hws : wdL [] s.data.toList = [115, 105, 122, 101] :: rest) (hn : ¬ ([115, 105, 122, 101] :: rest).length = 3) :
    Calls Tryz.prog 9 #[.string s, .int .i64 (lines : Int)] w fun e w' => e = .returned (.bool (rigF lines s.data.toList)) ∧ Below w.heap.size w w' := by
  have hrig : rigF lines s.data.toList = false := by
    rw [rig_of hws rfl (f := [0, 1]) rfl (by decide), decide_eq_false (by simpa using hn), Bool.false_and]
  rw [hrig]
  obtain ⟨ws, hwe⟩ : ∃ ws, [115, 105, 122, 101] :: rest = ws := ⟨_, rfl⟩
  obtain ⟨n, hn1⟩ : ∃ n, ws.length = n := ⟨_, rfl⟩
  have HWS : Hid (ws = [115, 105, 122, 101] :: rest) := hwe.symm
  rw [hwe] at hws hn
  rw [hn1] at hn
  have hnp : 1 ≤ n := by rw [← hn1, ← hwe]; simp
  have hnb : n ≤ 1000000 := by
    have h1 := wdL_len s.data.toList []
    have h2 : s.size = s.data.toList.length := size_of rfl
    rw [hws, hn1] at h1
    omega
  have HW := words_front s w hs hws hn1
  have HW : Hid (Calls Tryz.prog 15 #[.string s] w fun e w1 => ∃ g cap, e = .returned (.slice (some ⟨g, 0, none⟩) n cap) ∧ Hid (Below w.heap.size w w1) ∧ RW (w1.alloc (.cells #[.slice (some ⟨g, 0, none⟩) n cap] 22)) w1.heap.size g n cap ws) := HW
  obtain ⟨m, hm⟩ : ∃ m : Nat, n = m + 1 := ⟨n - 1, by omega⟩
  subst hm
  have e1 : IntKind.i64.wrap (m : Int) = (m : Int) := by rw [IntKind.wrap_i64]; omega
  have e2 : (0 : Int) < (m : Int) + 1 := by omega
  have e3 : ((m : Int) == 2) = false := by simp; omega
  obtain ⟨wd, hwd⟩ : ∃ wd, wd = bA [115, 105, 122, 101] := ⟨_, rfl⟩
  have k0 : (wd.toList == [115, 101, 116]) = false := by rw [hwd, Lib.toList_data]; decide
  have k1 : (wd.toList == [114, 101, 97, 100]) = false := by rw [hwd, Lib.toList_data]; decide
  have k2 : (wd.toList == [108, 105, 115, 116]) = false := by rw [hwd, Lib.toList_data]; decide
  have k3 : (wd.toList == [106, 111, 105, 110]) = false := by rw [hwd, Lib.toList_data]; decide
  have k4 : (wd.toList == [99, 117, 116]) = false := by rw [hwd, Lib.toList_data]; decide
  have k5 : (wd.toList == [115, 105, 122, 101]) = true := by rw [hwd, Lib.toList_data]; decide
  have k6 : (wd.toList == [115, 117, 109]) = false := by rw [hwd, Lib.toList_data]; decide
  have k7 : (wd.toList == [109, 97, 107, 101]) = false := by rw [hwd, Lib.toList_data]; decide
  have k8 : (wd.toList == [114, 117, 110]) = false := by rw [hwd, Lib.toList_data]; decide
  have k9 : (wd.toList == [115, 97, 109, 101]) = false := by rw [hwd, Lib.toList_data]; decide
  have k10 : (wd.toList == [108, 101, 115, 115]) = false := by rw [hwd, Lib.toList_data]; decide
  have k11 : (wd.toList == [103, 111, 116, 111]) = false := by rw [hwd, Lib.toList_data]; decide
  have k12 : (wd.toList == [101, 120, 105, 116]) = false := by rw [hwd, Lib.toList_data]; decide
  have HWD : Hid (wd = bA [115, 105, 122, 101]) := hwd
  clear hwd
  clear hrig hws hwe hn hn1 hnp hnb hs
  go_enter Tryz.func9, Tryz.ntmps9
  go_wp2_with (first
    | (go_at_call 15; refine HW.out.mono ?_; rintro e w1 ⟨g, cap, rfl, HB1, hrw⟩; have HRW : Hid (RW (w1.alloc (.cells #[.slice (some ⟨g, 0, none⟩) (m + 1) cap] 22)) w1.heap.size g (m + 1) cap ws) := hrw; have q0 := (hrw.cells 0 [115, 105, 122, 101] (by rw [HWS.out]; rfl)).1; rw [← HWD.out] at q0; have yc := hrw.y; have HBA : Hid (Below w.heap.size w (w1.alloc (.cells #[.slice (some ⟨g, 0, none⟩) (m + 1) cap] 22))) := HB1.out.alloc HB1.out.size _; clear hrw)
    | go_in)
  go_ret
  exact ⟨rfl, HBA.out⟩

set_option maxHeartbeats 4000000 in
set_option maxRecDepth 100000 in
theorem RL_size_0 (lines : Nat) (s : ByteArray) (w : World) (hs : s.size ≤ 100000) {b c : List UInt8} (hws : wdL [] s.data.toList = [[115, 105, 122, 101], b, c]) (h0 : okP lines 0 b = false) :
    Calls Tryz.prog 9 #[.string s, .int .i64 (lines : Int)] w fun e w' => e = .returned (.bool (rigF lines s.data.toList)) ∧ Below w.heap.size w w' := by
  have hrig : rigF lines s.data.toList = false := by
    rw [rig_of hws rfl (f := [0, 1]) rfl (by decide)]
    simp [allP, h0]
  rw [hrig]
  obtain ⟨ws, hwe⟩ : ∃ ws, [[115, 105, 122, 101], b, c] = ws := ⟨_, rfl⟩
  have hn1 : ws.length = 3 := by rw [← hwe]; rfl
  have HWS : Hid (ws = [[115, 105, 122, 101], b, c]) := hwe.symm
  rw [hwe] at hws
  have HW := words_front s w hs hws hn1
  have HW : Hid (Calls Tryz.prog 15 #[.string s] w fun e w1 => ∃ g cap, e = .returned (.slice (some ⟨g, 0, none⟩) 3 cap) ∧ Hid (Below w.heap.size w w1) ∧ RW (w1.alloc (.cells #[.slice (some ⟨g, 0, none⟩) 3 cap] 22)) w1.heap.size g 3 cap ws) := HW
  obtain ⟨wd, hwd⟩ : ∃ wd, wd = bA [115, 105, 122, 101] := ⟨_, rfl⟩
  have k0 : (wd.toList == [115, 101, 116]) = false := by rw [hwd, Lib.toList_data]; decide
  have k1 : (wd.toList == [114, 101, 97, 100]) = false := by rw [hwd, Lib.toList_data]; decide
  have k2 : (wd.toList == [108, 105, 115, 116]) = false := by rw [hwd, Lib.toList_data]; decide
  have k3 : (wd.toList == [106, 111, 105, 110]) = false := by rw [hwd, Lib.toList_data]; decide
  have k4 : (wd.toList == [99, 117, 116]) = false := by rw [hwd, Lib.toList_data]; decide
  have k5 : (wd.toList == [115, 105, 122, 101]) = true := by rw [hwd, Lib.toList_data]; decide
  have k6 : (wd.toList == [115, 117, 109]) = false := by rw [hwd, Lib.toList_data]; decide
  have k7 : (wd.toList == [109, 97, 107, 101]) = false := by rw [hwd, Lib.toList_data]; decide
  have k8 : (wd.toList == [114, 117, 110]) = false := by rw [hwd, Lib.toList_data]; decide
  have k9 : (wd.toList == [115, 97, 109, 101]) = false := by rw [hwd, Lib.toList_data]; decide
  have k10 : (wd.toList == [108, 101, 115, 115]) = false := by rw [hwd, Lib.toList_data]; decide
  have k11 : (wd.toList == [103, 111, 116, 111]) = false := by rw [hwd, Lib.toList_data]; decide
  have k12 : (wd.toList == [101, 120, 105, 116]) = false := by rw [hwd, Lib.toList_data]; decide
  have HWD : Hid (wd = bA [115, 105, 122, 101]) := hwd
  clear hwd
  have r1 : (regF b).isSome = false := h0
  clear hrig hws hwe hn1 hs h0
  go_enter Tryz.func9, Tryz.ntmps9
  go_wp2_with (first
    | (go_at_call 15; refine HW.out.mono ?_; rintro e w1 ⟨g, cap, rfl, HB1, hrw⟩; have HRW : Hid (RW (w1.alloc (.cells #[.slice (some ⟨g, 0, none⟩) 3 cap] 22)) w1.heap.size g 3 cap ws) := hrw; have q0 := (hrw.cells 0 [115, 105, 122, 101] (by rw [HWS.out]; rfl)).1; rw [← HWD.out] at q0; have yc := hrw.y; have HBA : Hid (Below w.heap.size w (w1.alloc (.cells #[.slice (some ⟨g, 0, none⟩) 3 cap] 22))) := HB1.out.alloc HB1.out.size _; clear hrw)
    | (go_at_call 16; refine (r_any HRW.out 1 (x := b) (by rw [HWS.out]; rfl)).mono ?_; rintro e w4 ⟨rfl, hw⟩; subst w4)
    | go_in)
  go_ret
  exact ⟨rfl, HBA.out⟩

set_option maxHeartbeats 4000000 in
set_option maxRecDepth 100000 in
theorem RL_size_1 (lines : Nat) (s : ByteArray) (w : World) (hs : s.size ≤ 100000) {b c : List UInt8} (hws : wdL [] s.data.toList = [[115, 105, 122, 101], b, c]) (h0 : okP lines 0 b = true) (h1 : okP lines 1 c = false) :
    Calls Tryz.prog 9 #[.string s, .int .i64 (lines : Int)] w fun e w' => e = .returned (.bool (rigF lines s.data.toList)) ∧ Below w.heap.size w w' := by
  have hrig : rigF lines s.data.toList = false := by
    rw [rig_of hws rfl (f := [0, 1]) rfl (by decide)]
    simp [allP, h0, h1]
  rw [hrig]
  obtain ⟨ws, hwe⟩ : ∃ ws, [[115, 105, 122, 101], b, c] = ws := ⟨_, rfl⟩
  have hn1 : ws.length = 3 := by rw [← hwe]; rfl
  have HWS : Hid (ws = [[115, 105, 122, 101], b, c]) := hwe.symm
  rw [hwe] at hws
  have HW := words_front s w hs hws hn1
  have HW : Hid (Calls Tryz.prog 15 #[.string s] w fun e w1 => ∃ g cap, e = .returned (.slice (some ⟨g, 0, none⟩) 3 cap) ∧ Hid (Below w.heap.size w w1) ∧ RW (w1.alloc (.cells #[.slice (some ⟨g, 0, none⟩) 3 cap] 22)) w1.heap.size g 3 cap ws) := HW
  obtain ⟨wd, hwd⟩ : ∃ wd, wd = bA [115, 105, 122, 101] := ⟨_, rfl⟩
  have k0 : (wd.toList == [115, 101, 116]) = false := by rw [hwd, Lib.toList_data]; decide
  have k1 : (wd.toList == [114, 101, 97, 100]) = false := by rw [hwd, Lib.toList_data]; decide
  have k2 : (wd.toList == [108, 105, 115, 116]) = false := by rw [hwd, Lib.toList_data]; decide
  have k3 : (wd.toList == [106, 111, 105, 110]) = false := by rw [hwd, Lib.toList_data]; decide
  have k4 : (wd.toList == [99, 117, 116]) = false := by rw [hwd, Lib.toList_data]; decide
  have k5 : (wd.toList == [115, 105, 122, 101]) = true := by rw [hwd, Lib.toList_data]; decide
  have k6 : (wd.toList == [115, 117, 109]) = false := by rw [hwd, Lib.toList_data]; decide
  have k7 : (wd.toList == [109, 97, 107, 101]) = false := by rw [hwd, Lib.toList_data]; decide
  have k8 : (wd.toList == [114, 117, 110]) = false := by rw [hwd, Lib.toList_data]; decide
  have k9 : (wd.toList == [115, 97, 109, 101]) = false := by rw [hwd, Lib.toList_data]; decide
  have k10 : (wd.toList == [108, 101, 115, 115]) = false := by rw [hwd, Lib.toList_data]; decide
  have k11 : (wd.toList == [103, 111, 116, 111]) = false := by rw [hwd, Lib.toList_data]; decide
  have k12 : (wd.toList == [101, 120, 105, 116]) = false := by rw [hwd, Lib.toList_data]; decide
  have HWD : Hid (wd = bA [115, 105, 122, 101]) := hwd
  clear hwd
  have r1 : (regF b).isSome = true := h0
  have r2 : (regF c).isSome = false := h1
  clear hrig hws hwe hn1 hs h0 h1
  go_enter Tryz.func9, Tryz.ntmps9
  go_wp2_with (first
    | (go_at_call 15; refine HW.out.mono ?_; rintro e w1 ⟨g, cap, rfl, HB1, hrw⟩; have HRW : Hid (RW (w1.alloc (.cells #[.slice (some ⟨g, 0, none⟩) 3 cap] 22)) w1.heap.size g 3 cap ws) := hrw; have q0 := (hrw.cells 0 [115, 105, 122, 101] (by rw [HWS.out]; rfl)).1; rw [← HWD.out] at q0; have yc := hrw.y; have HBA : Hid (Below w.heap.size w (w1.alloc (.cells #[.slice (some ⟨g, 0, none⟩) 3 cap] 22))) := HB1.out.alloc HB1.out.size _; clear hrw)
    | (go_at_call 16; refine (r_any HRW.out 1 (x := b) (by rw [HWS.out]; rfl)).mono ?_; rintro e w4 ⟨rfl, hw⟩; subst w4)
    | (go_at_call 16; refine (r_any HRW.out 2 (x := c) (by rw [HWS.out]; rfl)).mono ?_; rintro e w4 ⟨rfl, hw⟩; subst w4)
    | go_in)
  go_ret
  exact ⟨rfl, HBA.out⟩

set_option maxHeartbeats 4000000 in
set_option maxRecDepth 100000 in
theorem RL_size_2 (lines : Nat) (s : ByteArray) (w : World) (hs : s.size ≤ 100000) {b c : List UInt8} (hws : wdL [] s.data.toList = [[115, 105, 122, 101], b, c]) (h0 : okP lines 0 b = true) (h1 : okP lines 1 c = true) :
    Calls Tryz.prog 9 #[.string s, .int .i64 (lines : Int)] w fun e w' => e = .returned (.bool (rigF lines s.data.toList)) ∧ Below w.heap.size w w' := by
  have hrig : rigF lines s.data.toList = true := by
    rw [rig_of hws rfl (f := [0, 1]) rfl (by decide)]
    simp [allP, h0, h1]
  rw [hrig]
  obtain ⟨ws, hwe⟩ : ∃ ws, [[115, 105, 122, 101], b, c] = ws := ⟨_, rfl⟩
  have hn1 : ws.length = 3 := by rw [← hwe]; rfl
  have HWS : Hid (ws = [[115, 105, 122, 101], b, c]) := hwe.symm
  rw [hwe] at hws
  have HW := words_front s w hs hws hn1
  have HW : Hid (Calls Tryz.prog 15 #[.string s] w fun e w1 => ∃ g cap, e = .returned (.slice (some ⟨g, 0, none⟩) 3 cap) ∧ Hid (Below w.heap.size w w1) ∧ RW (w1.alloc (.cells #[.slice (some ⟨g, 0, none⟩) 3 cap] 22)) w1.heap.size g 3 cap ws) := HW
  obtain ⟨wd, hwd⟩ : ∃ wd, wd = bA [115, 105, 122, 101] := ⟨_, rfl⟩
  have k0 : (wd.toList == [115, 101, 116]) = false := by rw [hwd, Lib.toList_data]; decide
  have k1 : (wd.toList == [114, 101, 97, 100]) = false := by rw [hwd, Lib.toList_data]; decide
  have k2 : (wd.toList == [108, 105, 115, 116]) = false := by rw [hwd, Lib.toList_data]; decide
  have k3 : (wd.toList == [106, 111, 105, 110]) = false := by rw [hwd, Lib.toList_data]; decide
  have k4 : (wd.toList == [99, 117, 116]) = false := by rw [hwd, Lib.toList_data]; decide
  have k5 : (wd.toList == [115, 105, 122, 101]) = true := by rw [hwd, Lib.toList_data]; decide
  have k6 : (wd.toList == [115, 117, 109]) = false := by rw [hwd, Lib.toList_data]; decide
  have k7 : (wd.toList == [109, 97, 107, 101]) = false := by rw [hwd, Lib.toList_data]; decide
  have k8 : (wd.toList == [114, 117, 110]) = false := by rw [hwd, Lib.toList_data]; decide
  have k9 : (wd.toList == [115, 97, 109, 101]) = false := by rw [hwd, Lib.toList_data]; decide
  have k10 : (wd.toList == [108, 101, 115, 115]) = false := by rw [hwd, Lib.toList_data]; decide
  have k11 : (wd.toList == [103, 111, 116, 111]) = false := by rw [hwd, Lib.toList_data]; decide
  have k12 : (wd.toList == [101, 120, 105, 116]) = false := by rw [hwd, Lib.toList_data]; decide
  have HWD : Hid (wd = bA [115, 105, 122, 101]) := hwd
  clear hwd
  have r1 : (regF b).isSome = true := h0
  have r2 : (regF c).isSome = true := h1
  clear hrig hws hwe hn1 hs h0 h1
  go_enter Tryz.func9, Tryz.ntmps9
  go_wp2_with (first
    | (go_at_call 15; refine HW.out.mono ?_; rintro e w1 ⟨g, cap, rfl, HB1, hrw⟩; have HRW : Hid (RW (w1.alloc (.cells #[.slice (some ⟨g, 0, none⟩) 3 cap] 22)) w1.heap.size g 3 cap ws) := hrw; have q0 := (hrw.cells 0 [115, 105, 122, 101] (by rw [HWS.out]; rfl)).1; rw [← HWD.out] at q0; have yc := hrw.y; have HBA : Hid (Below w.heap.size w (w1.alloc (.cells #[.slice (some ⟨g, 0, none⟩) 3 cap] 22))) := HB1.out.alloc HB1.out.size _; clear hrw)
    | (go_at_call 16; refine (r_any HRW.out 1 (x := b) (by rw [HWS.out]; rfl)).mono ?_; rintro e w4 ⟨rfl, hw⟩; subst w4)
    | (go_at_call 16; refine (r_any HRW.out 2 (x := c) (by rw [HWS.out]; rfl)).mono ?_; rintro e w4 ⟨rfl, hw⟩; subst w4)
    | go_in)
  go_ret
  exact ⟨rfl, HBA.out⟩

set_option maxHeartbeats 4000000 in
set_option maxRecDepth 100000 in
theorem RL_goto_no (lines : Nat) (s : ByteArray) (w : World) (hs : s.size ≤ 100000) {rest : List (List UInt8)} (hws : wdL [] s.data.toList = [103, 111, 116, 111] :: rest) (hn : ¬ ([103, 111, 116, 111] :: rest).length = 2) :
    Calls Tryz.prog 9 #[.string s, .int .i64 (lines : Int)] w fun e w' => e = .returned (.bool (rigF lines s.data.toList)) ∧ Below w.heap.size w w' := by
  have hrig : rigF lines s.data.toList = false := by
    rw [rig_of hws rfl (f := [4]) rfl (by decide), decide_eq_false (by simpa using hn), Bool.false_and]
  rw [hrig]
  obtain ⟨ws, hwe⟩ : ∃ ws, [103, 111, 116, 111] :: rest = ws := ⟨_, rfl⟩
  obtain ⟨n, hn1⟩ : ∃ n, ws.length = n := ⟨_, rfl⟩
  have HWS : Hid (ws = [103, 111, 116, 111] :: rest) := hwe.symm
  rw [hwe] at hws hn
  rw [hn1] at hn
  have hnp : 1 ≤ n := by rw [← hn1, ← hwe]; simp
  have hnb : n ≤ 1000000 := by
    have h1 := wdL_len s.data.toList []
    have h2 : s.size = s.data.toList.length := size_of rfl
    rw [hws, hn1] at h1
    omega
  have HW := words_front s w hs hws hn1
  have HW : Hid (Calls Tryz.prog 15 #[.string s] w fun e w1 => ∃ g cap, e = .returned (.slice (some ⟨g, 0, none⟩) n cap) ∧ Hid (Below w.heap.size w w1) ∧ RW (w1.alloc (.cells #[.slice (some ⟨g, 0, none⟩) n cap] 22)) w1.heap.size g n cap ws) := HW
  obtain ⟨m, hm⟩ : ∃ m : Nat, n = m + 1 := ⟨n - 1, by omega⟩
  subst hm
  have e1 : IntKind.i64.wrap (m : Int) = (m : Int) := by rw [IntKind.wrap_i64]; omega
  have e2 : (0 : Int) < (m : Int) + 1 := by omega
  have e3 : ((m : Int) == 1) = false := by simp; omega
  obtain ⟨wd, hwd⟩ : ∃ wd, wd = bA [103, 111, 116, 111] := ⟨_, rfl⟩
  have k0 : (wd.toList == [115, 101, 116]) = false := by rw [hwd, Lib.toList_data]; decide
  have k1 : (wd.toList == [114, 101, 97, 100]) = false := by rw [hwd, Lib.toList_data]; decide
  have k2 : (wd.toList == [108, 105, 115, 116]) = false := by rw [hwd, Lib.toList_data]; decide
  have k3 : (wd.toList == [106, 111, 105, 110]) = false := by rw [hwd, Lib.toList_data]; decide
  have k4 : (wd.toList == [99, 117, 116]) = false := by rw [hwd, Lib.toList_data]; decide
  have k5 : (wd.toList == [115, 105, 122, 101]) = false := by rw [hwd, Lib.toList_data]; decide
  have k6 : (wd.toList == [115, 117, 109]) = false := by rw [hwd, Lib.toList_data]; decide
  have k7 : (wd.toList == [109, 97, 107, 101]) = false := by rw [hwd, Lib.toList_data]; decide
  have k8 : (wd.toList == [114, 117, 110]) = false := by rw [hwd, Lib.toList_data]; decide
  have k9 : (wd.toList == [115, 97, 109, 101]) = false := by rw [hwd, Lib.toList_data]; decide
  have k10 : (wd.toList == [108, 101, 115, 115]) = false := by rw [hwd, Lib.toList_data]; decide
  have k11 : (wd.toList == [103, 111, 116, 111]) = true := by rw [hwd, Lib.toList_data]; decide
  have k12 : (wd.toList == [101, 120, 105, 116]) = false := by rw [hwd, Lib.toList_data]; decide
  have HWD : Hid (wd = bA [103, 111, 116, 111]) := hwd
  clear hwd
  clear hrig hws hwe hn hn1 hnp hnb hs
  go_enter Tryz.func9, Tryz.ntmps9
  go_wp2_with (first
    | (go_at_call 15; refine HW.out.mono ?_; rintro e w1 ⟨g, cap, rfl, HB1, hrw⟩; have HRW : Hid (RW (w1.alloc (.cells #[.slice (some ⟨g, 0, none⟩) (m + 1) cap] 22)) w1.heap.size g (m + 1) cap ws) := hrw; have q0 := (hrw.cells 0 [103, 111, 116, 111] (by rw [HWS.out]; rfl)).1; rw [← HWD.out] at q0; have yc := hrw.y; have HBA : Hid (Below w.heap.size w (w1.alloc (.cells #[.slice (some ⟨g, 0, none⟩) (m + 1) cap] 22))) := HB1.out.alloc HB1.out.size _; clear hrw)
    | go_in)
  go_ret
  exact ⟨rfl, HBA.out⟩

set_option maxHeartbeats 4000000 in
set_option maxRecDepth 100000 in
theorem RL_goto_0 (lines : Nat) (s : ByteArray) (w : World) (hs : s.size ≤ 100000) {b : List UInt8} (hws : wdL [] s.data.toList = [[103, 111, 116, 111], b]) (h0 : okP lines 4 b = false) :
    Calls Tryz.prog 9 #[.string s, .int .i64 (lines : Int)] w fun e w' => e = .returned (.bool (rigF lines s.data.toList)) ∧ Below w.heap.size w w' := by
  have hrig : rigF lines s.data.toList = false := by
    rw [rig_of hws rfl (f := [4]) rfl (by decide)]
    simp [allP, h0]
  rw [hrig]
  obtain ⟨ws, hwe⟩ : ∃ ws, [[103, 111, 116, 111], b] = ws := ⟨_, rfl⟩
  have hn1 : ws.length = 2 := by rw [← hwe]; rfl
  have HWS : Hid (ws = [[103, 111, 116, 111], b]) := hwe.symm
  rw [hwe] at hws
  have HW := words_front s w hs hws hn1
  have HW : Hid (Calls Tryz.prog 15 #[.string s] w fun e w1 => ∃ g cap, e = .returned (.slice (some ⟨g, 0, none⟩) 2 cap) ∧ Hid (Below w.heap.size w w1) ∧ RW (w1.alloc (.cells #[.slice (some ⟨g, 0, none⟩) 2 cap] 22)) w1.heap.size g 2 cap ws) := HW
  obtain ⟨wd, hwd⟩ : ∃ wd, wd = bA [103, 111, 116, 111] := ⟨_, rfl⟩
  have k0 : (wd.toList == [115, 101, 116]) = false := by rw [hwd, Lib.toList_data]; decide
  have k1 : (wd.toList == [114, 101, 97, 100]) = false := by rw [hwd, Lib.toList_data]; decide
  have k2 : (wd.toList == [108, 105, 115, 116]) = false := by rw [hwd, Lib.toList_data]; decide
  have k3 : (wd.toList == [106, 111, 105, 110]) = false := by rw [hwd, Lib.toList_data]; decide
  have k4 : (wd.toList == [99, 117, 116]) = false := by rw [hwd, Lib.toList_data]; decide
  have k5 : (wd.toList == [115, 105, 122, 101]) = false := by rw [hwd, Lib.toList_data]; decide
  have k6 : (wd.toList == [115, 117, 109]) = false := by rw [hwd, Lib.toList_data]; decide
  have k7 : (wd.toList == [109, 97, 107, 101]) = false := by rw [hwd, Lib.toList_data]; decide
  have k8 : (wd.toList == [114, 117, 110]) = false := by rw [hwd, Lib.toList_data]; decide
  have k9 : (wd.toList == [115, 97, 109, 101]) = false := by rw [hwd, Lib.toList_data]; decide
  have k10 : (wd.toList == [108, 101, 115, 115]) = false := by rw [hwd, Lib.toList_data]; decide
  have k11 : (wd.toList == [103, 111, 116, 111]) = true := by rw [hwd, Lib.toList_data]; decide
  have k12 : (wd.toList == [101, 120, 105, 116]) = false := by rw [hwd, Lib.toList_data]; decide
  have HWD : Hid (wd = bA [103, 111, 116, 111]) := hwd
  clear hwd
  rw [okP_num lines 4 b lines (.inr (.inr (.inl ⟨rfl, rfl⟩)))] at h0
  have HZ1 : Hid (nmbF (bA b).data.toList ((lines : Nat) : Int) = -1) := nmb_neg (by simpa using h0)
  have HN1 : Hid (∀ W, Calls Tryz.prog 19 #[.string (bA b), .int .i64 (lines : Int)] W fun e w' => e = .returned (.int .i64 (-1)) ∧ w' = W) := fun W => by
    have h := NumberOf_any (bA b) lines W (wd_size hs hws (by rw [HWS.out]; simp))
    rw [HZ1.out] at h
    exact h
  obtain ⟨x1, hx1⟩ : ∃ x, x = bA b := ⟨_, rfl⟩
  rw [← hx1] at HN1
  have HX1 : Hid (x1 = bA b) := hx1
  clear hx1
  clear hrig hws hwe hn1 hs h0
  go_enter Tryz.func9, Tryz.ntmps9
  go_wp2_with (first
    | (go_at_call 15; refine HW.out.mono ?_; rintro e w1 ⟨g, cap, rfl, HB1, hrw⟩; have HRW : Hid (RW (w1.alloc (.cells #[.slice (some ⟨g, 0, none⟩) 2 cap] 22)) w1.heap.size g 2 cap ws) := hrw; have q0 := (hrw.cells 0 [103, 111, 116, 111] (by rw [HWS.out]; rfl)).1; rw [← HWD.out] at q0; have yc := hrw.y; have p1 := (hrw.cells 1 b (by rw [HWS.out]; rfl)).1; rw [← HX1.out] at p1; have HBA : Hid (Below w.heap.size w (w1.alloc (.cells #[.slice (some ⟨g, 0, none⟩) 2 cap] 22))) := HB1.out.alloc HB1.out.size _; clear hrw)
    | (go_at_call 19; with_reducible refine (HN1.out _).mono ?_; rintro e w4 ⟨rfl, hw⟩; subst w4)
    | go_in)
  go_ret
  exact ⟨rfl, HBA.out⟩

set_option maxHeartbeats 4000000 in
set_option maxRecDepth 100000 in
theorem RL_goto_1 (lines : Nat) (s : ByteArray) (w : World) (hs : s.size ≤ 100000) {b : List UInt8} (hws : wdL [] s.data.toList = [[103, 111, 116, 111], b]) (h0 : okP lines 4 b = true) :
    Calls Tryz.prog 9 #[.string s, .int .i64 (lines : Int)] w fun e w' => e = .returned (.bool (rigF lines s.data.toList)) ∧ Below w.heap.size w w' := by
  have hrig : rigF lines s.data.toList = true := by
    rw [rig_of hws rfl (f := [4]) rfl (by decide)]
    simp [allP, h0]
  rw [hrig]
  obtain ⟨ws, hwe⟩ : ∃ ws, [[103, 111, 116, 111], b] = ws := ⟨_, rfl⟩
  have hn1 : ws.length = 2 := by rw [← hwe]; rfl
  have HWS : Hid (ws = [[103, 111, 116, 111], b]) := hwe.symm
  rw [hwe] at hws
  have HW := words_front s w hs hws hn1
  have HW : Hid (Calls Tryz.prog 15 #[.string s] w fun e w1 => ∃ g cap, e = .returned (.slice (some ⟨g, 0, none⟩) 2 cap) ∧ Hid (Below w.heap.size w w1) ∧ RW (w1.alloc (.cells #[.slice (some ⟨g, 0, none⟩) 2 cap] 22)) w1.heap.size g 2 cap ws) := HW
  obtain ⟨wd, hwd⟩ : ∃ wd, wd = bA [103, 111, 116, 111] := ⟨_, rfl⟩
  have k0 : (wd.toList == [115, 101, 116]) = false := by rw [hwd, Lib.toList_data]; decide
  have k1 : (wd.toList == [114, 101, 97, 100]) = false := by rw [hwd, Lib.toList_data]; decide
  have k2 : (wd.toList == [108, 105, 115, 116]) = false := by rw [hwd, Lib.toList_data]; decide
  have k3 : (wd.toList == [106, 111, 105, 110]) = false := by rw [hwd, Lib.toList_data]; decide
  have k4 : (wd.toList == [99, 117, 116]) = false := by rw [hwd, Lib.toList_data]; decide
  have k5 : (wd.toList == [115, 105, 122, 101]) = false := by rw [hwd, Lib.toList_data]; decide
  have k6 : (wd.toList == [115, 117, 109]) = false := by rw [hwd, Lib.toList_data]; decide
  have k7 : (wd.toList == [109, 97, 107, 101]) = false := by rw [hwd, Lib.toList_data]; decide
  have k8 : (wd.toList == [114, 117, 110]) = false := by rw [hwd, Lib.toList_data]; decide
  have k9 : (wd.toList == [115, 97, 109, 101]) = false := by rw [hwd, Lib.toList_data]; decide
  have k10 : (wd.toList == [108, 101, 115, 115]) = false := by rw [hwd, Lib.toList_data]; decide
  have k11 : (wd.toList == [103, 111, 116, 111]) = true := by rw [hwd, Lib.toList_data]; decide
  have k12 : (wd.toList == [101, 120, 105, 116]) = false := by rw [hwd, Lib.toList_data]; decide
  have HWD : Hid (wd = bA [103, 111, 116, 111]) := hwd
  clear hwd
  rw [okP_num lines 4 b lines (.inr (.inr (.inl ⟨rfl, rfl⟩)))] at h0
  obtain ⟨z1, hz1⟩ : ∃ z, nmbF (bA b).data.toList ((lines : Nat) : Int) = z := ⟨_, rfl⟩
  rw [hz1] at h0
  have HZ1 : Hid (nmbF (bA b).data.toList ((lines : Nat) : Int) = z1) := hz1
  clear hz1
  have g1 : (0 : Int) ≤ z1 := by simpa using h0
  have HN1 : Hid (∀ W, Calls Tryz.prog 19 #[.string (bA b), .int .i64 (lines : Int)] W fun e w' => e = .returned (.int .i64 z1) ∧ w' = W) := fun W => by
    have h := NumberOf_any (bA b) lines W (wd_size hs hws (by rw [HWS.out]; simp))
    rw [HZ1.out] at h
    exact h
  obtain ⟨x1, hx1⟩ : ∃ x, x = bA b := ⟨_, rfl⟩
  rw [← hx1] at HN1
  have HX1 : Hid (x1 = bA b) := hx1
  clear hx1
  clear hrig hws hwe hn1 hs h0
  go_enter Tryz.func9, Tryz.ntmps9
  go_wp2_with (first
    | (go_at_call 15; refine HW.out.mono ?_; rintro e w1 ⟨g, cap, rfl, HB1, hrw⟩; have HRW : Hid (RW (w1.alloc (.cells #[.slice (some ⟨g, 0, none⟩) 2 cap] 22)) w1.heap.size g 2 cap ws) := hrw; have q0 := (hrw.cells 0 [103, 111, 116, 111] (by rw [HWS.out]; rfl)).1; rw [← HWD.out] at q0; have yc := hrw.y; have p1 := (hrw.cells 1 b (by rw [HWS.out]; rfl)).1; rw [← HX1.out] at p1; have HBA : Hid (Below w.heap.size w (w1.alloc (.cells #[.slice (some ⟨g, 0, none⟩) 2 cap] 22))) := HB1.out.alloc HB1.out.size _; clear hrw)
    | (go_at_call 19; with_reducible refine (HN1.out _).mono ?_; rintro e w4 ⟨rfl, hw⟩; subst w4)
    | go_in)
  go_ret
  exact ⟨rfl, HBA.out⟩

set_option maxHeartbeats 4000000 in
set_option maxRecDepth 100000 in
theorem RL_exit_no (lines : Nat) (s : ByteArray) (w : World) (hs : s.size ≤ 100000) {rest : List (List UInt8)} (hws : wdL [] s.data.toList = [101, 120, 105, 116] :: rest) (hn : ¬ ([101, 120, 105, 116] :: rest).length = 2) :
    Calls Tryz.prog 9 #[.string s, .int .i64 (lines : Int)] w fun e w' => e = .returned (.bool (rigF lines s.data.toList)) ∧ Below w.heap.size w w' := by
  have hrig : rigF lines s.data.toList = false := by
    rw [rig_of hws rfl (f := [5]) rfl (by decide), decide_eq_false (by simpa using hn), Bool.false_and]
  rw [hrig]
  obtain ⟨ws, hwe⟩ : ∃ ws, [101, 120, 105, 116] :: rest = ws := ⟨_, rfl⟩
  obtain ⟨n, hn1⟩ : ∃ n, ws.length = n := ⟨_, rfl⟩
  have HWS : Hid (ws = [101, 120, 105, 116] :: rest) := hwe.symm
  rw [hwe] at hws hn
  rw [hn1] at hn
  have hnp : 1 ≤ n := by rw [← hn1, ← hwe]; simp
  have hnb : n ≤ 1000000 := by
    have h1 := wdL_len s.data.toList []
    have h2 : s.size = s.data.toList.length := size_of rfl
    rw [hws, hn1] at h1
    omega
  have HW := words_front s w hs hws hn1
  have HW : Hid (Calls Tryz.prog 15 #[.string s] w fun e w1 => ∃ g cap, e = .returned (.slice (some ⟨g, 0, none⟩) n cap) ∧ Hid (Below w.heap.size w w1) ∧ RW (w1.alloc (.cells #[.slice (some ⟨g, 0, none⟩) n cap] 22)) w1.heap.size g n cap ws) := HW
  obtain ⟨m, hm⟩ : ∃ m : Nat, n = m + 1 := ⟨n - 1, by omega⟩
  subst hm
  have e1 : IntKind.i64.wrap (m : Int) = (m : Int) := by rw [IntKind.wrap_i64]; omega
  have e2 : (0 : Int) < (m : Int) + 1 := by omega
  have e3 : ((m : Int) == 1) = false := by simp; omega
  obtain ⟨wd, hwd⟩ : ∃ wd, wd = bA [101, 120, 105, 116] := ⟨_, rfl⟩
  have k0 : (wd.toList == [115, 101, 116]) = false := by rw [hwd, Lib.toList_data]; decide
  have k1 : (wd.toList == [114, 101, 97, 100]) = false := by rw [hwd, Lib.toList_data]; decide
  have k2 : (wd.toList == [108, 105, 115, 116]) = false := by rw [hwd, Lib.toList_data]; decide
  have k3 : (wd.toList == [106, 111, 105, 110]) = false := by rw [hwd, Lib.toList_data]; decide
  have k4 : (wd.toList == [99, 117, 116]) = false := by rw [hwd, Lib.toList_data]; decide
  have k5 : (wd.toList == [115, 105, 122, 101]) = false := by rw [hwd, Lib.toList_data]; decide
  have k6 : (wd.toList == [115, 117, 109]) = false := by rw [hwd, Lib.toList_data]; decide
  have k7 : (wd.toList == [109, 97, 107, 101]) = false := by rw [hwd, Lib.toList_data]; decide
  have k8 : (wd.toList == [114, 117, 110]) = false := by rw [hwd, Lib.toList_data]; decide
  have k9 : (wd.toList == [115, 97, 109, 101]) = false := by rw [hwd, Lib.toList_data]; decide
  have k10 : (wd.toList == [108, 101, 115, 115]) = false := by rw [hwd, Lib.toList_data]; decide
  have k11 : (wd.toList == [103, 111, 116, 111]) = false := by rw [hwd, Lib.toList_data]; decide
  have k12 : (wd.toList == [101, 120, 105, 116]) = true := by rw [hwd, Lib.toList_data]; decide
  have HWD : Hid (wd = bA [101, 120, 105, 116]) := hwd
  clear hwd
  clear hrig hws hwe hn hn1 hnp hnb hs
  go_enter Tryz.func9, Tryz.ntmps9
  go_wp2_with (first
    | (go_at_call 15; refine HW.out.mono ?_; rintro e w1 ⟨g, cap, rfl, HB1, hrw⟩; have HRW : Hid (RW (w1.alloc (.cells #[.slice (some ⟨g, 0, none⟩) (m + 1) cap] 22)) w1.heap.size g (m + 1) cap ws) := hrw; have q0 := (hrw.cells 0 [101, 120, 105, 116] (by rw [HWS.out]; rfl)).1; rw [← HWD.out] at q0; have yc := hrw.y; have HBA : Hid (Below w.heap.size w (w1.alloc (.cells #[.slice (some ⟨g, 0, none⟩) (m + 1) cap] 22))) := HB1.out.alloc HB1.out.size _; clear hrw)
    | go_in)
  go_ret
  exact ⟨rfl, HBA.out⟩

set_option maxHeartbeats 4000000 in
set_option maxRecDepth 100000 in
theorem RL_exit_0 (lines : Nat) (s : ByteArray) (w : World) (hs : s.size ≤ 100000) {b : List UInt8} (hws : wdL [] s.data.toList = [[101, 120, 105, 116], b]) (h0 : okP lines 5 b = false) :
    Calls Tryz.prog 9 #[.string s, .int .i64 (lines : Int)] w fun e w' => e = .returned (.bool (rigF lines s.data.toList)) ∧ Below w.heap.size w w' := by
  have hrig : rigF lines s.data.toList = false := by
    rw [rig_of hws rfl (f := [5]) rfl (by decide)]
    simp [allP, h0]
  rw [hrig]
  obtain ⟨ws, hwe⟩ : ∃ ws, [[101, 120, 105, 116], b] = ws := ⟨_, rfl⟩
  have hn1 : ws.length = 2 := by rw [← hwe]; rfl
  have HWS : Hid (ws = [[101, 120, 105, 116], b]) := hwe.symm
  rw [hwe] at hws
  have HW := words_front s w hs hws hn1
  have HW : Hid (Calls Tryz.prog 15 #[.string s] w fun e w1 => ∃ g cap, e = .returned (.slice (some ⟨g, 0, none⟩) 2 cap) ∧ Hid (Below w.heap.size w w1) ∧ RW (w1.alloc (.cells #[.slice (some ⟨g, 0, none⟩) 2 cap] 22)) w1.heap.size g 2 cap ws) := HW
  obtain ⟨wd, hwd⟩ : ∃ wd, wd = bA [101, 120, 105, 116] := ⟨_, rfl⟩
  have k0 : (wd.toList == [115, 101, 116]) = false := by rw [hwd, Lib.toList_data]; decide
  have k1 : (wd.toList == [114, 101, 97, 100]) = false := by rw [hwd, Lib.toList_data]; decide
  have k2 : (wd.toList == [108, 105, 115, 116]) = false := by rw [hwd, Lib.toList_data]; decide
  have k3 : (wd.toList == [106, 111, 105, 110]) = false := by rw [hwd, Lib.toList_data]; decide
  have k4 : (wd.toList == [99, 117, 116]) = false := by rw [hwd, Lib.toList_data]; decide
  have k5 : (wd.toList == [115, 105, 122, 101]) = false := by rw [hwd, Lib.toList_data]; decide
  have k6 : (wd.toList == [115, 117, 109]) = false := by rw [hwd, Lib.toList_data]; decide
  have k7 : (wd.toList == [109, 97, 107, 101]) = false := by rw [hwd, Lib.toList_data]; decide
  have k8 : (wd.toList == [114, 117, 110]) = false := by rw [hwd, Lib.toList_data]; decide
  have k9 : (wd.toList == [115, 97, 109, 101]) = false := by rw [hwd, Lib.toList_data]; decide
  have k10 : (wd.toList == [108, 101, 115, 115]) = false := by rw [hwd, Lib.toList_data]; decide
  have k11 : (wd.toList == [103, 111, 116, 111]) = false := by rw [hwd, Lib.toList_data]; decide
  have k12 : (wd.toList == [101, 120, 105, 116]) = true := by rw [hwd, Lib.toList_data]; decide
  have HWD : Hid (wd = bA [101, 120, 105, 116]) := hwd
  clear hwd
  rw [okP_num lines 5 b 99 (.inr (.inr (.inr ⟨rfl, rfl⟩)))] at h0
  have HZ1 : Hid (nmbF (bA b).data.toList ((99 : Nat) : Int) = -1) := nmb_neg (by simpa using h0)
  have HN1 : Hid (∀ W, Calls Tryz.prog 19 #[.string (bA b), .int .i64 99] W fun e w' => e = .returned (.int .i64 (-1)) ∧ w' = W) := fun W => by
    have h := NumberOf_any (bA b) 99 W (wd_size hs hws (by rw [HWS.out]; simp))
    rw [HZ1.out] at h
    exact h
  obtain ⟨x1, hx1⟩ : ∃ x, x = bA b := ⟨_, rfl⟩
  rw [← hx1] at HN1
  have HX1 : Hid (x1 = bA b) := hx1
  clear hx1
  clear hrig hws hwe hn1 hs h0
  go_enter Tryz.func9, Tryz.ntmps9
  go_wp2_with (first
    | (go_at_call 15; refine HW.out.mono ?_; rintro e w1 ⟨g, cap, rfl, HB1, hrw⟩; have HRW : Hid (RW (w1.alloc (.cells #[.slice (some ⟨g, 0, none⟩) 2 cap] 22)) w1.heap.size g 2 cap ws) := hrw; have q0 := (hrw.cells 0 [101, 120, 105, 116] (by rw [HWS.out]; rfl)).1; rw [← HWD.out] at q0; have yc := hrw.y; have p1 := (hrw.cells 1 b (by rw [HWS.out]; rfl)).1; rw [← HX1.out] at p1; have HBA : Hid (Below w.heap.size w (w1.alloc (.cells #[.slice (some ⟨g, 0, none⟩) 2 cap] 22))) := HB1.out.alloc HB1.out.size _; clear hrw)
    | (go_at_call 19; with_reducible refine (HN1.out _).mono ?_; rintro e w4 ⟨rfl, hw⟩; subst w4)
    | go_in)
  go_ret
  exact ⟨rfl, HBA.out⟩

set_option maxHeartbeats 4000000 in
set_option maxRecDepth 100000 in
theorem RL_exit_1 (lines : Nat) (s : ByteArray) (w : World) (hs : s.size ≤ 100000) {b : List UInt8} (hws : wdL [] s.data.toList = [[101, 120, 105, 116], b]) (h0 : okP lines 5 b = true) :
    Calls Tryz.prog 9 #[.string s, .int .i64 (lines : Int)] w fun e w' => e = .returned (.bool (rigF lines s.data.toList)) ∧ Below w.heap.size w w' := by
  have hrig : rigF lines s.data.toList = true := by
    rw [rig_of hws rfl (f := [5]) rfl (by decide)]
    simp [allP, h0]
  rw [hrig]
  obtain ⟨ws, hwe⟩ : ∃ ws, [[101, 120, 105, 116], b] = ws := ⟨_, rfl⟩
  have hn1 : ws.length = 2 := by rw [← hwe]; rfl
  have HWS : Hid (ws = [[101, 120, 105, 116], b]) := hwe.symm
  rw [hwe] at hws
  have HW := words_front s w hs hws hn1
  have HW : Hid (Calls Tryz.prog 15 #[.string s] w fun e w1 => ∃ g cap, e = .returned (.slice (some ⟨g, 0, none⟩) 2 cap) ∧ Hid (Below w.heap.size w w1) ∧ RW (w1.alloc (.cells #[.slice (some ⟨g, 0, none⟩) 2 cap] 22)) w1.heap.size g 2 cap ws) := HW
  obtain ⟨wd, hwd⟩ : ∃ wd, wd = bA [101, 120, 105, 116] := ⟨_, rfl⟩
  have k0 : (wd.toList == [115, 101, 116]) = false := by rw [hwd, Lib.toList_data]; decide
  have k1 : (wd.toList == [114, 101, 97, 100]) = false := by rw [hwd, Lib.toList_data]; decide
  have k2 : (wd.toList == [108, 105, 115, 116]) = false := by rw [hwd, Lib.toList_data]; decide
  have k3 : (wd.toList == [106, 111, 105, 110]) = false := by rw [hwd, Lib.toList_data]; decide
  have k4 : (wd.toList == [99, 117, 116]) = false := by rw [hwd, Lib.toList_data]; decide
  have k5 : (wd.toList == [115, 105, 122, 101]) = false := by rw [hwd, Lib.toList_data]; decide
  have k6 : (wd.toList == [115, 117, 109]) = false := by rw [hwd, Lib.toList_data]; decide
  have k7 : (wd.toList == [109, 97, 107, 101]) = false := by rw [hwd, Lib.toList_data]; decide
  have k8 : (wd.toList == [114, 117, 110]) = false := by rw [hwd, Lib.toList_data]; decide
  have k9 : (wd.toList == [115, 97, 109, 101]) = false := by rw [hwd, Lib.toList_data]; decide
  have k10 : (wd.toList == [108, 101, 115, 115]) = false := by rw [hwd, Lib.toList_data]; decide
  have k11 : (wd.toList == [103, 111, 116, 111]) = false := by rw [hwd, Lib.toList_data]; decide
  have k12 : (wd.toList == [101, 120, 105, 116]) = true := by rw [hwd, Lib.toList_data]; decide
  have HWD : Hid (wd = bA [101, 120, 105, 116]) := hwd
  clear hwd
  rw [okP_num lines 5 b 99 (.inr (.inr (.inr ⟨rfl, rfl⟩)))] at h0
  obtain ⟨z1, hz1⟩ : ∃ z, nmbF (bA b).data.toList ((99 : Nat) : Int) = z := ⟨_, rfl⟩
  rw [hz1] at h0
  have HZ1 : Hid (nmbF (bA b).data.toList ((99 : Nat) : Int) = z1) := hz1
  clear hz1
  have g1 : (0 : Int) ≤ z1 := by simpa using h0
  have HN1 : Hid (∀ W, Calls Tryz.prog 19 #[.string (bA b), .int .i64 99] W fun e w' => e = .returned (.int .i64 z1) ∧ w' = W) := fun W => by
    have h := NumberOf_any (bA b) 99 W (wd_size hs hws (by rw [HWS.out]; simp))
    rw [HZ1.out] at h
    exact h
  obtain ⟨x1, hx1⟩ : ∃ x, x = bA b := ⟨_, rfl⟩
  rw [← hx1] at HN1
  have HX1 : Hid (x1 = bA b) := hx1
  clear hx1
  clear hrig hws hwe hn1 hs h0
  go_enter Tryz.func9, Tryz.ntmps9
  go_wp2_with (first
    | (go_at_call 15; refine HW.out.mono ?_; rintro e w1 ⟨g, cap, rfl, HB1, hrw⟩; have HRW : Hid (RW (w1.alloc (.cells #[.slice (some ⟨g, 0, none⟩) 2 cap] 22)) w1.heap.size g 2 cap ws) := hrw; have q0 := (hrw.cells 0 [101, 120, 105, 116] (by rw [HWS.out]; rfl)).1; rw [← HWD.out] at q0; have yc := hrw.y; have p1 := (hrw.cells 1 b (by rw [HWS.out]; rfl)).1; rw [← HX1.out] at p1; have HBA : Hid (Below w.heap.size w (w1.alloc (.cells #[.slice (some ⟨g, 0, none⟩) 2 cap] 22))) := HB1.out.alloc HB1.out.size _; clear hrw)
    | (go_at_call 19; with_reducible refine (HN1.out _).mono ?_; rintro e w4 ⟨rfl, hw⟩; subst w4)
    | go_in)
  go_ret
  exact ⟨rfl, HBA.out⟩
end Go.Proofs.YtcpomkgfcpfedaaGreatDoor
