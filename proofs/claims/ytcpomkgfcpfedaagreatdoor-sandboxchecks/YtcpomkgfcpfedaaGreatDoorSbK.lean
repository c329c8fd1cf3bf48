/- The document's RightLine, by a line's first word. -/
import Derived.Test.YtcpomkgfcpfedaaGreatDoorSbJ
namespace Go.Proofs.YtcpomkgfcpfedaaGreatDoor
open Go.RowKit Go.Shelf

set_option maxHeartbeats 4000000 in
set_option maxRecDepth 100000 in
theorem RL_set_no (lines : Nat) (s : ByteArray) (w : World) (hs : s.size ≤ 100000) {rest : List (List UInt8)} (hws : wdL [] s.data.toList = [115, 101, 116] :: rest) (hn : ¬ 3 ≤ ([115, 101, 116] :: rest).length) :
    Calls Tryz.prog 9 #[.string s, .int .i64 (lines : Int)] w fun e w' => e = .returned (.bool (rigF lines s.data.toList)) ∧ Below w.heap.size w w' := by
  have hrig : rigF lines s.data.toList = false := by
    rw [rig_set hws rfl rfl, decide_eq_false hn, Bool.false_and]
  rw [hrig]
  obtain ⟨ws, hwe⟩ : ∃ ws, [115, 101, 116] :: rest = ws := ⟨_, rfl⟩
  obtain ⟨n, hn1⟩ : ∃ n, ws.length = n := ⟨_, rfl⟩
  have HWS : Hid (ws = [115, 101, 116] :: rest) := hwe.symm
  rw [hwe] at hws hn
  rw [hn1] at hn
  have hnp : 1 ≤ n := by rw [← hn1, ← hwe]; simp
  have hnb : n ≤ 1000000 := by
    have h1 := wdL_len s.data.toList []
    have h2 : s.size = s.data.toList.length := size_of rfl
    rw [hws, hn1] at h1
    omega
  have HW := words_front s w hs hws hn1
  have HW : Hid (Calls Tryz.prog 15 #[.string s] w fun e w1 => ∃ g cap, e = .returned (.slice (some ⟨g, 0, none⟩) n cap) ∧ Hid (Below w.heap.size w w1) ∧ RW (w1.alloc (.cells #[.slice (some ⟨g, 0, none⟩) n cap] 22)) w1.heap.size g n cap ws) := HW
  obtain ⟨m, hm⟩ : ∃ m : Nat, n = m + 1 := ⟨n - 1, by omega⟩
  subst hm
  have e1 : IntKind.i64.wrap (m : Int) = (m : Int) := by rw [IntKind.wrap_i64]; omega
  have e2 : (0 : Int) < (m : Int) + 1 := by omega
  have e3 : ¬ (2 : Int) ≤ (m : Int) := by omega
  obtain ⟨wd, hwd⟩ : ∃ wd, wd = bA [115, 101, 116] := ⟨_, rfl⟩
  have k0 : (wd.toList == [115, 101, 116]) = true := by rw [hwd, Lib.toList_data]; decide
  have k1 : (wd.toList == [114, 101, 97, 100]) = false := by rw [hwd, Lib.toList_data]; decide
  have k2 : (wd.toList == [108, 105, 115, 116]) = false := by rw [hwd, Lib.toList_data]; decide
  have k3 : (wd.toList == [106, 111, 105, 110]) = false := by rw [hwd, Lib.toList_data]; decide
  have k4 : (wd.toList == [99, 117, 116]) = false := by rw [hwd, Lib.toList_data]; decide
  have k5 : (wd.toList == [115, 105, 122, 101]) = false := by rw [hwd, Lib.toList_data]; decide
  have k6 : (wd.toList == [115, 117, 109]) = false := by rw [hwd, Lib.toList_data]; decide
  have k7 : (wd.toList == [109, 97, 107, 101]) = false := by rw [hwd, Lib.toList_data]; decide
  have k8 : (wd.toList == [114, 117, 110]) = false := by rw [hwd, Lib.toList_data]; decide
  have k9 : (wd.toList == [115, 97, 109, 101]) = false := by rw [hwd, Lib.toList_data]; decide
  have k10 : (wd.toList == [108, 101, 115, 115]) = false := by rw [hwd, Lib.toList_data]; decide
  have k11 : (wd.toList == [103, 111, 116, 111]) = false := by rw [hwd, Lib.toList_data]; decide
  have k12 : (wd.toList == [101, 120, 105, 116]) = false := by rw [hwd, Lib.toList_data]; decide
  have HWD : Hid (wd = bA [115, 101, 116]) := hwd
  clear hwd
  clear hrig hws hwe hn hn1 hnp hnb hs
  go_enter Tryz.func9, Tryz.ntmps9
  go_wp2_with (first
    | (go_at_call 15; refine HW.out.mono ?_; rintro e w1 ⟨g, cap, rfl, HB1, hrw⟩; have HRW : Hid (RW (w1.alloc (.cells #[.slice (some ⟨g, 0, none⟩) (m + 1) cap] 22)) w1.heap.size g (m + 1) cap ws) := hrw; have q0 := (hrw.cells 0 [115, 101, 116] (by rw [HWS.out]; rfl)).1; rw [← HWD.out] at q0; have yc := hrw.y; have HBA : Hid (Below w.heap.size w (w1.alloc (.cells #[.slice (some ⟨g, 0, none⟩) (m + 1) cap] 22))) := HB1.out.alloc HB1.out.size _; clear hrw)
    | go_in)
  go_ret
  exact ⟨rfl, HBA.out⟩

set_option maxHeartbeats 4000000 in
set_option maxRecDepth 100000 in
theorem RL_set_0 (lines : Nat) (s : ByteArray) (w : World) (hs : s.size ≤ 100000) {b c : List UInt8} {rest : List (List UInt8)} (hws : wdL [] s.data.toList = [115, 101, 116] :: b :: c :: rest) (h0 : okP lines 0 b = false) :
    Calls Tryz.prog 9 #[.string s, .int .i64 (lines : Int)] w fun e w' => e = .returned (.bool (rigF lines s.data.toList)) ∧ Below w.heap.size w w' := by
  have hrig : rigF lines s.data.toList = false := by
    rw [rig_set hws rfl rfl]
    simp [allP, h0]
  rw [hrig]
  obtain ⟨ws, hwe⟩ : ∃ ws, [115, 101, 116] :: b :: c :: rest = ws := ⟨_, rfl⟩
  obtain ⟨n, hn1⟩ : ∃ n, ws.length = n := ⟨_, rfl⟩
  have HWS : Hid (ws = [115, 101, 116] :: b :: c :: rest) := hwe.symm
  have hnp : 3 ≤ n := by rw [← hn1, ← hwe]; simp
  rw [hwe] at hws
  have hnb : n ≤ 1000000 := by
    have h1 := wdL_len s.data.toList []
    have h2 : s.size = s.data.toList.length := size_of rfl
    rw [hws, hn1] at h1
    omega
  have HW := words_front s w hs hws hn1
  have HW : Hid (Calls Tryz.prog 15 #[.string s] w fun e w1 => ∃ g cap, e = .returned (.slice (some ⟨g, 0, none⟩) n cap) ∧ Hid (Below w.heap.size w w1) ∧ RW (w1.alloc (.cells #[.slice (some ⟨g, 0, none⟩) n cap] 22)) w1.heap.size g n cap ws) := HW
  obtain ⟨m, hm⟩ : ∃ m : Nat, n = m + 1 := ⟨n - 1, by omega⟩
  subst hm
  have e1 : IntKind.i64.wrap (m : Int) = (m : Int) := by rw [IntKind.wrap_i64]; omega
  have e2 : (0 : Int) < (m : Int) + 1 := by omega
  have e3 : (2 : Int) ≤ (m : Int) := by omega
  obtain ⟨wd, hwd⟩ : ∃ wd, wd = bA [115, 101, 116] := ⟨_, rfl⟩
  have k0 : (wd.toList == [115, 101, 116]) = true := by rw [hwd, Lib.toList_data]; decide
  have k1 : (wd.toList == [114, 101, 97, 100]) = false := by rw [hwd, Lib.toList_data]; decide
  have k2 : (wd.toList == [108, 105, 115, 116]) = false := by rw [hwd, Lib.toList_data]; decide
  have k3 : (wd.toList == [106, 111, 105, 110]) = false := by rw [hwd, Lib.toList_data]; decide
  have k4 : (wd.toList == [99, 117, 116]) = false := by rw [hwd, Lib.toList_data]; decide
  have k5 : (wd.toList == [115, 105, 122, 101]) = false := by rw [hwd, Lib.toList_data]; decide
  have k6 : (wd.toList == [115, 117, 109]) = false := by rw [hwd, Lib.toList_data]; decide
  have k7 : (wd.toList == [109, 97, 107, 101]) = false := by rw [hwd, Lib.toList_data]; decide
  have k8 : (wd.toList == [114, 117, 110]) = false := by rw [hwd, Lib.toList_data]; decide
  have k9 : (wd.toList == [115, 97, 109, 101]) = false := by rw [hwd, Lib.toList_data]; decide
  have k10 : (wd.toList == [108, 101, 115, 115]) = false := by rw [hwd, Lib.toList_data]; decide
  have k11 : (wd.toList == [103, 111, 116, 111]) = false := by rw [hwd, Lib.toList_data]; decide
  have k12 : (wd.toList == [101, 120, 105, 116]) = false := by rw [hwd, Lib.toList_data]; decide
  have HWD : Hid (wd = bA [115, 101, 116]) := hwd
  clear hwd
  have r1 : (regF b).isSome = false := h0
  clear hrig hws hwe hn1 hs h0 hnp hnb
  go_enter Tryz.func9, Tryz.ntmps9
  go_wp2_with (first
    | (go_at_call 15; refine HW.out.mono ?_; rintro e w1 ⟨g, cap, rfl, HB1, hrw⟩; have HRW : Hid (RW (w1.alloc (.cells #[.slice (some ⟨g, 0, none⟩) (m + 1) cap] 22)) w1.heap.size g (m + 1) cap ws) := hrw; have q0 := (hrw.cells 0 [115, 101, 116] (by rw [HWS.out]; rfl)).1; rw [← HWD.out] at q0; have yc := hrw.y; have HBA : Hid (Below w.heap.size w (w1.alloc (.cells #[.slice (some ⟨g, 0, none⟩) (m + 1) cap] 22))) := HB1.out.alloc HB1.out.size _; clear hrw)
    | (go_at_call 16; refine (r_any HRW.out 1 (x := b) (by rw [HWS.out]; rfl)).mono ?_; rintro e w4 ⟨rfl, hw⟩; subst w4)
    | go_in)
  go_ret
  exact ⟨rfl, HBA.out⟩

set_option maxHeartbeats 4000000 in
set_option maxRecDepth 100000 in
theorem RL_set_1 (lines : Nat) (s : ByteArray) (w : World) (hs : s.size ≤ 100000) {b c : List UInt8} {rest : List (List UInt8)} (hws : wdL [] s.data.toList = [115, 101, 116] :: b :: c :: rest) (h0 : okP lines 0 b = true) :
    Calls Tryz.prog 9 #[.string s, .int .i64 (lines : Int)] w fun e w' => e = .returned (.bool (rigF lines s.data.toList)) ∧ Below w.heap.size w w' := by
  have hrig : rigF lines s.data.toList = true := by
    rw [rig_set hws rfl rfl]
    simp [allP, h0]
  rw [hrig]
  obtain ⟨ws, hwe⟩ : ∃ ws, [115, 101, 116] :: b :: c :: rest = ws := ⟨_, rfl⟩
  obtain ⟨n, hn1⟩ : ∃ n, ws.length = n := ⟨_, rfl⟩
  have HWS : Hid (ws = [115, 101, 116] :: b :: c :: rest) := hwe.symm
  have hnp : 3 ≤ n := by rw [← hn1, ← hwe]; simp
  rw [hwe] at hws
  have hnb : n ≤ 1000000 := by
    have h1 := wdL_len s.data.toList []
    have h2 : s.size = s.data.toList.length := size_of rfl
    rw [hws, hn1] at h1
    omega
  have HW := words_front s w hs hws hn1
  have HW : Hid (Calls Tryz.prog 15 #[.string s] w fun e w1 => ∃ g cap, e = .returned (.slice (some ⟨g, 0, none⟩) n cap) ∧ Hid (Below w.heap.size w w1) ∧ RW (w1.alloc (.cells #[.slice (some ⟨g, 0, none⟩) n cap] 22)) w1.heap.size g n cap ws) := HW
  obtain ⟨m, hm⟩ : ∃ m : Nat, n = m + 1 := ⟨n - 1, by omega⟩
  subst hm
  have e1 : IntKind.i64.wrap (m : Int) = (m : Int) := by rw [IntKind.wrap_i64]; omega
  have e2 : (0 : Int) < (m : Int) + 1 := by omega
  have e3 : (2 : Int) ≤ (m : Int) := by omega
  obtain ⟨wd, hwd⟩ : ∃ wd, wd = bA [115, 101, 116] := ⟨_, rfl⟩
  have k0 : (wd.toList == [115, 101, 116]) = true := by rw [hwd, Lib.toList_data]; decide
  have k1 : (wd.toList == [114, 101, 97, 100]) = false := by rw [hwd, Lib.toList_data]; decide
  have k2 : (wd.toList == [108, 105, 115, 116]) = false := by rw [hwd, Lib.toList_data]; decide
  have k3 : (wd.toList == [106, 111, 105, 110]) = false := by rw [hwd, Lib.toList_data]; decide
  have k4 : (wd.toList == [99, 117, 116]) = false := by rw [hwd, Lib.toList_data]; decide
  have k5 : (wd.toList == [115, 105, 122, 101]) = false := by rw [hwd, Lib.toList_data]; decide
  have k6 : (wd.toList == [115, 117, 109]) = false := by rw [hwd, Lib.toList_data]; decide
  have k7 : (wd.toList == [109, 97, 107, 101]) = false := by rw [hwd, Lib.toList_data]; decide
  have k8 : (wd.toList == [114, 117, 110]) = false := by rw [hwd, Lib.toList_data]; decide
  have k9 : (wd.toList == [115, 97, 109, 101]) = false := by rw [hwd, Lib.toList_data]; decide
  have k10 : (wd.toList == [108, 101, 115, 115]) = false := by rw [hwd, Lib.toList_data]; decide
  have k11 : (wd.toList == [103, 111, 116, 111]) = false := by rw [hwd, Lib.toList_data]; decide
  have k12 : (wd.toList == [101, 120, 105, 116]) = false := by rw [hwd, Lib.toList_data]; decide
  have HWD : Hid (wd = bA [115, 101, 116]) := hwd
  clear hwd
  have r1 : (regF b).isSome = true := h0
  clear hrig hws hwe hn1 hs h0 hnp hnb
  go_enter Tryz.func9, Tryz.ntmps9
  go_wp2_with (first
    | (go_at_call 15; refine HW.out.mono ?_; rintro e w1 ⟨g, cap, rfl, HB1, hrw⟩; have HRW : Hid (RW (w1.alloc (.cells #[.slice (some ⟨g, 0, none⟩) (m + 1) cap] 22)) w1.heap.size g (m + 1) cap ws) := hrw; have q0 := (hrw.cells 0 [115, 101, 116] (by rw [HWS.out]; rfl)).1; rw [← HWD.out] at q0; have yc := hrw.y; have HBA : Hid (Below w.heap.size w (w1.alloc (.cells #[.slice (some ⟨g, 0, none⟩) (m + 1) cap] 22))) := HB1.out.alloc HB1.out.size _; clear hrw)
    | (go_at_call 16; refine (r_any HRW.out 1 (x := b) (by rw [HWS.out]; rfl)).mono ?_; rintro e w4 ⟨rfl, hw⟩; subst w4)
    | go_in)
  go_ret
  exact ⟨rfl, HBA.out⟩

set_option maxHeartbeats 4000000 in
set_option maxRecDepth 100000 in
theorem RL_read_no (lines : Nat) (s : ByteArray) (w : World) (hs : s.size ≤ 100000) {rest : List (List UInt8)} (hws : wdL [] s.data.toList = [114, 101, 97, 100] :: rest) (hn : ¬ ([114, 101, 97, 100] :: rest).length = 3) :
    Calls Tryz.prog 9 #[.string s, .int .i64 (lines : Int)] w fun e w' => e = .returned (.bool (rigF lines s.data.toList)) ∧ Below w.heap.size w w' := by
  have hrig : rigF lines s.data.toList = false := by
    rw [rig_of hws rfl (f := [0, 7]) rfl (by decide), decide_eq_false (by simpa using hn), Bool.false_and]
  rw [hrig]
  obtain ⟨ws, hwe⟩ : ∃ ws, [114, 101, 97, 100] :: rest = ws := ⟨_, rfl⟩
  obtain ⟨n, hn1⟩ : ∃ n, ws.length = n := ⟨_, rfl⟩
  have HWS : Hid (ws = [114, 101, 97, 100] :: rest) := hwe.symm
  rw [hwe] at hws hn
  rw [hn1] at hn
  have hnp : 1 ≤ n := by rw [← hn1, ← hwe]; simp
  have hnb : n ≤ 1000000 := by
    have h1 := wdL_len s.data.toList []
    have h2 : s.size = s.data.toList.length := size_of rfl
    rw [hws, hn1] at h1
    omega
  have HW := words_front s w hs hws hn1
  have HW : Hid (Calls Tryz.prog 15 #[.string s] w fun e w1 => ∃ g cap, e = .returned (.slice (some ⟨g, 0, none⟩) n cap) ∧ Hid (Below w.heap.size w w1) ∧ RW (w1.alloc (.cells #[.slice (some ⟨g, 0, none⟩) n cap] 22)) w1.heap.size g n cap ws) := HW
  obtain ⟨m, hm⟩ : ∃ m : Nat, n = m + 1 := ⟨n - 1, by omega⟩
  subst hm
  have e1 : IntKind.i64.wrap (m : Int) = (m : Int) := by rw [IntKind.wrap_i64]; omega
  have e2 : (0 : Int) < (m : Int) + 1 := by omega
  have e3 : ((m : Int) == 2) = false := by simp; omega
  obtain ⟨wd, hwd⟩ : ∃ wd, wd = bA [114, 101, 97, 100] := ⟨_, rfl⟩
  have k0 : (wd.toList == [115, 101, 116]) = false := by rw [hwd, Lib.toList_data]; decide
  have k1 : (wd.toList == [114, 101, 97, 100]) = true := by rw [hwd, Lib.toList_data]; decide
  have k2 : (wd.toList == [108, 105, 115, 116]) = false := by rw [hwd, Lib.toList_data]; decide
  have k3 : (wd.toList == [106, 111, 105, 110]) = false := by rw [hwd, Lib.toList_data]; decide
  have k4 : (wd.toList == [99, 117, 116]) = false := by rw [hwd, Lib.toList_data]; decide
  have k5 : (wd.toList == [115, 105, 122, 101]) = false := by rw [hwd, Lib.toList_data]; decide
  have k6 : (wd.toList == [115, 117, 109]) = false := by rw [hwd, Lib.toList_data]; decide
  have k7 : (wd.toList == [109, 97, 107, 101]) = false := by rw [hwd, Lib.toList_data]; decide
  have k8 : (wd.toList == [114, 117, 110]) = false := by rw [hwd, Lib.toList_data]; decide
  have k9 : (wd.toList == [115, 97, 109, 101]) = false := by rw [hwd, Lib.toList_data]; decide
  have k10 : (wd.toList == [108, 101, 115, 115]) = false := by rw [hwd, Lib.toList_data]; decide
  have k11 : (wd.toList == [103, 111, 116, 111]) = false := by rw [hwd, Lib.toList_data]; decide
  have k12 : (wd.toList == [101, 120, 105, 116]) = false := by rw [hwd, Lib.toList_data]; decide
  have HWD : Hid (wd = bA [114, 101, 97, 100]) := hwd
  clear hwd
  clear hrig hws hwe hn hn1 hnp hnb hs
  go_enter Tryz.func9, Tryz.ntmps9
  go_wp2_with (first
    | (go_at_call 15; refine HW.out.mono ?_; rintro e w1 ⟨g, cap, rfl, HB1, hrw⟩; have HRW : Hid (RW (w1.alloc (.cells #[.slice (some ⟨g, 0, none⟩) (m + 1) cap] 22)) w1.heap.size g (m + 1) cap ws) := hrw; have q0 := (hrw.cells 0 [114, 101, 97, 100] (by rw [HWS.out]; rfl)).1; rw [← HWD.out] at q0; have yc := hrw.y; have HBA : Hid (Below w.heap.size w (w1.alloc (.cells #[.slice (some ⟨g, 0, none⟩) (m + 1) cap] 22))) := HB1.out.alloc HB1.out.size _; clear hrw)
    | go_in)
  go_ret
  exact ⟨rfl, HBA.out⟩

set_option maxHeartbeats 4000000 in
set_option maxRecDepth 100000 in
theorem RL_read_0 (lines : Nat) (s : ByteArray) (w : World) (hs : s.size ≤ 100000) {b c : List UInt8} (hws : wdL [] s.data.toList = [[114, 101, 97, 100], b, c]) (h0 : okP lines 0 b = false) :
    Calls Tryz.prog 9 #[.string s, .int .i64 (lines : Int)] w fun e w' => e = .returned (.bool (rigF lines s.data.toList)) ∧ Below w.heap.size w w' := by
  have hrig : rigF lines s.data.toList = false := by
    rw [rig_of hws rfl (f := [0, 7]) rfl (by decide)]
    simp [allP, h0]
  rw [hrig]
  obtain ⟨ws, hwe⟩ : ∃ ws, [[114, 101, 97, 100], b, c] = ws := ⟨_, rfl⟩
  have hn1 : ws.length = 3 := by rw [← hwe]; rfl
  have HWS : Hid (ws = [[114, 101, 97, 100], b, c]) := hwe.symm
  rw [hwe] at hws
  have HW := words_front s w hs hws hn1
  have HW : Hid (Calls Tryz.prog 15 #[.string s] w fun e w1 => ∃ g cap, e = .returned (.slice (some ⟨g, 0, none⟩) 3 cap) ∧ Hid (Below w.heap.size w w1) ∧ RW (w1.alloc (.cells #[.slice (some ⟨g, 0, none⟩) 3 cap] 22)) w1.heap.size g 3 cap ws) := HW
  obtain ⟨wd, hwd⟩ : ∃ wd, wd = bA [114, 101, 97, 100] := ⟨_, rfl⟩
  have k0 : (wd.toList == [115, 101, 116]) = false := by rw [hwd, Lib.toList_data]; decide
  have k1 : (wd.toList == [114, 101, 97, 100]) = true := by rw [hwd, Lib.toList_data]; decide
  have k2 : (wd.toList == [108, 105, 115, 116]) = false := by rw [hwd, Lib.toList_data]; decide
  have k3 : (wd.toList == [106, 111, 105, 110]) = false := by rw [hwd, Lib.toList_data]; decide
  have k4 : (wd.toList == [99, 117, 116]) = false := by rw [hwd, Lib.toList_data]; decide
  have k5 : (wd.toList == [115, 105, 122, 101]) = false := by rw [hwd, Lib.toList_data]; decide
  have k6 : (wd.toList == [115, 117, 109]) = false := by rw [hwd, Lib.toList_data]; decide
  have k7 : (wd.toList == [109, 97, 107, 101]) = false := by rw [hwd, Lib.toList_data]; decide
  have k8 : (wd.toList == [114, 117, 110]) = false := by rw [hwd, Lib.toList_data]; decide
  have k9 : (wd.toList == [115, 97, 109, 101]) = false := by rw [hwd, Lib.toList_data]; decide
  have k10 : (wd.toList == [108, 101, 115, 115]) = false := by rw [hwd, Lib.toList_data]; decide
  have k11 : (wd.toList == [103, 111, 116, 111]) = false := by rw [hwd, Lib.toList_data]; decide
  have k12 : (wd.toList == [101, 120, 105, 116]) = false := by rw [hwd, Lib.toList_data]; decide
  have HWD : Hid (wd = bA [114, 101, 97, 100]) := hwd
  clear hwd
  have r1 : (regF b).isSome = false := h0
  clear hrig hws hwe hn1 hs h0
  go_enter Tryz.func9, Tryz.ntmps9
  go_wp2_with (first
    | (go_at_call 15; refine HW.out.mono ?_; rintro e w1 ⟨g, cap, rfl, HB1, hrw⟩; have HRW : Hid (RW (w1.alloc (.cells #[.slice (some ⟨g, 0, none⟩) 3 cap] 22)) w1.heap.size g 3 cap ws) := hrw; have q0 := (hrw.cells 0 [114, 101, 97, 100] (by rw [HWS.out]; rfl)).1; rw [← HWD.out] at q0; have yc := hrw.y; have HBA : Hid (Below w.heap.size w (w1.alloc (.cells #[.slice (some ⟨g, 0, none⟩) 3 cap] 22))) := HB1.out.alloc HB1.out.size _; clear hrw)
    | (go_at_call 16; refine (r_any HRW.out 1 (x := b) (by rw [HWS.out]; rfl)).mono ?_; rintro e w4 ⟨rfl, hw⟩; subst w4)
    | go_in)
  go_ret
  exact ⟨rfl, HBA.out⟩

set_option maxHeartbeats 4000000 in
set_option maxRecDepth 100000 in
theorem RL_read_1 (lines : Nat) (s : ByteArray) (w : World) (hs : s.size ≤ 100000) {b c : List UInt8} (hws : wdL [] s.data.toList = [[114, 101, 97, 100], b, c]) (h0 : okP lines 0 b = true) (h1 : okP lines 7 c = false) :
    Calls Tryz.prog 9 #[.string s, .int .i64 (lines : Int)] w fun e w' => e = .returned (.bool (rigF lines s.data.toList)) ∧ Below w.heap.size w w' := by
  have hrig : rigF lines s.data.toList = false := by
    rw [rig_of hws rfl (f := [0, 7]) rfl (by decide)]
    simp [allP, h0, h1]
  rw [hrig]
  obtain ⟨ws, hwe⟩ : ∃ ws, [[114, 101, 97, 100], b, c] = ws := ⟨_, rfl⟩
  have hn1 : ws.length = 3 := by rw [← hwe]; rfl
  have HWS : Hid (ws = [[114, 101, 97, 100], b, c]) := hwe.symm
  rw [hwe] at hws
  have HW := words_front s w hs hws hn1
  have HW : Hid (Calls Tryz.prog 15 #[.string s] w fun e w1 => ∃ g cap, e = .returned (.slice (some ⟨g, 0, none⟩) 3 cap) ∧ Hid (Below w.heap.size w w1) ∧ RW (w1.alloc (.cells #[.slice (some ⟨g, 0, none⟩) 3 cap] 22)) w1.heap.size g 3 cap ws) := HW
  obtain ⟨wd, hwd⟩ : ∃ wd, wd = bA [114, 101, 97, 100] := ⟨_, rfl⟩
  have k0 : (wd.toList == [115, 101, 116]) = false := by rw [hwd, Lib.toList_data]; decide
  have k1 : (wd.toList == [114, 101, 97, 100]) = true := by rw [hwd, Lib.toList_data]; decide
  have k2 : (wd.toList == [108, 105, 115, 116]) = false := by rw [hwd, Lib.toList_data]; decide
  have k3 : (wd.toList == [106, 111, 105, 110]) = false := by rw [hwd, Lib.toList_data]; decide
  have k4 : (wd.toList == [99, 117, 116]) = false := by rw [hwd, Lib.toList_data]; decide
  have k5 : (wd.toList == [115, 105, 122, 101]) = false := by rw [hwd, Lib.toList_data]; decide
  have k6 : (wd.toList == [115, 117, 109]) = false := by rw [hwd, Lib.toList_data]; decide
  have k7 : (wd.toList == [109, 97, 107, 101]) = false := by rw [hwd, Lib.toList_data]; decide
  have k8 : (wd.toList == [114, 117, 110]) = false := by rw [hwd, Lib.toList_data]; decide
  have k9 : (wd.toList == [115, 97, 109, 101]) = false := by rw [hwd, Lib.toList_data]; decide
  have k10 : (wd.toList == [108, 101, 115, 115]) = false := by rw [hwd, Lib.toList_data]; decide
  have k11 : (wd.toList == [103, 111, 116, 111]) = false := by rw [hwd, Lib.toList_data]; decide
  have k12 : (wd.toList == [101, 120, 105, 116]) = false := by rw [hwd, Lib.toList_data]; decide
  have HWD : Hid (wd = bA [114, 101, 97, 100]) := hwd
  clear hwd
  have r1 : (regF b).isSome = true := h0
  have r2 : pathOk (bA c) = false := h1
  clear hrig hws hwe hn1 hs h0 h1
  go_enter Tryz.func9, Tryz.ntmps9
  go_wp2_with (first
    | (go_at_call 15; refine HW.out.mono ?_; rintro e w1 ⟨g, cap, rfl, HB1, hrw⟩; have HRW : Hid (RW (w1.alloc (.cells #[.slice (some ⟨g, 0, none⟩) 3 cap] 22)) w1.heap.size g 3 cap ws) := hrw; have q0 := (hrw.cells 0 [114, 101, 97, 100] (by rw [HWS.out]; rfl)).1; rw [← HWD.out] at q0; have yc := hrw.y; have p2 := (hrw.cells 2 c (by rw [HWS.out]; rfl)).1; have HBA : Hid (Below w.heap.size w (w1.alloc (.cells #[.slice (some ⟨g, 0, none⟩) 3 cap] 22))) := HB1.out.alloc HB1.out.size _; clear hrw)
    | (go_at_call 16; refine (r_any HRW.out 1 (x := b) (by rw [HWS.out]; rfl)).mono ?_; rintro e w4 ⟨rfl, hw⟩; subst w4)
    | (go_at_call 18; refine (RIsPath_any (bA c) _).mono ?_; rintro e w5 ⟨rfl, hb5⟩; have HRW5 := HRW.out.below hb5; have HRW : Hid (RW w5 w1.heap.size g 3 cap ws) := HRW5; have HB5 := below_low HBA.out hb5 HBA.out.size; have HBA : Hid (Below w.heap.size w w5) := HB5; have yc5 := HRW.out.y; clear hb5 HRW5 HB5)
    | go_in)
  go_ret
  exact ⟨rfl, HBA.out⟩

set_option maxHeartbeats 4000000 in
set_option maxRecDepth 100000 in
theorem RL_read_2 (lines : Nat) (s : ByteArray) (w : World) (hs : s.size ≤ 100000) {b c : List UInt8} (hws : wdL [] s.data.toList = [[114, 101, 97, 100], b, c]) (h0 : okP lines 0 b = true) (h1 : okP lines 7 c = true) :
    Calls Tryz.prog 9 #[.string s, .int .i64 (lines : Int)] w fun e w' => e = .returned (.bool (rigF lines s.data.toList)) ∧ Below w.heap.size w w' := by
  have hrig : rigF lines s.data.toList = true := by
    rw [rig_of hws rfl (f := [0, 7]) rfl (by decide)]
    simp [allP, h0, h1]
  rw [hrig]
  obtain ⟨ws, hwe⟩ : ∃ ws, [[114, 101, 97, 100], b, c] = ws := ⟨_, rfl⟩
  have hn1 : ws.length = 3 := by rw [← hwe]; rfl
  have HWS : Hid (ws = [[114, 101, 97, 100], b, c]) := hwe.symm
  rw [hwe] at hws
  have HW := words_front s w hs hws hn1
  have HW : Hid (Calls Tryz.prog 15 #[.string s] w fun e w1 => ∃ g cap, e = .returned (.slice (some ⟨g, 0, none⟩) 3 cap) ∧ Hid (Below w.heap.size w w1) ∧ RW (w1.alloc (.cells #[.slice (some ⟨g, 0, none⟩) 3 cap] 22)) w1.heap.size g 3 cap ws) := HW
  obtain ⟨wd, hwd⟩ : ∃ wd, wd = bA [114, 101, 97, 100] := ⟨_, rfl⟩
  have k0 : (wd.toList == [115, 101, 116]) = false := by rw [hwd, Lib.toList_data]; decide
  have k1 : (wd.toList == [114, 101, 97, 100]) = true := by rw [hwd, Lib.toList_data]; decide
  have k2 : (wd.toList == [108, 105, 115, 116]) = false := by rw [hwd, Lib.toList_data]; decide
  have k3 : (wd.toList == [106, 111, 105, 110]) = false := by rw [hwd, Lib.toList_data]; decide
  have k4 : (wd.toList == [99, 117, 116]) = false := by rw [hwd, Lib.toList_data]; decide
  have k5 : (wd.toList == [115, 105, 122, 101]) = false := by rw [hwd, Lib.toList_data]; decide
  have k6 : (wd.toList == [115, 117, 109]) = false := by rw [hwd, Lib.toList_data]; decide
  have k7 : (wd.toList == [109, 97, 107, 101]) = false := by rw [hwd, Lib.toList_data]; decide
  have k8 : (wd.toList == [114, 117, 110]) = false := by rw [hwd, Lib.toList_data]; decide
  have k9 : (wd.toList == [115, 97, 109, 101]) = false := by rw [hwd, Lib.toList_data]; decide
  have k10 : (wd.toList == [108, 101, 115, 115]) = false := by rw [hwd, Lib.toList_data]; decide
  have k11 : (wd.toList == [103, 111, 116, 111]) = false := by rw [hwd, Lib.toList_data]; decide
  have k12 : (wd.toList == [101, 120, 105, 116]) = false := by rw [hwd, Lib.toList_data]; decide
  have HWD : Hid (wd = bA [114, 101, 97, 100]) := hwd
  clear hwd
  have r1 : (regF b).isSome = true := h0
  have r2 : pathOk (bA c) = true := h1
  clear hrig hws hwe hn1 hs h0 h1
  go_enter Tryz.func9, Tryz.ntmps9
  go_wp2_with (first
    | (go_at_call 15; refine HW.out.mono ?_; rintro e w1 ⟨g, cap, rfl, HB1, hrw⟩; have HRW : Hid (RW (w1.alloc (.cells #[.slice (some ⟨g, 0, none⟩) 3 cap] 22)) w1.heap.size g 3 cap ws) := hrw; have q0 := (hrw.cells 0 [114, 101, 97, 100] (by rw [HWS.out]; rfl)).1; rw [← HWD.out] at q0; have yc := hrw.y; have p2 := (hrw.cells 2 c (by rw [HWS.out]; rfl)).1; have HBA : Hid (Below w.heap.size w (w1.alloc (.cells #[.slice (some ⟨g, 0, none⟩) 3 cap] 22))) := HB1.out.alloc HB1.out.size _; clear hrw)
    | (go_at_call 16; refine (r_any HRW.out 1 (x := b) (by rw [HWS.out]; rfl)).mono ?_; rintro e w4 ⟨rfl, hw⟩; subst w4)
    | (go_at_call 18; refine (RIsPath_any (bA c) _).mono ?_; rintro e w5 ⟨rfl, hb5⟩; have HRW5 := HRW.out.below hb5; have HRW : Hid (RW w5 w1.heap.size g 3 cap ws) := HRW5; have HB5 := below_low HBA.out hb5 HBA.out.size; have HBA : Hid (Below w.heap.size w w5) := HB5; have yc5 := HRW.out.y; clear hb5 HRW5 HB5)
    | go_in)
  go_ret
  exact ⟨rfl, HBA.out⟩

set_option maxHeartbeats 4000000 in
set_option maxRecDepth 100000 in
theorem RL_list_no (lines : Nat) (s : ByteArray) (w : World) (hs : s.size ≤ 100000) {rest : List (List UInt8)} (hws : wdL [] s.data.toList = [108, 105, 115, 116] :: rest) (hn : ¬ ([108, 105, 115, 116] :: rest).length = 3) :
    Calls Tryz.prog 9 #[.string s, .int .i64 (lines : Int)] w fun e w' => e = .returned (.bool (rigF lines s.data.toList)) ∧ Below w.heap.size w w' := by
  have hrig : rigF lines s.data.toList = false := by
    rw [rig_of hws rfl (f := [0, 8]) rfl (by decide), decide_eq_false (by simpa using hn), Bool.false_and]
  rw [hrig]
  obtain ⟨ws, hwe⟩ : ∃ ws, [108, 105, 115, 116] :: rest = ws := ⟨_, rfl⟩
  obtain ⟨n, hn1⟩ : ∃ n, ws.length = n := ⟨_, rfl⟩
  have HWS : Hid (ws = [108, 105, 115, 116] :: rest) := hwe.symm
  rw [hwe] at hws hn
  rw [hn1] at hn
  have hnp : 1 ≤ n := by rw [← hn1, ← hwe]; simp
  have hnb : n ≤ 1000000 := by
    have h1 := wdL_len s.data.toList []
    have h2 : s.size = s.data.toList.length := size_of rfl
    rw [hws, hn1] at h1
    omega
  have HW := words_front s w hs hws hn1
  have HW : Hid (Calls Tryz.prog 15 #[.string s] w fun e w1 => ∃ g cap, e = .returned (.slice (some ⟨g, 0, none⟩) n cap) ∧ Hid (Below w.heap.size w w1) ∧ RW (w1.alloc (.cells #[.slice (some ⟨g, 0, none⟩) n cap] 22)) w1.heap.size g n cap ws) := HW
  obtain ⟨m, hm⟩ : ∃ m : Nat, n = m + 1 := ⟨n - 1, by omega⟩
  subst hm
  have e1 : IntKind.i64.wrap (m : Int) = (m : Int) := by rw [IntKind.wrap_i64]; omega
  have e2 : (0 : Int) < (m : Int) + 1 := by omega
  have e3 : ((m : Int) == 2) = false := by simp; omega
  obtain ⟨wd, hwd⟩ : ∃ wd, wd = bA [108, 105, 115, 116] := ⟨_, rfl⟩
  have k0 : (wd.toList == [115, 101, 116]) = false := by rw [hwd, Lib.toList_data]; decide
  have k1 : (wd.toList == [114, 101, 97, 100]) = false := by rw [hwd, Lib.toList_data]; decide
  have k2 : (wd.toList == [108, 105, 115, 116]) = true := by rw [hwd, Lib.toList_data]; decide
  have k3 : (wd.toList == [106, 111, 105, 110]) = false := by rw [hwd, Lib.toList_data]; decide
  have k4 : (wd.toList == [99, 117, 116]) = false := by rw [hwd, Lib.toList_data]; decide
  have k5 : (wd.toList == [115, 105, 122, 101]) = false := by rw [hwd, Lib.toList_data]; decide
  have k6 : (wd.toList == [115, 117, 109]) = false := by rw [hwd, Lib.toList_data]; decide
  have k7 : (wd.toList == [109, 97, 107, 101]) = false := by rw [hwd, Lib.toList_data]; decide
  have k8 : (wd.toList == [114, 117, 110]) = false := by rw [hwd, Lib.toList_data]; decide
  have k9 : (wd.toList == [115, 97, 109, 101]) = false := by rw [hwd, Lib.toList_data]; decide
  have k10 : (wd.toList == [108, 101, 115, 115]) = false := by rw [hwd, Lib.toList_data]; decide
  have k11 : (wd.toList == [103, 111, 116, 111]) = false := by rw [hwd, Lib.toList_data]; decide
  have k12 : (wd.toList == [101, 120, 105, 116]) = false := by rw [hwd, Lib.toList_data]; decide
  have HWD : Hid (wd = bA [108, 105, 115, 116]) := hwd
  clear hwd
  clear hrig hws hwe hn hn1 hnp hnb hs
  go_enter Tryz.func9, Tryz.ntmps9
  go_wp2_with (first
    | (go_at_call 15; refine HW.out.mono ?_; rintro e w1 ⟨g, cap, rfl, HB1, hrw⟩; have HRW : Hid (RW (w1.alloc (.cells #[.slice (some ⟨g, 0, none⟩) (m + 1) cap] 22)) w1.heap.size g (m + 1) cap ws) := hrw; have q0 := (hrw.cells 0 [108, 105, 115, 116] (by rw [HWS.out]; rfl)).1; rw [← HWD.out] at q0; have yc := hrw.y; have HBA : Hid (Below w.heap.size w (w1.alloc (.cells #[.slice (some ⟨g, 0, none⟩) (m + 1) cap] 22))) := HB1.out.alloc HB1.out.size _; clear hrw)
    | go_in)
  go_ret
  exact ⟨rfl, HBA.out⟩

set_option maxHeartbeats 4000000 in
set_option maxRecDepth 100000 in
theorem RL_list_0 (lines : Nat) (s : ByteArray) (w : World) (hs : s.size ≤ 100000) {b c : List UInt8} (hws : wdL [] s.data.toList = [[108, 105, 115, 116], b, c]) (h0 : okP lines 0 b = false) :
    Calls Tryz.prog 9 #[.string s, .int .i64 (lines : Int)] w fun e w' => e = .returned (.bool (rigF lines s.data.toList)) ∧ Below w.heap.size w w' := by
  have hrig : rigF lines s.data.toList = false := by
    rw [rig_of hws rfl (f := [0, 8]) rfl (by decide)]
    simp [allP, h0]
  rw [hrig]
  obtain ⟨ws, hwe⟩ : ∃ ws, [[108, 105, 115, 116], b, c] = ws := ⟨_, rfl⟩
  have hn1 : ws.length = 3 := by rw [← hwe]; rfl
  have HWS : Hid (ws = [[108, 105, 115, 116], b, c]) := hwe.symm
  rw [hwe] at hws
  have HW := words_front s w hs hws hn1
  have HW : Hid (Calls Tryz.prog 15 #[.string s] w fun e w1 => ∃ g cap, e = .returned (.slice (some ⟨g, 0, none⟩) 3 cap) ∧ Hid (Below w.heap.size w w1) ∧ RW (w1.alloc (.cells #[.slice (some ⟨g, 0, none⟩) 3 cap] 22)) w1.heap.size g 3 cap ws) := HW
  obtain ⟨wd, hwd⟩ : ∃ wd, wd = bA [108, 105, 115, 116] := ⟨_, rfl⟩
  have k0 : (wd.toList == [115, 101, 116]) = false := by rw [hwd, Lib.toList_data]; decide
  have k1 : (wd.toList == [114, 101, 97, 100]) = false := by rw [hwd, Lib.toList_data]; decide
  have k2 : (wd.toList == [108, 105, 115, 116]) = true := by rw [hwd, Lib.toList_data]; decide
  have k3 : (wd.toList == [106, 111, 105, 110]) = false := by rw [hwd, Lib.toList_data]; decide
  have k4 : (wd.toList == [99, 117, 116]) = false := by rw [hwd, Lib.toList_data]; decide
  have k5 : (wd.toList == [115, 105, 122, 101]) = false := by rw [hwd, Lib.toList_data]; decide
  have k6 : (wd.toList == [115, 117, 109]) = false := by rw [hwd, Lib.toList_data]; decide
  have k7 : (wd.toList == [109, 97, 107, 101]) = false := by rw [hwd, Lib.toList_data]; decide
  have k8 : (wd.toList == [114, 117, 110]) = false := by rw [hwd, Lib.toList_data]; decide
  have k9 : (wd.toList == [115, 97, 109, 101]) = false := by rw [hwd, Lib.toList_data]; decide
  have k10 : (wd.toList == [108, 101, 115, 115]) = false := by rw [hwd, Lib.toList_data]; decide
  have k11 : (wd.toList == [103, 111, 116, 111]) = false := by rw [hwd, Lib.toList_data]; decide
  have k12 : (wd.toList == [101, 120, 105, 116]) = false := by rw [hwd, Lib.toList_data]; decide
  have HWD : Hid (wd = bA [108, 105, 115, 116]) := hwd
  clear hwd
  have r1 : (regF b).isSome = false := h0
  clear hrig hws hwe hn1 hs h0
  go_enter Tryz.func9, Tryz.ntmps9
  go_wp2_with (first
    | (go_at_call 15; refine HW.out.mono ?_; rintro e w1 ⟨g, cap, rfl, HB1, hrw⟩; have HRW : Hid (RW (w1.alloc (.cells #[.slice (some ⟨g, 0, none⟩) 3 cap] 22)) w1.heap.size g 3 cap ws) := hrw; have q0 := (hrw.cells 0 [108, 105, 115, 116] (by rw [HWS.out]; rfl)).1; rw [← HWD.out] at q0; have yc := hrw.y; have HBA : Hid (Below w.heap.size w (w1.alloc (.cells #[.slice (some ⟨g, 0, none⟩) 3 cap] 22))) := HB1.out.alloc HB1.out.size _; clear hrw)
    | (go_at_call 16; refine (r_any HRW.out 1 (x := b) (by rw [HWS.out]; rfl)).mono ?_; rintro e w4 ⟨rfl, hw⟩; subst w4)
    | go_in)
  go_ret
  exact ⟨rfl, HBA.out⟩

set_option maxHeartbeats 4000000 in
set_option maxRecDepth 100000 in
theorem RL_list_1 (lines : Nat) (s : ByteArray) (w : World) (hs : s.size ≤ 100000) {b c : List UInt8} (hws : wdL [] s.data.toList = [[108, 105, 115, 116], b, c]) (h0 : okP lines 0 b = true) (h1 : okP lines 8 c = false) :
    Calls Tryz.prog 9 #[.string s, .int .i64 (lines : Int)] w fun e w' => e = .returned (.bool (rigF lines s.data.toList)) ∧ Below w.heap.size w w' := by
  have hrig : rigF lines s.data.toList = false := by
    rw [rig_of hws rfl (f := [0, 8]) rfl (by decide)]
    simp [allP, h0, h1]
  rw [hrig]
  obtain ⟨ws, hwe⟩ : ∃ ws, [[108, 105, 115, 116], b, c] = ws := ⟨_, rfl⟩
  have hn1 : ws.length = 3 := by rw [← hwe]; rfl
  have HWS : Hid (ws = [[108, 105, 115, 116], b, c]) := hwe.symm
  rw [hwe] at hws
  have HW := words_front s w hs hws hn1
  have HW : Hid (Calls Tryz.prog 15 #[.string s] w fun e w1 => ∃ g cap, e = .returned (.slice (some ⟨g, 0, none⟩) 3 cap) ∧ Hid (Below w.heap.size w w1) ∧ RW (w1.alloc (.cells #[.slice (some ⟨g, 0, none⟩) 3 cap] 22)) w1.heap.size g 3 cap ws) := HW
  obtain ⟨wd, hwd⟩ : ∃ wd, wd = bA [108, 105, 115, 116] := ⟨_, rfl⟩
  have k0 : (wd.toList == [115, 101, 116]) = false := by rw [hwd, Lib.toList_data]; decide
  have k1 : (wd.toList == [114, 101, 97, 100]) = false := by rw [hwd, Lib.toList_data]; decide
  have k2 : (wd.toList == [108, 105, 115, 116]) = true := by rw [hwd, Lib.toList_data]; decide
  have k3 : (wd.toList == [106, 111, 105, 110]) = false := by rw [hwd, Lib.toList_data]; decide
  have k4 : (wd.toList == [99, 117, 116]) = false := by rw [hwd, Lib.toList_data]; decide
  have k5 : (wd.toList == [115, 105, 122, 101]) = false := by rw [hwd, Lib.toList_data]; decide
  have k6 : (wd.toList == [115, 117, 109]) = false := by rw [hwd, Lib.toList_data]; decide
  have k7 : (wd.toList == [109, 97, 107, 101]) = false := by rw [hwd, Lib.toList_data]; decide
  have k8 : (wd.toList == [114, 117, 110]) = false := by rw [hwd, Lib.toList_data]; decide
  have k9 : (wd.toList == [115, 97, 109, 101]) = false := by rw [hwd, Lib.toList_data]; decide
  have k10 : (wd.toList == [108, 101, 115, 115]) = false := by rw [hwd, Lib.toList_data]; decide
  have k11 : (wd.toList == [103, 111, 116, 111]) = false := by rw [hwd, Lib.toList_data]; decide
  have k12 : (wd.toList == [101, 120, 105, 116]) = false := by rw [hwd, Lib.toList_data]; decide
  have HWD : Hid (wd = bA [108, 105, 115, 116]) := hwd
  clear hwd
  have r1 : (regF b).isSome = true := h0
  have h8 : (pathOk (bA c) || decide (c = [46])) = false := h1
  clear hrig hws hwe hn1 hs h0 h1
  have hbx : (bA c).toList = c := by rw [Lib.toList_data]; unfold bA; simp
  by_cases hd : c = [46]
  · rw [hd] at h8; simp at h8
  · have hd1 : ((bA c).toList == [46]) = false := by rw [hbx]; exact beq_eq_false_iff_ne.2 hd
    have r2 : pathOk (bA c) = false := by simpa [hd] using h8
    clear h8 hd hbx
    go_enter Tryz.func9, Tryz.ntmps9
    go_wp2_with (first
      | (go_at_call 15; refine HW.out.mono ?_; rintro e w1 ⟨g, cap, rfl, HB1, hrw⟩; have HRW : Hid (RW (w1.alloc (.cells #[.slice (some ⟨g, 0, none⟩) 3 cap] 22)) w1.heap.size g 3 cap ws) := hrw; have q0 := (hrw.cells 0 [108, 105, 115, 116] (by rw [HWS.out]; rfl)).1; rw [← HWD.out] at q0; have yc := hrw.y; have p2 := (hrw.cells 2 c (by rw [HWS.out]; rfl)).1; have HBA : Hid (Below w.heap.size w (w1.alloc (.cells #[.slice (some ⟨g, 0, none⟩) 3 cap] 22))) := HB1.out.alloc HB1.out.size _; clear hrw)
      | (go_at_call 16; refine (r_any HRW.out 1 (x := b) (by rw [HWS.out]; rfl)).mono ?_; rintro e w4 ⟨rfl, hw⟩; subst w4)
      | (go_at_call 18; refine (RIsPath_any (bA c) _).mono ?_; rintro e w5 ⟨rfl, hb5⟩; have HB5 := below_low HBA.out hb5 HBA.out.size; have HBA : Hid (Below w.heap.size w w5) := HB5; clear hb5 HB5)
      | go_in)
    go_ret
    exact ⟨rfl, HBA.out⟩

set_option maxHeartbeats 4000000 in
set_option maxRecDepth 100000 in
theorem RL_list_2 (lines : Nat) (s : ByteArray) (w : World) (hs : s.size ≤ 100000) {b c : List UInt8} (hws : wdL [] s.data.toList = [[108, 105, 115, 116], b, c]) (h0 : okP lines 0 b = true) (h1 : okP lines 8 c = true) :
    Calls Tryz.prog 9 #[.string s, .int .i64 (lines : Int)] w fun e w' => e = .returned (.bool (rigF lines s.data.toList)) ∧ Below w.heap.size w w' := by
  have hrig : rigF lines s.data.toList = true := by
    rw [rig_of hws rfl (f := [0, 8]) rfl (by decide)]
    simp [allP, h0, h1]
  rw [hrig]
  obtain ⟨ws, hwe⟩ : ∃ ws, [[108, 105, 115, 116], b, c] = ws := ⟨_, rfl⟩
  have hn1 : ws.length = 3 := by rw [← hwe]; rfl
  have HWS : Hid (ws = [[108, 105, 115, 116], b, c]) := hwe.symm
  rw [hwe] at hws
  have HW := words_front s w hs hws hn1
  have HW : Hid (Calls Tryz.prog 15 #[.string s] w fun e w1 => ∃ g cap, e = .returned (.slice (some ⟨g, 0, none⟩) 3 cap) ∧ Hid (Below w.heap.size w w1) ∧ RW (w1.alloc (.cells #[.slice (some ⟨g, 0, none⟩) 3 cap] 22)) w1.heap.size g 3 cap ws) := HW
  obtain ⟨wd, hwd⟩ : ∃ wd, wd = bA [108, 105, 115, 116] := ⟨_, rfl⟩
  have k0 : (wd.toList == [115, 101, 116]) = false := by rw [hwd, Lib.toList_data]; decide
  have k1 : (wd.toList == [114, 101, 97, 100]) = false := by rw [hwd, Lib.toList_data]; decide
  have k2 : (wd.toList == [108, 105, 115, 116]) = true := by rw [hwd, Lib.toList_data]; decide
  have k3 : (wd.toList == [106, 111, 105, 110]) = false := by rw [hwd, Lib.toList_data]; decide
  have k4 : (wd.toList == [99, 117, 116]) = false := by rw [hwd, Lib.toList_data]; decide
  have k5 : (wd.toList == [115, 105, 122, 101]) = false := by rw [hwd, Lib.toList_data]; decide
  have k6 : (wd.toList == [115, 117, 109]) = false := by rw [hwd, Lib.toList_data]; decide
  have k7 : (wd.toList == [109, 97, 107, 101]) = false := by rw [hwd, Lib.toList_data]; decide
  have k8 : (wd.toList == [114, 117, 110]) = false := by rw [hwd, Lib.toList_data]; decide
  have k9 : (wd.toList == [115, 97, 109, 101]) = false := by rw [hwd, Lib.toList_data]; decide
  have k10 : (wd.toList == [108, 101, 115, 115]) = false := by rw [hwd, Lib.toList_data]; decide
  have k11 : (wd.toList == [103, 111, 116, 111]) = false := by rw [hwd, Lib.toList_data]; decide
  have k12 : (wd.toList == [101, 120, 105, 116]) = false := by rw [hwd, Lib.toList_data]; decide
  have HWD : Hid (wd = bA [108, 105, 115, 116]) := hwd
  clear hwd
  have r1 : (regF b).isSome = true := h0
  have h8 : (pathOk (bA c) || decide (c = [46])) = true := h1
  clear hrig hws hwe hn1 hs h0 h1
  have hbx : (bA c).toList = c := by rw [Lib.toList_data]; unfold bA; simp
  by_cases hd : c = [46]
  · have hd1 : ((bA c).toList == [46]) = true := by rw [hbx, hd]; rfl
    clear h8 hd hbx
    go_enter Tryz.func9, Tryz.ntmps9
    go_wp2_with (first
      | (go_at_call 15; refine HW.out.mono ?_; rintro e w1 ⟨g, cap, rfl, HB1, hrw⟩; have HRW : Hid (RW (w1.alloc (.cells #[.slice (some ⟨g, 0, none⟩) 3 cap] 22)) w1.heap.size g 3 cap ws) := hrw; have q0 := (hrw.cells 0 [108, 105, 115, 116] (by rw [HWS.out]; rfl)).1; rw [← HWD.out] at q0; have yc := hrw.y; have p2 := (hrw.cells 2 c (by rw [HWS.out]; rfl)).1; have HBA : Hid (Below w.heap.size w (w1.alloc (.cells #[.slice (some ⟨g, 0, none⟩) 3 cap] 22))) := HB1.out.alloc HB1.out.size _; clear hrw)
      | (go_at_call 16; refine (r_any HRW.out 1 (x := b) (by rw [HWS.out]; rfl)).mono ?_; rintro e w4 ⟨rfl, hw⟩; subst w4)
      | go_in)
    go_ret
    exact ⟨rfl, HBA.out⟩
  · have hd1 : ((bA c).toList == [46]) = false := by rw [hbx]; exact beq_eq_false_iff_ne.2 hd
    have r2 : pathOk (bA c) = true := by simpa [hd] using h8
    clear h8 hd hbx
    go_enter Tryz.func9, Tryz.ntmps9
    go_wp2_with (first
      | (go_at_call 15; refine HW.out.mono ?_; rintro e w1 ⟨g, cap, rfl, HB1, hrw⟩; have HRW : Hid (RW (w1.alloc (.cells #[.slice (some ⟨g, 0, none⟩) 3 cap] 22)) w1.heap.size g 3 cap ws) := hrw; have q0 := (hrw.cells 0 [108, 105, 115, 116] (by rw [HWS.out]; rfl)).1; rw [← HWD.out] at q0; have yc := hrw.y; have p2 := (hrw.cells 2 c (by rw [HWS.out]; rfl)).1; have HBA : Hid (Below w.heap.size w (w1.alloc (.cells #[.slice (some ⟨g, 0, none⟩) 3 cap] 22))) := HB1.out.alloc HB1.out.size _; clear hrw)
      | (go_at_call 16; refine (r_any HRW.out 1 (x := b) (by rw [HWS.out]; rfl)).mono ?_; rintro e w4 ⟨rfl, hw⟩; subst w4)
      | (go_at_call 18; refine (RIsPath_any (bA c) _).mono ?_; rintro e w5 ⟨rfl, hb5⟩; have HB5 := below_low HBA.out hb5 HBA.out.size; have HBA : Hid (Below w.heap.size w w5) := HB5; clear hb5 HB5)
      | go_in)
    go_ret
    exact ⟨rfl, HBA.out⟩

set_option maxHeartbeats 4000000 in
set_option maxRecDepth 100000 in
theorem RL_sum_no (lines : Nat) (s : ByteArray) (w : World) (hs : s.size ≤ 100000) {rest : List (List UInt8)} (hws : wdL [] s.data.toList = [115, 117, 109] :: rest) (hn : ¬ ([115, 117, 109] :: rest).length = 2) :
    Calls Tryz.prog 9 #[.string s, .int .i64 (lines : Int)] w fun e w' => e = .returned (.bool (rigF lines s.data.toList)) ∧ Below w.heap.size w w' := by
  have hrig : rigF lines s.data.toList = false := by
    rw [rig_of hws rfl (f := [0]) rfl (by decide), decide_eq_false (by simpa using hn), Bool.false_and]
  rw [hrig]
  obtain ⟨ws, hwe⟩ : ∃ ws, [115, 117, 109] :: rest = ws := ⟨_, rfl⟩
  obtain ⟨n, hn1⟩ : ∃ n, ws.length = n := ⟨_, rfl⟩
  have HWS : Hid (ws = [115, 117, 109] :: rest) := hwe.symm
  rw [hwe] at hws hn
  rw [hn1] at hn
  have hnp : 1 ≤ n := by rw [← hn1, ← hwe]; simp
  have hnb : n ≤ 1000000 := by
    have h1 := wdL_len s.data.toList []
    have h2 : s.size = s.data.toList.length := size_of rfl
    rw [hws, hn1] at h1
    omega
  have HW := words_front s w hs hws hn1
  have HW : Hid (Calls Tryz.prog 15 #[.string s] w fun e w1 => ∃ g cap, e = .returned (.slice (some ⟨g, 0, none⟩) n cap) ∧ Hid (Below w.heap.size w w1) ∧ RW (w1.alloc (.cells #[.slice (some ⟨g, 0, none⟩) n cap] 22)) w1.heap.size g n cap ws) := HW
  obtain ⟨m, hm⟩ : ∃ m : Nat, n = m + 1 := ⟨n - 1, by omega⟩
  subst hm
  have e1 : IntKind.i64.wrap (m : Int) = (m : Int) := by rw [IntKind.wrap_i64]; omega
  have e2 : (0 : Int) < (m : Int) + 1 := by omega
  have e3 : ((m : Int) == 1) = false := by simp; omega
  obtain ⟨wd, hwd⟩ : ∃ wd, wd = bA [115, 117, 109] := ⟨_, rfl⟩
  have k0 : (wd.toList == [115, 101, 116]) = false := by rw [hwd, Lib.toList_data]; decide
  have k1 : (wd.toList == [114, 101, 97, 100]) = false := by rw [hwd, Lib.toList_data]; decide
  have k2 : (wd.toList == [108, 105, 115, 116]) = false := by rw [hwd, Lib.toList_data]; decide
  have k3 : (wd.toList == [106, 111, 105, 110]) = false := by rw [hwd, Lib.toList_data]; decide
  have k4 : (wd.toList == [99, 117, 116]) = false := by rw [hwd, Lib.toList_data]; decide
  have k5 : (wd.toList == [115, 105, 122, 101]) = false := by rw [hwd, Lib.toList_data]; decide
  have k6 : (wd.toList == [115, 117, 109]) = true := by rw [hwd, Lib.toList_data]; decide
  have k7 : (wd.toList == [109, 97, 107, 101]) = false := by rw [hwd, Lib.toList_data]; decide
  have k8 : (wd.toList == [114, 117, 110]) = false := by rw [hwd, Lib.toList_data]; decide
  have k9 : (wd.toList == [115, 97, 109, 101]) = false := by rw [hwd, Lib.toList_data]; decide
  have k10 : (wd.toList == [108, 101, 115, 115]) = false := by rw [hwd, Lib.toList_data]; decide
  have k11 : (wd.toList == [103, 111, 116, 111]) = false := by rw [hwd, Lib.toList_data]; decide
  have k12 : (wd.toList == [101, 120, 105, 116]) = false := by rw [hwd, Lib.toList_data]; decide
  have HWD : Hid (wd = bA [115, 117, 109]) := hwd
  clear hwd
  clear hrig hws hwe hn hn1 hnp hnb hs
  go_enter Tryz.func9, Tryz.ntmps9
  go_wp2_with (first
    | (go_at_call 15; refine HW.out.mono ?_; rintro e w1 ⟨g, cap, rfl, HB1, hrw⟩; have HRW : Hid (RW (w1.alloc (.cells #[.slice (some ⟨g, 0, none⟩) (m + 1) cap] 22)) w1.heap.size g (m + 1) cap ws) := hrw; have q0 := (hrw.cells 0 [115, 117, 109] (by rw [HWS.out]; rfl)).1; rw [← HWD.out] at q0; have yc := hrw.y; have HBA : Hid (Below w.heap.size w (w1.alloc (.cells #[.slice (some ⟨g, 0, none⟩) (m + 1) cap] 22))) := HB1.out.alloc HB1.out.size _; clear hrw)
    | go_in)
  go_ret
  exact ⟨rfl, HBA.out⟩

set_option maxHeartbeats 4000000 in
set_option maxRecDepth 100000 in
theorem RL_sum_0 (lines : Nat) (s : ByteArray) (w : World) (hs : s.size ≤ 100000) {b : List UInt8} (hws : wdL [] s.data.toList = [[115, 117, 109], b]) (h0 : okP lines 0 b = false) :
    Calls Tryz.prog 9 #[.string s, .int .i64 (lines : Int)] w fun e w' => e = .returned (.bool (rigF lines s.data.toList)) ∧ Below w.heap.size w w' := by
  have hrig : rigF lines s.data.toList = false := by
    rw [rig_of hws rfl (f := [0]) rfl (by decide)]
    simp [allP, h0]
  rw [hrig]
  obtain ⟨ws, hwe⟩ : ∃ ws, [[115, 117, 109], b] = ws := ⟨_, rfl⟩
  have hn1 : ws.length = 2 := by rw [← hwe]; rfl
  have HWS : Hid (ws = [[115, 117, 109], b]) := hwe.symm
  rw [hwe] at hws
  have HW := words_front s w hs hws hn1
  have HW : Hid (Calls Tryz.prog 15 #[.string s] w fun e w1 => ∃ g cap, e = .returned (.slice (some ⟨g, 0, none⟩) 2 cap) ∧ Hid (Below w.heap.size w w1) ∧ RW (w1.alloc (.cells #[.slice (some ⟨g, 0, none⟩) 2 cap] 22)) w1.heap.size g 2 cap ws) := HW
  obtain ⟨wd, hwd⟩ : ∃ wd, wd = bA [115, 117, 109] := ⟨_, rfl⟩
  have k0 : (wd.toList == [115, 101, 116]) = false := by rw [hwd, Lib.toList_data]; decide
  have k1 : (wd.toList == [114, 101, 97, 100]) = false := by rw [hwd, Lib.toList_data]; decide
  have k2 : (wd.toList == [108, 105, 115, 116]) = false := by rw [hwd, Lib.toList_data]; decide
  have k3 : (wd.toList == [106, 111, 105, 110]) = false := by rw [hwd, Lib.toList_data]; decide
  have k4 : (wd.toList == [99, 117, 116]) = false := by rw [hwd, Lib.toList_data]; decide
  have k5 : (wd.toList == [115, 105, 122, 101]) = false := by rw [hwd, Lib.toList_data]; decide
  have k6 : (wd.toList == [115, 117, 109]) = true := by rw [hwd, Lib.toList_data]; decide
  have k7 : (wd.toList == [109, 97, 107, 101]) = false := by rw [hwd, Lib.toList_data]; decide
  have k8 : (wd.toList == [114, 117, 110]) = false := by rw [hwd, Lib.toList_data]; decide
  have k9 : (wd.toList == [115, 97, 109, 101]) = false := by rw [hwd, Lib.toList_data]; decide
  have k10 : (wd.toList == [108, 101, 115, 115]) = false := by rw [hwd, Lib.toList_data]; decide
  have k11 : (wd.toList == [103, 111, 116, 111]) = false := by rw [hwd, Lib.toList_data]; decide
  have k12 : (wd.toList == [101, 120, 105, 116]) = false := by rw [hwd, Lib.toList_data]; decide
  have HWD : Hid (wd = bA [115, 117, 109]) := hwd
  clear hwd
  have r1 : (regF b).isSome = false := h0
  clear hrig hws hwe hn1 hs h0
  go_enter Tryz.func9, Tryz.ntmps9
  go_wp2_with (first
    | (go_at_call 15; refine HW.out.mono ?_; rintro e w1 ⟨g, cap, rfl, HB1, hrw⟩; have HRW : Hid (RW (w1.alloc (.cells #[.slice (some ⟨g, 0, none⟩) 2 cap] 22)) w1.heap.size g 2 cap ws) := hrw; have q0 := (hrw.cells 0 [115, 117, 109] (by rw [HWS.out]; rfl)).1; rw [← HWD.out] at q0; have yc := hrw.y; have HBA : Hid (Below w.heap.size w (w1.alloc (.cells #[.slice (some ⟨g, 0, none⟩) 2 cap] 22))) := HB1.out.alloc HB1.out.size _; clear hrw)
    | (go_at_call 16; refine (r_any HRW.out 1 (x := b) (by rw [HWS.out]; rfl)).mono ?_; rintro e w4 ⟨rfl, hw⟩; subst w4)
    | go_in)
  go_ret
  exact ⟨rfl, HBA.out⟩

set_option maxHeartbeats 4000000 in
set_option maxRecDepth 100000 in
theorem RL_sum_1 (lines : Nat) (s : ByteArray) (w : World) (hs : s.size ≤ 100000) {b : List UInt8} (hws : wdL [] s.data.toList = [[115, 117, 109], b]) (h0 : okP lines 0 b = true) :
    Calls Tryz.prog 9 #[.string s, .int .i64 (lines : Int)] w fun e w' => e = .returned (.bool (rigF lines s.data.toList)) ∧ Below w.heap.size w w' := by
  have hrig : rigF lines s.data.toList = true := by
    rw [rig_of hws rfl (f := [0]) rfl (by decide)]
    simp [allP, h0]
  rw [hrig]
  obtain ⟨ws, hwe⟩ : ∃ ws, [[115, 117, 109], b] = ws := ⟨_, rfl⟩
  have hn1 : ws.length = 2 := by rw [← hwe]; rfl
  have HWS : Hid (ws = [[115, 117, 109], b]) := hwe.symm
  rw [hwe] at hws
  have HW := words_front s w hs hws hn1
  have HW : Hid (Calls Tryz.prog 15 #[.string s] w fun e w1 => ∃ g cap, e = .returned (.slice (some ⟨g, 0, none⟩) 2 cap) ∧ Hid (Below w.heap.size w w1) ∧ RW (w1.alloc (.cells #[.slice (some ⟨g, 0, none⟩) 2 cap] 22)) w1.heap.size g 2 cap ws) := HW
  obtain ⟨wd, hwd⟩ : ∃ wd, wd = bA [115, 117, 109] := ⟨_, rfl⟩
  have k0 : (wd.toList == [115, 101, 116]) = false := by rw [hwd, Lib.toList_data]; decide
  have k1 : (wd.toList == [114, 101, 97, 100]) = false := by rw [hwd, Lib.toList_data]; decide
  have k2 : (wd.toList == [108, 105, 115, 116]) = false := by rw [hwd, Lib.toList_data]; decide
  have k3 : (wd.toList == [106, 111, 105, 110]) = false := by rw [hwd, Lib.toList_data]; decide
  have k4 : (wd.toList == [99, 117, 116]) = false := by rw [hwd, Lib.toList_data]; decide
  have k5 : (wd.toList == [115, 105, 122, 101]) = false := by rw [hwd, Lib.toList_data]; decide
  have k6 : (wd.toList == [115, 117, 109]) = true := by rw [hwd, Lib.toList_data]; decide
  have k7 : (wd.toList == [109, 97, 107, 101]) = false := by rw [hwd, Lib.toList_data]; decide
  have k8 : (wd.toList == [114, 117, 110]) = false := by rw [hwd, Lib.toList_data]; decide
  have k9 : (wd.toList == [115, 97, 109, 101]) = false := by rw [hwd, Lib.toList_data]; decide
  have k10 : (wd.toList == [108, 101, 115, 115]) = false := by rw [hwd, Lib.toList_data]; decide
  have k11 : (wd.toList == [103, 111, 116, 111]) = false := by rw [hwd, Lib.toList_data]; decide
  have k12 : (wd.toList == [101, 120, 105, 116]) = false := by rw [hwd, Lib.toList_data]; decide
  have HWD : Hid (wd = bA [115, 117, 109]) := hwd
  clear hwd
  have r1 : (regF b).isSome = true := h0
  clear hrig hws hwe hn1 hs h0
  go_enter Tryz.func9, Tryz.ntmps9
  go_wp2_with (first
    | (go_at_call 15; refine HW.out.mono ?_; rintro e w1 ⟨g, cap, rfl, HB1, hrw⟩; have HRW : Hid (RW (w1.alloc (.cells #[.slice (some ⟨g, 0, none⟩) 2 cap] 22)) w1.heap.size g 2 cap ws) := hrw; have q0 := (hrw.cells 0 [115, 117, 109] (by rw [HWS.out]; rfl)).1; rw [← HWD.out] at q0; have yc := hrw.y; have HBA : Hid (Below w.heap.size w (w1.alloc (.cells #[.slice (some ⟨g, 0, none⟩) 2 cap] 22))) := HB1.out.alloc HB1.out.size _; clear hrw)
    | (go_at_call 16; refine (r_any HRW.out 1 (x := b) (by rw [HWS.out]; rfl)).mono ?_; rintro e w4 ⟨rfl, hw⟩; subst w4)
    | go_in)
  go_ret
  exact ⟨rfl, HBA.out⟩
end Go.Proofs.YtcpomkgfcpfedaaGreatDoor
