/- The document's RightLine, by a line's first word. -/
import Derived.Test.YtapiedeekbfpnaaGreatDoorTr11
namespace Go.Proofs.YtapiedeekbfpnaaGreatDoor
open Go.RowKit Go.Shelf

theorem kf_set {wd : ByteArray} (hwd : wd = bA [115, 101, 116]) : (wd.toList == [115, 101, 116]) = true ∧ (wd.toList == [114, 101, 97, 100]) = false ∧ (wd.toList == [108, 105, 115, 116]) = false ∧ (wd.toList == [106, 111, 105, 110]) = false ∧ (wd.toList == [99, 117, 116]) = false ∧ (wd.toList == [115, 105, 122, 101]) = false ∧ (wd.toList == [115, 117, 109]) = false ∧ (wd.toList == [109, 97, 107, 101]) = false ∧ (wd.toList == [114, 117, 110]) = false ∧ (wd.toList == [115, 97, 109, 101]) = false ∧ (wd.toList == [108, 101, 115, 115]) = false ∧ (wd.toList == [103, 111, 116, 111]) = false ∧ (wd.toList == [101, 120, 105, 116]) = false := by
  rw [hwd, Lib.toList_data]
  decide

set_option maxHeartbeats 4000000 in
set_option maxRecDepth 100000 in
theorem RL_set_no (lines : Nat) (s : ByteArray) (w : World) (hs : s.size ≤ 100000) {rest : List (List UInt8)} (hws : wdL [] s.data.toList = [115, 101, 116] :: rest) (hn : ¬ 3 ≤ ([115, 101, 116] :: rest).length) :
    Calls Tryz.prog 44 #[.string s, .int .i64 (lines : Int)] w fun e w' => e = .returned (.bool (rigF lines s.data.toList)) ∧ Below w.heap.size w w' := by
  have hrig : rigF lines s.data.toList = false := by
    rw [rig_set hws rfl rfl, decide_eq_false hn, Bool.false_and]
  rw [hrig]
  obtain ⟨ws, hwe⟩ : ∃ ws, [115, 101, 116] :: rest = ws := ⟨_, rfl⟩
  obtain ⟨n, hn1⟩ : ∃ n, ws.length = n := ⟨_, rfl⟩
  have HWS : Hid (ws = [115, 101, 116] :: rest) := hwe.symm
  rw [hwe] at hws hn
  rw [hn1] at hn
  have hnp : 1 ≤ n := by rw [← hn1, ← hwe]; simp
  have hnb : n ≤ 1000000 := by
    have h1 := wdL_len s.data.toList []
    have h2 : s.size = s.data.toList.length := size_of rfl
    rw [hws, hn1] at h1
    omega
  have HW := words_front s w hs hws hn1
  have HW : Hid (Calls Tryz.prog 17 #[.string s] w fun e w1 => ∃ g cap, e = .returned (.slice (some ⟨g, 0, none⟩) n cap) ∧ Hid (Below w.heap.size w w1) ∧ RW (w1.alloc (.cells #[.slice (some ⟨g, 0, none⟩) n cap] 23)) w1.heap.size g n cap ws) := HW
  obtain ⟨m, hm⟩ : ∃ m : Nat, n = m + 1 := ⟨n - 1, by omega⟩
  subst hm
  have e1 : IntKind.i64.wrap (m : Int) = (m : Int) := by rw [IntKind.wrap_i64]; omega
  have e2 : (0 : Int) < (m : Int) + 1 := by omega
  have e3 : ¬ (2 : Int) ≤ (m : Int) := by omega
  obtain ⟨wd, hwd⟩ : ∃ wd, wd = bA [115, 101, 116] := ⟨_, rfl⟩
  obtain ⟨k0, k1, k2, k3, k4, k5, k6, k7, k8, k9, k10, k11, k12⟩ := kf_set hwd
  have HWD : Hid (wd = bA [115, 101, 116]) := hwd
  clear hwd
  clear hrig hws hwe hn hn1 hnp hnb hs
  go_enter Tryz.func44, Tryz.ntmps44
  go_wp2_with (first
    | (go_at_call 17; refine HW.out.mono ?_; rintro e w1 ⟨g, cap, rfl, HB1, hrw⟩; have HRW : Hid (RW (w1.alloc (.cells #[.slice (some ⟨g, 0, none⟩) (m + 1) cap] 23)) w1.heap.size g (m + 1) cap ws) := hrw; have q0 := (hrw.cells 0 [115, 101, 116] (by rw [HWS.out]; rfl)).1; rw [← HWD.out] at q0; have yc := hrw.y; have HBA : Hid (Below w.heap.size w (w1.alloc (.cells #[.slice (some ⟨g, 0, none⟩) (m + 1) cap] 23))) := HB1.out.alloc HB1.out.size _; clear hrw)
    | go_in)
  go_ret
  exact ⟨rfl, HBA.out⟩

set_option maxHeartbeats 4000000 in
set_option maxRecDepth 100000 in
theorem RL_set_0 (lines : Nat) (s : ByteArray) (w : World) (hs : s.size ≤ 100000) {b c : List UInt8} {rest : List (List UInt8)} (hws : wdL [] s.data.toList = [115, 101, 116] :: b :: c :: rest) (h0 : okP lines 0 b = false) :
    Calls Tryz.prog 44 #[.string s, .int .i64 (lines : Int)] w fun e w' => e = .returned (.bool (rigF lines s.data.toList)) ∧ Below w.heap.size w w' := by
  have hrig : rigF lines s.data.toList = false := by
    rw [rig_set hws rfl rfl]
    simp [allP, h0]
  rw [hrig]
  obtain ⟨ws, hwe⟩ : ∃ ws, [115, 101, 116] :: b :: c :: rest = ws := ⟨_, rfl⟩
  obtain ⟨n, hn1⟩ : ∃ n, ws.length = n := ⟨_, rfl⟩
  have HWS : Hid (ws = [115, 101, 116] :: b :: c :: rest) := hwe.symm
  have hnp : 3 ≤ n := by rw [← hn1, ← hwe]; simp
  rw [hwe] at hws
  have hnb : n ≤ 1000000 := by
    have h1 := wdL_len s.data.toList []
    have h2 : s.size = s.data.toList.length := size_of rfl
    rw [hws, hn1] at h1
    omega
  have HW := words_front s w hs hws hn1
  have HW : Hid (Calls Tryz.prog 17 #[.string s] w fun e w1 => ∃ g cap, e = .returned (.slice (some ⟨g, 0, none⟩) n cap) ∧ Hid (Below w.heap.size w w1) ∧ RW (w1.alloc (.cells #[.slice (some ⟨g, 0, none⟩) n cap] 23)) w1.heap.size g n cap ws) := HW
  obtain ⟨m, hm⟩ : ∃ m : Nat, n = m + 1 := ⟨n - 1, by omega⟩
  subst hm
  have e1 : IntKind.i64.wrap (m : Int) = (m : Int) := by rw [IntKind.wrap_i64]; omega
  have e2 : (0 : Int) < (m : Int) + 1 := by omega
  have e3 : (2 : Int) ≤ (m : Int) := by omega
  obtain ⟨wd, hwd⟩ : ∃ wd, wd = bA [115, 101, 116] := ⟨_, rfl⟩
  obtain ⟨k0, k1, k2, k3, k4, k5, k6, k7, k8, k9, k10, k11, k12⟩ := kf_set hwd
  have HWD : Hid (wd = bA [115, 101, 116]) := hwd
  clear hwd
  have r1 : (regF b).isSome = false := h0
  clear hrig hws hwe hn1 hs h0 hnp hnb
  go_enter Tryz.func44, Tryz.ntmps44
  go_wp2_with (first
    | (go_at_call 17; refine HW.out.mono ?_; rintro e w1 ⟨g, cap, rfl, HB1, hrw⟩; have HRW : Hid (RW (w1.alloc (.cells #[.slice (some ⟨g, 0, none⟩) (m + 1) cap] 23)) w1.heap.size g (m + 1) cap ws) := hrw; have q0 := (hrw.cells 0 [115, 101, 116] (by rw [HWS.out]; rfl)).1; rw [← HWD.out] at q0; have yc := hrw.y; have HBA : Hid (Below w.heap.size w (w1.alloc (.cells #[.slice (some ⟨g, 0, none⟩) (m + 1) cap] 23))) := HB1.out.alloc HB1.out.size _; clear hrw)
    | (go_at_call 95; refine (r_any HRW.out 1 (x := b) (by rw [HWS.out]; rfl)).mono ?_; rintro e w4 ⟨rfl, hw⟩; subst w4)
    | go_in)
  go_ret
  exact ⟨rfl, HBA.out⟩

set_option maxHeartbeats 4000000 in
set_option maxRecDepth 100000 in
theorem RL_set_1 (lines : Nat) (s : ByteArray) (w : World) (hs : s.size ≤ 100000) {b c : List UInt8} {rest : List (List UInt8)} (hws : wdL [] s.data.toList = [115, 101, 116] :: b :: c :: rest) (h0 : okP lines 0 b = true) :
    Calls Tryz.prog 44 #[.string s, .int .i64 (lines : Int)] w fun e w' => e = .returned (.bool (rigF lines s.data.toList)) ∧ Below w.heap.size w w' := by
  have hrig : rigF lines s.data.toList = true := by
    rw [rig_set hws rfl rfl]
    simp [allP, h0]
  rw [hrig]
  obtain ⟨ws, hwe⟩ : ∃ ws, [115, 101, 116] :: b :: c :: rest = ws := ⟨_, rfl⟩
  obtain ⟨n, hn1⟩ : ∃ n, ws.length = n := ⟨_, rfl⟩
  have HWS : Hid (ws = [115, 101, 116] :: b :: c :: rest) := hwe.symm
  have hnp : 3 ≤ n := by rw [← hn1, ← hwe]; simp
  rw [hwe] at hws
  have hnb : n ≤ 1000000 := by
    have h1 := wdL_len s.data.toList []
    have h2 : s.size = s.data.toList.length := size_of rfl
    rw [hws, hn1] at h1
    omega
  have HW := words_front s w hs hws hn1
  have HW : Hid (Calls Tryz.prog 17 #[.string s] w fun e w1 => ∃ g cap, e = .returned (.slice (some ⟨g, 0, none⟩) n cap) ∧ Hid (Below w.heap.size w w1) ∧ RW (w1.alloc (.cells #[.slice (some ⟨g, 0, none⟩) n cap] 23)) w1.heap.size g n cap ws) := HW
  obtain ⟨m, hm⟩ : ∃ m : Nat, n = m + 1 := ⟨n - 1, by omega⟩
  subst hm
  have e1 : IntKind.i64.wrap (m : Int) = (m : Int) := by rw [IntKind.wrap_i64]; omega
  have e2 : (0 : Int) < (m : Int) + 1 := by omega
  have e3 : (2 : Int) ≤ (m : Int) := by omega
  obtain ⟨wd, hwd⟩ : ∃ wd, wd = bA [115, 101, 116] := ⟨_, rfl⟩
  obtain ⟨k0, k1, k2, k3, k4, k5, k6, k7, k8, k9, k10, k11, k12⟩ := kf_set hwd
  have HWD : Hid (wd = bA [115, 101, 116]) := hwd
  clear hwd
  have r1 : (regF b).isSome = true := h0
  clear hrig hws hwe hn1 hs h0 hnp hnb
  go_enter Tryz.func44, Tryz.ntmps44
  go_wp2_with (first
    | (go_at_call 17; refine HW.out.mono ?_; rintro e w1 ⟨g, cap, rfl, HB1, hrw⟩; have HRW : Hid (RW (w1.alloc (.cells #[.slice (some ⟨g, 0, none⟩) (m + 1) cap] 23)) w1.heap.size g (m + 1) cap ws) := hrw; have q0 := (hrw.cells 0 [115, 101, 116] (by rw [HWS.out]; rfl)).1; rw [← HWD.out] at q0; have yc := hrw.y; have HBA : Hid (Below w.heap.size w (w1.alloc (.cells #[.slice (some ⟨g, 0, none⟩) (m + 1) cap] 23))) := HB1.out.alloc HB1.out.size _; clear hrw)
    | (go_at_call 95; refine (r_any HRW.out 1 (x := b) (by rw [HWS.out]; rfl)).mono ?_; rintro e w4 ⟨rfl, hw⟩; subst w4)
    | go_in)
  go_ret
  exact ⟨rfl, HBA.out⟩

theorem kf_read {wd : ByteArray} (hwd : wd = bA [114, 101, 97, 100]) : (wd.toList == [115, 101, 116]) = false ∧ (wd.toList == [114, 101, 97, 100]) = true ∧ (wd.toList == [108, 105, 115, 116]) = false ∧ (wd.toList == [106, 111, 105, 110]) = false ∧ (wd.toList == [99, 117, 116]) = false ∧ (wd.toList == [115, 105, 122, 101]) = false ∧ (wd.toList == [115, 117, 109]) = false ∧ (wd.toList == [109, 97, 107, 101]) = false ∧ (wd.toList == [114, 117, 110]) = false ∧ (wd.toList == [115, 97, 109, 101]) = false ∧ (wd.toList == [108, 101, 115, 115]) = false ∧ (wd.toList == [103, 111, 116, 111]) = false ∧ (wd.toList == [101, 120, 105, 116]) = false := by
  rw [hwd, Lib.toList_data]
  decide

set_option maxHeartbeats 4000000 in
set_option maxRecDepth 100000 in
theorem RL_read_no (lines : Nat) (s : ByteArray) (w : World) (hs : s.size ≤ 100000) {rest : List (List UInt8)} (hws : wdL [] s.data.toList = [114, 101, 97, 100] :: rest) (hn : ¬ ([114, 101, 97, 100] :: rest).length = 3) :
    Calls Tryz.prog 44 #[.string s, .int .i64 (lines : Int)] w fun e w' => e = .returned (.bool (rigF lines s.data.toList)) ∧ Below w.heap.size w w' := by
  have hrig : rigF lines s.data.toList = false := by
    rw [rig_of hws rfl (f := [0, 7]) rfl (by decide), decide_eq_false (by simpa using hn), Bool.false_and]
  rw [hrig]
  obtain ⟨ws, hwe⟩ : ∃ ws, [114, 101, 97, 100] :: rest = ws := ⟨_, rfl⟩
  obtain ⟨n, hn1⟩ : ∃ n, ws.length = n := ⟨_, rfl⟩
  have HWS : Hid (ws = [114, 101, 97, 100] :: rest) := hwe.symm
  rw [hwe] at hws hn
  rw [hn1] at hn
  have hnp : 1 ≤ n := by rw [← hn1, ← hwe]; simp
  have hnb : n ≤ 1000000 := by
    have h1 := wdL_len s.data.toList []
    have h2 : s.size = s.data.toList.length := size_of rfl
    rw [hws, hn1] at h1
    omega
  have HW := words_front s w hs hws hn1
  have HW : Hid (Calls Tryz.prog 17 #[.string s] w fun e w1 => ∃ g cap, e = .returned (.slice (some ⟨g, 0, none⟩) n cap) ∧ Hid (Below w.heap.size w w1) ∧ RW (w1.alloc (.cells #[.slice (some ⟨g, 0, none⟩) n cap] 23)) w1.heap.size g n cap ws) := HW
  obtain ⟨m, hm⟩ : ∃ m : Nat, n = m + 1 := ⟨n - 1, by omega⟩
  subst hm
  have e1 : IntKind.i64.wrap (m : Int) = (m : Int) := by rw [IntKind.wrap_i64]; omega
  have e2 : (0 : Int) < (m : Int) + 1 := by omega
  have e3 : ((m : Int) == 2) = false := by simp; omega
  obtain ⟨wd, hwd⟩ : ∃ wd, wd = bA [114, 101, 97, 100] := ⟨_, rfl⟩
  obtain ⟨k0, k1, k2, k3, k4, k5, k6, k7, k8, k9, k10, k11, k12⟩ := kf_read hwd
  have HWD : Hid (wd = bA [114, 101, 97, 100]) := hwd
  clear hwd
  clear hrig hws hwe hn hn1 hnp hnb hs
  go_enter Tryz.func44, Tryz.ntmps44
  go_wp2_with (first
    | (go_at_call 17; refine HW.out.mono ?_; rintro e w1 ⟨g, cap, rfl, HB1, hrw⟩; have HRW : Hid (RW (w1.alloc (.cells #[.slice (some ⟨g, 0, none⟩) (m + 1) cap] 23)) w1.heap.size g (m + 1) cap ws) := hrw; have q0 := (hrw.cells 0 [114, 101, 97, 100] (by rw [HWS.out]; rfl)).1; rw [← HWD.out] at q0; have yc := hrw.y; have HBA : Hid (Below w.heap.size w (w1.alloc (.cells #[.slice (some ⟨g, 0, none⟩) (m + 1) cap] 23))) := HB1.out.alloc HB1.out.size _; clear hrw)
    | go_in)
  go_ret
  exact ⟨rfl, HBA.out⟩

set_option maxHeartbeats 4000000 in
set_option maxRecDepth 100000 in
theorem RL_read_0 (lines : Nat) (s : ByteArray) (w : World) (hs : s.size ≤ 100000) {b c : List UInt8} (hws : wdL [] s.data.toList = [[114, 101, 97, 100], b, c]) (h0 : okP lines 0 b = false) :
    Calls Tryz.prog 44 #[.string s, .int .i64 (lines : Int)] w fun e w' => e = .returned (.bool (rigF lines s.data.toList)) ∧ Below w.heap.size w w' := by
  have hrig : rigF lines s.data.toList = false := by
    rw [rig_of hws rfl (f := [0, 7]) rfl (by decide)]
    simp [allP, h0]
  rw [hrig]
  obtain ⟨ws, hwe⟩ : ∃ ws, [[114, 101, 97, 100], b, c] = ws := ⟨_, rfl⟩
  have hn1 : ws.length = 3 := by rw [← hwe]; rfl
  have HWS : Hid (ws = [[114, 101, 97, 100], b, c]) := hwe.symm
  rw [hwe] at hws
  have HW := words_front s w hs hws hn1
  have HW : Hid (Calls Tryz.prog 17 #[.string s] w fun e w1 => ∃ g cap, e = .returned (.slice (some ⟨g, 0, none⟩) 3 cap) ∧ Hid (Below w.heap.size w w1) ∧ RW (w1.alloc (.cells #[.slice (some ⟨g, 0, none⟩) 3 cap] 23)) w1.heap.size g 3 cap ws) := HW
  obtain ⟨wd, hwd⟩ : ∃ wd, wd = bA [114, 101, 97, 100] := ⟨_, rfl⟩
  obtain ⟨k0, k1, k2, k3, k4, k5, k6, k7, k8, k9, k10, k11, k12⟩ := kf_read hwd
  have HWD : Hid (wd = bA [114, 101, 97, 100]) := hwd
  clear hwd
  have r1 : (regF b).isSome = false := h0
  clear hrig hws hwe hn1 hs h0
  go_enter Tryz.func44, Tryz.ntmps44
  go_wp2_with (first
    | (go_at_call 17; refine HW.out.mono ?_; rintro e w1 ⟨g, cap, rfl, HB1, hrw⟩; have HRW : Hid (RW (w1.alloc (.cells #[.slice (some ⟨g, 0, none⟩) 3 cap] 23)) w1.heap.size g 3 cap ws) := hrw; have q0 := (hrw.cells 0 [114, 101, 97, 100] (by rw [HWS.out]; rfl)).1; rw [← HWD.out] at q0; have yc := hrw.y; have HBA : Hid (Below w.heap.size w (w1.alloc (.cells #[.slice (some ⟨g, 0, none⟩) 3 cap] 23))) := HB1.out.alloc HB1.out.size _; clear hrw)
    | (go_at_call 95; refine (r_any HRW.out 1 (x := b) (by rw [HWS.out]; rfl)).mono ?_; rintro e w4 ⟨rfl, hw⟩; subst w4)
    | go_in)
  go_ret
  exact ⟨rfl, HBA.out⟩

set_option maxHeartbeats 4000000 in
set_option maxRecDepth 100000 in
theorem RL_read_1 (lines : Nat) (s : ByteArray) (w : World) (hs : s.size ≤ 100000) {b c : List UInt8} (hws : wdL [] s.data.toList = [[114, 101, 97, 100], b, c]) (h0 : okP lines 0 b = true) (h1 : okP lines 7 c = false) :
    Calls Tryz.prog 44 #[.string s, .int .i64 (lines : Int)] w fun e w' => e = .returned (.bool (rigF lines s.data.toList)) ∧ Below w.heap.size w w' := by
  have hrig : rigF lines s.data.toList = false := by
    rw [rig_of hws rfl (f := [0, 7]) rfl (by decide)]
    simp [allP, h0, h1]
  rw [hrig]
  obtain ⟨ws, hwe⟩ : ∃ ws, [[114, 101, 97, 100], b, c] = ws := ⟨_, rfl⟩
  have hn1 : ws.length = 3 := by rw [← hwe]; rfl
  have HWS : Hid (ws = [[114, 101, 97, 100], b, c]) := hwe.symm
  rw [hwe] at hws
  have HW := words_front s w hs hws hn1
  have HW : Hid (Calls Tryz.prog 17 #[.string s] w fun e w1 => ∃ g cap, e = .returned (.slice (some ⟨g, 0, none⟩) 3 cap) ∧ Hid (Below w.heap.size w w1) ∧ RW (w1.alloc (.cells #[.slice (some ⟨g, 0, none⟩) 3 cap] 23)) w1.heap.size g 3 cap ws) := HW
  obtain ⟨wd, hwd⟩ : ∃ wd, wd = bA [114, 101, 97, 100] := ⟨_, rfl⟩
  obtain ⟨k0, k1, k2, k3, k4, k5, k6, k7, k8, k9, k10, k11, k12⟩ := kf_read hwd
  have HWD : Hid (wd = bA [114, 101, 97, 100]) := hwd
  clear hwd
  have r1 : (regF b).isSome = true := h0
  have r2 : pathOk (bA c) = false := h1
  clear hrig hws hwe hn1 hs h0 h1
  go_enter Tryz.func44, Tryz.ntmps44
  go_wp2_with (first
    | (go_at_call 17; refine HW.out.mono ?_; rintro e w1 ⟨g, cap, rfl, HB1, hrw⟩; have HRW : Hid (RW (w1.alloc (.cells #[.slice (some ⟨g, 0, none⟩) 3 cap] 23)) w1.heap.size g 3 cap ws) := hrw; have q0 := (hrw.cells 0 [114, 101, 97, 100] (by rw [HWS.out]; rfl)).1; rw [← HWD.out] at q0; have yc := hrw.y; have p2 := (hrw.cells 2 c (by rw [HWS.out]; rfl)).1; have HBA : Hid (Below w.heap.size w (w1.alloc (.cells #[.slice (some ⟨g, 0, none⟩) 3 cap] 23))) := HB1.out.alloc HB1.out.size _; clear hrw)
    | (go_at_call 95; refine (r_any HRW.out 1 (x := b) (by rw [HWS.out]; rfl)).mono ?_; rintro e w4 ⟨rfl, hw⟩; subst w4)
    | (go_at_call 41; refine (RIsPath_any (bA c) _).mono ?_; rintro e w5 ⟨rfl, hb5⟩; have HRW5 := HRW.out.below hb5; have HRW : Hid (RW w5 w1.heap.size g 3 cap ws) := HRW5; have HB5 := below_low HBA.out hb5 HBA.out.size; have HBA : Hid (Below w.heap.size w w5) := HB5; have yc5 := HRW.out.y; clear hb5 HRW5 HB5)
    | go_in)
  go_ret
  exact ⟨rfl, HBA.out⟩

set_option maxHeartbeats 4000000 in
set_option maxRecDepth 100000 in
theorem RL_read_2 (lines : Nat) (s : ByteArray) (w : World) (hs : s.size ≤ 100000) {b c : List UInt8} (hws : wdL [] s.data.toList = [[114, 101, 97, 100], b, c]) (h0 : okP lines 0 b = true) (h1 : okP lines 7 c = true) :
    Calls Tryz.prog 44 #[.string s, .int .i64 (lines : Int)] w fun e w' => e = .returned (.bool (rigF lines s.data.toList)) ∧ Below w.heap.size w w' := by
  have hrig : rigF lines s.data.toList = true := by
    rw [rig_of hws rfl (f := [0, 7]) rfl (by decide)]
    simp [allP, h0, h1]
  rw [hrig]
  obtain ⟨ws, hwe⟩ : ∃ ws, [[114, 101, 97, 100], b, c] = ws := ⟨_, rfl⟩
  have hn1 : ws.length = 3 := by rw [← hwe]; rfl
  have HWS : Hid (ws = [[114, 101, 97, 100], b, c]) := hwe.symm
  rw [hwe] at hws
  have HW := words_front s w hs hws hn1
  have HW : Hid (Calls Tryz.prog 17 #[.string s] w fun e w1 => ∃ g cap, e = .returned (.slice (some ⟨g, 0, none⟩) 3 cap) ∧ Hid (Below w.heap.size w w1) ∧ RW (w1.alloc (.cells #[.slice (some ⟨g, 0, none⟩) 3 cap] 23)) w1.heap.size g 3 cap ws) := HW
  obtain ⟨wd, hwd⟩ : ∃ wd, wd = bA [114, 101, 97, 100] := ⟨_, rfl⟩
  obtain ⟨k0, k1, k2, k3, k4, k5, k6, k7, k8, k9, k10, k11, k12⟩ := kf_read hwd
  have HWD : Hid (wd = bA [114, 101, 97, 100]) := hwd
  clear hwd
  have r1 : (regF b).isSome = true := h0
  have r2 : pathOk (bA c) = true := h1
  clear hrig hws hwe hn1 hs h0 h1
  go_enter Tryz.func44, Tryz.ntmps44
  go_wp2_with (first
    | (go_at_call 17; refine HW.out.mono ?_; rintro e w1 ⟨g, cap, rfl, HB1, hrw⟩; have HRW : Hid (RW (w1.alloc (.cells #[.slice (some ⟨g, 0, none⟩) 3 cap] 23)) w1.heap.size g 3 cap ws) := hrw; have q0 := (hrw.cells 0 [114, 101, 97, 100] (by rw [HWS.out]; rfl)).1; rw [← HWD.out] at q0; have yc := hrw.y; have p2 := (hrw.cells 2 c (by rw [HWS.out]; rfl)).1; have HBA : Hid (Below w.heap.size w (w1.alloc (.cells #[.slice (some ⟨g, 0, none⟩) 3 cap] 23))) := HB1.out.alloc HB1.out.size _; clear hrw)
    | (go_at_call 95; refine (r_any HRW.out 1 (x := b) (by rw [HWS.out]; rfl)).mono ?_; rintro e w4 ⟨rfl, hw⟩; subst w4)
    | (go_at_call 41; refine (RIsPath_any (bA c) _).mono ?_; rintro e w5 ⟨rfl, hb5⟩; have HRW5 := HRW.out.below hb5; have HRW : Hid (RW w5 w1.heap.size g 3 cap ws) := HRW5; have HB5 := below_low HBA.out hb5 HBA.out.size; have HBA : Hid (Below w.heap.size w w5) := HB5; have yc5 := HRW.out.y; clear hb5 HRW5 HB5)
    | go_in)
  go_ret
  exact ⟨rfl, HBA.out⟩

theorem kf_list {wd : ByteArray} (hwd : wd = bA [108, 105, 115, 116]) : (wd.toList == [115, 101, 116]) = false ∧ (wd.toList == [114, 101, 97, 100]) = false ∧ (wd.toList == [108, 105, 115, 116]) = true ∧ (wd.toList == [106, 111, 105, 110]) = false ∧ (wd.toList == [99, 117, 116]) = false ∧ (wd.toList == [115, 105, 122, 101]) = false ∧ (wd.toList == [115, 117, 109]) = false ∧ (wd.toList == [109, 97, 107, 101]) = false ∧ (wd.toList == [114, 117, 110]) = false ∧ (wd.toList == [115, 97, 109, 101]) = false ∧ (wd.toList == [108, 101, 115, 115]) = false ∧ (wd.toList == [103, 111, 116, 111]) = false ∧ (wd.toList == [101, 120, 105, 116]) = false := by
  rw [hwd, Lib.toList_data]
  decide

set_option maxHeartbeats 4000000 in
set_option maxRecDepth 100000 in
theorem RL_list_no (lines : Nat) (s : ByteArray) (w : World) (hs : s.size ≤ 100000) {rest : List (List UInt8)} (hws : wdL [] s.data.toList = [108, 105, 115, 116] :: rest) (hn : ¬ ([108, 105, 115, 116] :: rest).length = 3) :
    Calls Tryz.prog 44 #[.string s, .int .i64 (lines : Int)] w fun e w' => e = .returned (.bool (rigF lines s.data.toList)) ∧ Below w.heap.size w w' := by
  have hrig : rigF lines s.data.toList = false := by
    rw [rig_of hws rfl (f := [0, 8]) rfl (by decide), decide_eq_false (by simpa using hn), Bool.false_and]
  rw [hrig]
  obtain ⟨ws, hwe⟩ : ∃ ws, [108, 105, 115, 116] :: rest = ws := ⟨_, rfl⟩
  obtain ⟨n, hn1⟩ : ∃ n, ws.length = n := ⟨_, rfl⟩
  have HWS : Hid (ws = [108, 105, 115, 116] :: rest) := hwe.symm
  rw [hwe] at hws hn
  rw [hn1] at hn
  have hnp : 1 ≤ n := by rw [← hn1, ← hwe]; simp
  have hnb : n ≤ 1000000 := by
    have h1 := wdL_len s.data.toList []
    have h2 : s.size = s.data.toList.length := size_of rfl
    rw [hws, hn1] at h1
    omega
  have HW := words_front s w hs hws hn1
  have HW : Hid (Calls Tryz.prog 17 #[.string s] w fun e w1 => ∃ g cap, e = .returned (.slice (some ⟨g, 0, none⟩) n cap) ∧ Hid (Below w.heap.size w w1) ∧ RW (w1.alloc (.cells #[.slice (some ⟨g, 0, none⟩) n cap] 23)) w1.heap.size g n cap ws) := HW
  obtain ⟨m, hm⟩ : ∃ m : Nat, n = m + 1 := ⟨n - 1, by omega⟩
  subst hm
  have e1 : IntKind.i64.wrap (m : Int) = (m : Int) := by rw [IntKind.wrap_i64]; omega
  have e2 : (0 : Int) < (m : Int) + 1 := by omega
  have e3 : ((m : Int) == 2) = false := by simp; omega
  obtain ⟨wd, hwd⟩ : ∃ wd, wd = bA [108, 105, 115, 116] := ⟨_, rfl⟩
  obtain ⟨k0, k1, k2, k3, k4, k5, k6, k7, k8, k9, k10, k11, k12⟩ := kf_list hwd
  have HWD : Hid (wd = bA [108, 105, 115, 116]) := hwd
  clear hwd
  clear hrig hws hwe hn hn1 hnp hnb hs
  go_enter Tryz.func44, Tryz.ntmps44
  go_wp2_with (first
    | (go_at_call 17; refine HW.out.mono ?_; rintro e w1 ⟨g, cap, rfl, HB1, hrw⟩; have HRW : Hid (RW (w1.alloc (.cells #[.slice (some ⟨g, 0, none⟩) (m + 1) cap] 23)) w1.heap.size g (m + 1) cap ws) := hrw; have q0 := (hrw.cells 0 [108, 105, 115, 116] (by rw [HWS.out]; rfl)).1; rw [← HWD.out] at q0; have yc := hrw.y; have HBA : Hid (Below w.heap.size w (w1.alloc (.cells #[.slice (some ⟨g, 0, none⟩) (m + 1) cap] 23))) := HB1.out.alloc HB1.out.size _; clear hrw)
    | go_in)
  go_ret
  exact ⟨rfl, HBA.out⟩

set_option maxHeartbeats 4000000 in
set_option maxRecDepth 100000 in
theorem RL_list_0 (lines : Nat) (s : ByteArray) (w : World) (hs : s.size ≤ 100000) {b c : List UInt8} (hws : wdL [] s.data.toList = [[108, 105, 115, 116], b, c]) (h0 : okP lines 0 b = false) :
    Calls Tryz.prog 44 #[.string s, .int .i64 (lines : Int)] w fun e w' => e = .returned (.bool (rigF lines s.data.toList)) ∧ Below w.heap.size w w' := by
  have hrig : rigF lines s.data.toList = false := by
    rw [rig_of hws rfl (f := [0, 8]) rfl (by decide)]
    simp [allP, h0]
  rw [hrig]
  obtain ⟨ws, hwe⟩ : ∃ ws, [[108, 105, 115, 116], b, c] = ws := ⟨_, rfl⟩
  have hn1 : ws.length = 3 := by rw [← hwe]; rfl
  have HWS : Hid (ws = [[108, 105, 115, 116], b, c]) := hwe.symm
  rw [hwe] at hws
  have HW := words_front s w hs hws hn1
  have HW : Hid (Calls Tryz.prog 17 #[.string s] w fun e w1 => ∃ g cap, e = .returned (.slice (some ⟨g, 0, none⟩) 3 cap) ∧ Hid (Below w.heap.size w w1) ∧ RW (w1.alloc (.cells #[.slice (some ⟨g, 0, none⟩) 3 cap] 23)) w1.heap.size g 3 cap ws) := HW
  obtain ⟨wd, hwd⟩ : ∃ wd, wd = bA [108, 105, 115, 116] := ⟨_, rfl⟩
  obtain ⟨k0, k1, k2, k3, k4, k5, k6, k7, k8, k9, k10, k11, k12⟩ := kf_list hwd
  have HWD : Hid (wd = bA [108, 105, 115, 116]) := hwd
  clear hwd
  have r1 : (regF b).isSome = false := h0
  clear hrig hws hwe hn1 hs h0
  go_enter Tryz.func44, Tryz.ntmps44
  go_wp2_with (first
    | (go_at_call 17; refine HW.out.mono ?_; rintro e w1 ⟨g, cap, rfl, HB1, hrw⟩; have HRW : Hid (RW (w1.alloc (.cells #[.slice (some ⟨g, 0, none⟩) 3 cap] 23)) w1.heap.size g 3 cap ws) := hrw; have q0 := (hrw.cells 0 [108, 105, 115, 116] (by rw [HWS.out]; rfl)).1; rw [← HWD.out] at q0; have yc := hrw.y; have HBA : Hid (Below w.heap.size w (w1.alloc (.cells #[.slice (some ⟨g, 0, none⟩) 3 cap] 23))) := HB1.out.alloc HB1.out.size _; clear hrw)
    | (go_at_call 95; refine (r_any HRW.out 1 (x := b) (by rw [HWS.out]; rfl)).mono ?_; rintro e w4 ⟨rfl, hw⟩; subst w4)
    | go_in)
  go_ret
  exact ⟨rfl, HBA.out⟩

set_option maxHeartbeats 4000000 in
set_option maxRecDepth 100000 in
theorem RL_list_1 (lines : Nat) (s : ByteArray) (w : World) (hs : s.size ≤ 100000) {b c : List UInt8} (hws : wdL [] s.data.toList = [[108, 105, 115, 116], b, c]) (h0 : okP lines 0 b = true) (h1 : okP lines 8 c = false) :
    Calls Tryz.prog 44 #[.string s, .int .i64 (lines : Int)] w fun e w' => e = .returned (.bool (rigF lines s.data.toList)) ∧ Below w.heap.size w w' := by
  have hrig : rigF lines s.data.toList = false := by
    rw [rig_of hws rfl (f := [0, 8]) rfl (by decide)]
    simp [allP, h0, h1]
  rw [hrig]
  obtain ⟨ws, hwe⟩ : ∃ ws, [[108, 105, 115, 116], b, c] = ws := ⟨_, rfl⟩
  have hn1 : ws.length = 3 := by rw [← hwe]; rfl
  have HWS : Hid (ws = [[108, 105, 115, 116], b, c]) := hwe.symm
  rw [hwe] at hws
  have HW := words_front s w hs hws hn1
  have HW : Hid (Calls Tryz.prog 17 #[.string s] w fun e w1 => ∃ g cap, e = .returned (.slice (some ⟨g, 0, none⟩) 3 cap) ∧ Hid (Below w.heap.size w w1) ∧ RW (w1.alloc (.cells #[.slice (some ⟨g, 0, none⟩) 3 cap] 23)) w1.heap.size g 3 cap ws) := HW
  obtain ⟨wd, hwd⟩ : ∃ wd, wd = bA [108, 105, 115, 116] := ⟨_, rfl⟩
  obtain ⟨k0, k1, k2, k3, k4, k5, k6, k7, k8, k9, k10, k11, k12⟩ := kf_list hwd
  have HWD : Hid (wd = bA [108, 105, 115, 116]) := hwd
  clear hwd
  have r1 : (regF b).isSome = true := h0
  have h8 : (pathOk (bA c) || decide (c = [46])) = false := h1
  clear hrig hws hwe hn1 hs h0 h1
  have hbx : (bA c).toList = c := by rw [Lib.toList_data]; unfold bA; simp
  by_cases hd : c = [46]
  · rw [hd] at h8; simp at h8
  · have hd1 : ((bA c).toList == [46]) = false := by rw [hbx]; exact beq_eq_false_iff_ne.2 hd
    have r2 : pathOk (bA c) = false := by simpa [hd] using h8
    clear h8 hd hbx
    go_enter Tryz.func44, Tryz.ntmps44
    go_wp2_with (first
      | (go_at_call 17; refine HW.out.mono ?_; rintro e w1 ⟨g, cap, rfl, HB1, hrw⟩; have HRW : Hid (RW (w1.alloc (.cells #[.slice (some ⟨g, 0, none⟩) 3 cap] 23)) w1.heap.size g 3 cap ws) := hrw; have q0 := (hrw.cells 0 [108, 105, 115, 116] (by rw [HWS.out]; rfl)).1; rw [← HWD.out] at q0; have yc := hrw.y; have p2 := (hrw.cells 2 c (by rw [HWS.out]; rfl)).1; have HBA : Hid (Below w.heap.size w (w1.alloc (.cells #[.slice (some ⟨g, 0, none⟩) 3 cap] 23))) := HB1.out.alloc HB1.out.size _; clear hrw)
      | (go_at_call 95; refine (r_any HRW.out 1 (x := b) (by rw [HWS.out]; rfl)).mono ?_; rintro e w4 ⟨rfl, hw⟩; subst w4)
      | (go_at_call 41; refine (RIsPath_any (bA c) _).mono ?_; rintro e w5 ⟨rfl, hb5⟩; have HB5 := below_low HBA.out hb5 HBA.out.size; have HBA : Hid (Below w.heap.size w w5) := HB5; clear hb5 HB5)
      | go_in)
    go_ret
    exact ⟨rfl, HBA.out⟩

set_option maxHeartbeats 4000000 in
set_option maxRecDepth 100000 in
theorem RL_list_2 (lines : Nat) (s : ByteArray) (w : World) (hs : s.size ≤ 100000) {b c : List UInt8} (hws : wdL [] s.data.toList = [[108, 105, 115, 116], b, c]) (h0 : okP lines 0 b = true) (h1 : okP lines 8 c = true) :
    Calls Tryz.prog 44 #[.string s, .int .i64 (lines : Int)] w fun e w' => e = .returned (.bool (rigF lines s.data.toList)) ∧ Below w.heap.size w w' := by
  have hrig : rigF lines s.data.toList = true := by
    rw [rig_of hws rfl (f := [0, 8]) rfl (by decide)]
    simp [allP, h0, h1]
  rw [hrig]
  obtain ⟨ws, hwe⟩ : ∃ ws, [[108, 105, 115, 116], b, c] = ws := ⟨_, rfl⟩
  have hn1 : ws.length = 3 := by rw [← hwe]; rfl
  have HWS : Hid (ws = [[108, 105, 115, 116], b, c]) := hwe.symm
  rw [hwe] at hws
  have HW := words_front s w hs hws hn1
  have HW : Hid (Calls Tryz.prog 17 #[.string s] w fun e w1 => ∃ g cap, e = .returned (.slice (some ⟨g, 0, none⟩) 3 cap) ∧ Hid (Below w.heap.size w w1) ∧ RW (w1.alloc (.cells #[.slice (some ⟨g, 0, none⟩) 3 cap] 23)) w1.heap.size g 3 cap ws) := HW
  obtain ⟨wd, hwd⟩ : ∃ wd, wd = bA [108, 105, 115, 116] := ⟨_, rfl⟩
  obtain ⟨k0, k1, k2, k3, k4, k5, k6, k7, k8, k9, k10, k11, k12⟩ := kf_list hwd
  have HWD : Hid (wd = bA [108, 105, 115, 116]) := hwd
  clear hwd
  have r1 : (regF b).isSome = true := h0
  have h8 : (pathOk (bA c) || decide (c = [46])) = true := h1
  clear hrig hws hwe hn1 hs h0 h1
  have hbx : (bA c).toList = c := by rw [Lib.toList_data]; unfold bA; simp
  by_cases hd : c = [46]
  · have hd1 : ((bA c).toList == [46]) = true := by rw [hbx, hd]; rfl
    clear h8 hd hbx
    go_enter Tryz.func44, Tryz.ntmps44
    go_wp2_with (first
      | (go_at_call 17; refine HW.out.mono ?_; rintro e w1 ⟨g, cap, rfl, HB1, hrw⟩; have HRW : Hid (RW (w1.alloc (.cells #[.slice (some ⟨g, 0, none⟩) 3 cap] 23)) w1.heap.size g 3 cap ws) := hrw; have q0 := (hrw.cells 0 [108, 105, 115, 116] (by rw [HWS.out]; rfl)).1; rw [← HWD.out] at q0; have yc := hrw.y; have p2 := (hrw.cells 2 c (by rw [HWS.out]; rfl)).1; have HBA : Hid (Below w.heap.size w (w1.alloc (.cells #[.slice (some ⟨g, 0, none⟩) 3 cap] 23))) := HB1.out.alloc HB1.out.size _; clear hrw)
      | (go_at_call 95; refine (r_any HRW.out 1 (x := b) (by rw [HWS.out]; rfl)).mono ?_; rintro e w4 ⟨rfl, hw⟩; subst w4)
      | go_in)
    go_ret
    exact ⟨rfl, HBA.out⟩
  · have hd1 : ((bA c).toList == [46]) = false := by rw [hbx]; exact beq_eq_false_iff_ne.2 hd
    have r2 : pathOk (bA c) = true := by simpa [hd] using h8
    clear h8 hd hbx
    go_enter Tryz.func44, Tryz.ntmps44
    go_wp2_with (first
      | (go_at_call 17; refine HW.out.mono ?_; rintro e w1 ⟨g, cap, rfl, HB1, hrw⟩; have HRW : Hid (RW (w1.alloc (.cells #[.slice (some ⟨g, 0, none⟩) 3 cap] 23)) w1.heap.size g 3 cap ws) := hrw; have q0 := (hrw.cells 0 [108, 105, 115, 116] (by rw [HWS.out]; rfl)).1; rw [← HWD.out] at q0; have yc := hrw.y; have p2 := (hrw.cells 2 c (by rw [HWS.out]; rfl)).1; have HBA : Hid (Below w.heap.size w (w1.alloc (.cells #[.slice (some ⟨g, 0, none⟩) 3 cap] 23))) := HB1.out.alloc HB1.out.size _; clear hrw)
      | (go_at_call 95; refine (r_any HRW.out 1 (x := b) (by rw [HWS.out]; rfl)).mono ?_; rintro e w4 ⟨rfl, hw⟩; subst w4)
      | (go_at_call 41; refine (RIsPath_any (bA c) _).mono ?_; rintro e w5 ⟨rfl, hb5⟩; have HB5 := below_low HBA.out hb5 HBA.out.size; have HBA : Hid (Below w.heap.size w w5) := HB5; clear hb5 HB5)
      | go_in)
    go_ret
    exact ⟨rfl, HBA.out⟩

theorem kf_sum {wd : ByteArray} (hwd : wd = bA [115, 117, 109]) : (wd.toList == [115, 101, 116]) = false ∧ (wd.toList == [114, 101, 97, 100]) = false ∧ (wd.toList == [108, 105, 115, 116]) = false ∧ (wd.toList == [106, 111, 105, 110]) = false ∧ (wd.toList == [99, 117, 116]) = false ∧ (wd.toList == [115, 105, 122, 101]) = false ∧ (wd.toList == [115, 117, 109]) = true ∧ (wd.toList == [109, 97, 107, 101]) = false ∧ (wd.toList == [114, 117, 110]) = false ∧ (wd.toList == [115, 97, 109, 101]) = false ∧ (wd.toList == [108, 101, 115, 115]) = false ∧ (wd.toList == [103, 111, 116, 111]) = false ∧ (wd.toList == [101, 120, 105, 116]) = false := by
  rw [hwd, Lib.toList_data]
  decide

set_option maxHeartbeats 4000000 in
set_option maxRecDepth 100000 in
theorem RL_sum_no (lines : Nat) (s : ByteArray) (w : World) (hs : s.size ≤ 100000) {rest : List (List UInt8)} (hws : wdL [] s.data.toList = [115, 117, 109] :: rest) (hn : ¬ ([115, 117, 109] :: rest).length = 2) :
    Calls Tryz.prog 44 #[.string s, .int .i64 (lines : Int)] w fun e w' => e = .returned (.bool (rigF lines s.data.toList)) ∧ Below w.heap.size w w' := by
  have hrig : rigF lines s.data.toList = false := by
    rw [rig_of hws rfl (f := [0]) rfl (by decide), decide_eq_false (by simpa using hn), Bool.false_and]
  rw [hrig]
  obtain ⟨ws, hwe⟩ : ∃ ws, [115, 117, 109] :: rest = ws := ⟨_, rfl⟩
  obtain ⟨n, hn1⟩ : ∃ n, ws.length = n := ⟨_, rfl⟩
  have HWS : Hid (ws = [115, 117, 109] :: rest) := hwe.symm
  rw [hwe] at hws hn
  rw [hn1] at hn
  have hnp : 1 ≤ n := by rw [← hn1, ← hwe]; simp
  have hnb : n ≤ 1000000 := by
    have h1 := wdL_len s.data.toList []
    have h2 : s.size = s.data.toList.length := size_of rfl
    rw [hws, hn1] at h1
    omega
  have HW := words_front s w hs hws hn1
  have HW : Hid (Calls Tryz.prog 17 #[.string s] w fun e w1 => ∃ g cap, e = .returned (.slice (some ⟨g, 0, none⟩) n cap) ∧ Hid (Below w.heap.size w w1) ∧ RW (w1.alloc (.cells #[.slice (some ⟨g, 0, none⟩) n cap] 23)) w1.heap.size g n cap ws) := HW
  obtain ⟨m, hm⟩ : ∃ m : Nat, n = m + 1 := ⟨n - 1, by omega⟩
  subst hm
  have e1 : IntKind.i64.wrap (m : Int) = (m : Int) := by rw [IntKind.wrap_i64]; omega
  have e2 : (0 : Int) < (m : Int) + 1 := by omega
  have e3 : ((m : Int) == 1) = false := by simp; omega
  obtain ⟨wd, hwd⟩ : ∃ wd, wd = bA [115, 117, 109] := ⟨_, rfl⟩
  obtain ⟨k0, k1, k2, k3, k4, k5, k6, k7, k8, k9, k10, k11, k12⟩ := kf_sum hwd
  have HWD : Hid (wd = bA [115, 117, 109]) := hwd
  clear hwd
  clear hrig hws hwe hn hn1 hnp hnb hs
  go_enter Tryz.func44, Tryz.ntmps44
  go_wp2_with (first
    | (go_at_call 17; refine HW.out.mono ?_; rintro e w1 ⟨g, cap, rfl, HB1, hrw⟩; have HRW : Hid (RW (w1.alloc (.cells #[.slice (some ⟨g, 0, none⟩) (m + 1) cap] 23)) w1.heap.size g (m + 1) cap ws) := hrw; have q0 := (hrw.cells 0 [115, 117, 109] (by rw [HWS.out]; rfl)).1; rw [← HWD.out] at q0; have yc := hrw.y; have HBA : Hid (Below w.heap.size w (w1.alloc (.cells #[.slice (some ⟨g, 0, none⟩) (m + 1) cap] 23))) := HB1.out.alloc HB1.out.size _; clear hrw)
    | go_in)
  go_ret
  exact ⟨rfl, HBA.out⟩

set_option maxHeartbeats 4000000 in
set_option maxRecDepth 100000 in
theorem RL_sum_0 (lines : Nat) (s : ByteArray) (w : World) (hs : s.size ≤ 100000) {b : List UInt8} (hws : wdL [] s.data.toList = [[115, 117, 109], b]) (h0 : okP lines 0 b = false) :
    Calls Tryz.prog 44 #[.string s, .int .i64 (lines : Int)] w fun e w' => e = .returned (.bool (rigF lines s.data.toList)) ∧ Below w.heap.size w w' := by
  have hrig : rigF lines s.data.toList = false := by
    rw [rig_of hws rfl (f := [0]) rfl (by decide)]
    simp [allP, h0]
  rw [hrig]
  obtain ⟨ws, hwe⟩ : ∃ ws, [[115, 117, 109], b] = ws := ⟨_, rfl⟩
  have hn1 : ws.length = 2 := by rw [← hwe]; rfl
  have HWS : Hid (ws = [[115, 117, 109], b]) := hwe.symm
  rw [hwe] at hws
  have HW := words_front s w hs hws hn1
  have HW : Hid (Calls Tryz.prog 17 #[.string s] w fun e w1 => ∃ g cap, e = .returned (.slice (some ⟨g, 0, none⟩) 2 cap) ∧ Hid (Below w.heap.size w w1) ∧ RW (w1.alloc (.cells #[.slice (some ⟨g, 0, none⟩) 2 cap] 23)) w1.heap.size g 2 cap ws) := HW
  obtain ⟨wd, hwd⟩ : ∃ wd, wd = bA [115, 117, 109] := ⟨_, rfl⟩
  obtain ⟨k0, k1, k2, k3, k4, k5, k6, k7, k8, k9, k10, k11, k12⟩ := kf_sum hwd
  have HWD : Hid (wd = bA [115, 117, 109]) := hwd
  clear hwd
  have r1 : (regF b).isSome = false := h0
  clear hrig hws hwe hn1 hs h0
  go_enter Tryz.func44, Tryz.ntmps44
  go_wp2_with (first
    | (go_at_call 17; refine HW.out.mono ?_; rintro e w1 ⟨g, cap, rfl, HB1, hrw⟩; have HRW : Hid (RW (w1.alloc (.cells #[.slice (some ⟨g, 0, none⟩) 2 cap] 23)) w1.heap.size g 2 cap ws) := hrw; have q0 := (hrw.cells 0 [115, 117, 109] (by rw [HWS.out]; rfl)).1; rw [← HWD.out] at q0; have yc := hrw.y; have HBA : Hid (Below w.heap.size w (w1.alloc (.cells #[.slice (some ⟨g, 0, none⟩) 2 cap] 23))) := HB1.out.alloc HB1.out.size _; clear hrw)
    | (go_at_call 95; refine (r_any HRW.out 1 (x := b) (by rw [HWS.out]; rfl)).mono ?_; rintro e w4 ⟨rfl, hw⟩; subst w4)
    | go_in)
  go_ret
  exact ⟨rfl, HBA.out⟩

set_option maxHeartbeats 4000000 in
set_option maxRecDepth 100000 in
theorem RL_sum_1 (lines : Nat) (s : ByteArray) (w : World) (hs : s.size ≤ 100000) {b : List UInt8} (hws : wdL [] s.data.toList = [[115, 117, 109], b]) (h0 : okP lines 0 b = true) :
    Calls Tryz.prog 44 #[.string s, .int .i64 (lines : Int)] w fun e w' => e = .returned (.bool (rigF lines s.data.toList)) ∧ Below w.heap.size w w' := by
  have hrig : rigF lines s.data.toList = true := by
    rw [rig_of hws rfl (f := [0]) rfl (by decide)]
    simp [allP, h0]
  rw [hrig]
  obtain ⟨ws, hwe⟩ : ∃ ws, [[115, 117, 109], b] = ws := ⟨_, rfl⟩
  have hn1 : ws.length = 2 := by rw [← hwe]; rfl
  have HWS : Hid (ws = [[115, 117, 109], b]) := hwe.symm
  rw [hwe] at hws
  have HW := words_front s w hs hws hn1
  have HW : Hid (Calls Tryz.prog 17 #[.string s] w fun e w1 => ∃ g cap, e = .returned (.slice (some ⟨g, 0, none⟩) 2 cap) ∧ Hid (Below w.heap.size w w1) ∧ RW (w1.alloc (.cells #[.slice (some ⟨g, 0, none⟩) 2 cap] 23)) w1.heap.size g 2 cap ws) := HW
  obtain ⟨wd, hwd⟩ : ∃ wd, wd = bA [115, 117, 109] := ⟨_, rfl⟩
  obtain ⟨k0, k1, k2, k3, k4, k5, k6, k7, k8, k9, k10, k11, k12⟩ := kf_sum hwd
  have HWD : Hid (wd = bA [115, 117, 109]) := hwd
  clear hwd
  have r1 : (regF b).isSome = true := h0
  clear hrig hws hwe hn1 hs h0
  go_enter Tryz.func44, Tryz.ntmps44
  go_wp2_with (first
    | (go_at_call 17; refine HW.out.mono ?_; rintro e w1 ⟨g, cap, rfl, HB1, hrw⟩; have HRW : Hid (RW (w1.alloc (.cells #[.slice (some ⟨g, 0, none⟩) 2 cap] 23)) w1.heap.size g 2 cap ws) := hrw; have q0 := (hrw.cells 0 [115, 117, 109] (by rw [HWS.out]; rfl)).1; rw [← HWD.out] at q0; have yc := hrw.y; have HBA : Hid (Below w.heap.size w (w1.alloc (.cells #[.slice (some ⟨g, 0, none⟩) 2 cap] 23))) := HB1.out.alloc HB1.out.size _; clear hrw)
    | (go_at_call 95; refine (r_any HRW.out 1 (x := b) (by rw [HWS.out]; rfl)).mono ?_; rintro e w4 ⟨rfl, hw⟩; subst w4)
    | go_in)
  go_ret
  exact ⟨rfl, HBA.out⟩
end Go.Proofs.YtapiedeekbfpnaaGreatDoor

/- The document's RightLine, by a line's first word. -/
namespace Go.Proofs.YtapiedeekbfpnaaGreatDoor
open Go.RowKit Go.Shelf

theorem kf_join {wd : ByteArray} (hwd : wd = bA [106, 111, 105, 110]) : (wd.toList == [115, 101, 116]) = false ∧ (wd.toList == [114, 101, 97, 100]) = false ∧ (wd.toList == [108, 105, 115, 116]) = false ∧ (wd.toList == [106, 111, 105, 110]) = true ∧ (wd.toList == [99, 117, 116]) = false ∧ (wd.toList == [115, 105, 122, 101]) = false ∧ (wd.toList == [115, 117, 109]) = false ∧ (wd.toList == [109, 97, 107, 101]) = false ∧ (wd.toList == [114, 117, 110]) = false ∧ (wd.toList == [115, 97, 109, 101]) = false ∧ (wd.toList == [108, 101, 115, 115]) = false ∧ (wd.toList == [103, 111, 116, 111]) = false ∧ (wd.toList == [101, 120, 105, 116]) = false := by
  rw [hwd, Lib.toList_data]
  decide

set_option maxHeartbeats 4000000 in
set_option maxRecDepth 100000 in
theorem RL_join_no (lines : Nat) (s : ByteArray) (w : World) (hs : s.size ≤ 100000) {rest : List (List UInt8)} (hws : wdL [] s.data.toList = [106, 111, 105, 110] :: rest) (hn : ¬ ([106, 111, 105, 110] :: rest).length = 3) :
    Calls Tryz.prog 44 #[.string s, .int .i64 (lines : Int)] w fun e w' => e = .returned (.bool (rigF lines s.data.toList)) ∧ Below w.heap.size w w' := by
  have hrig : rigF lines s.data.toList = false := by
    rw [rig_of hws rfl (f := [0, 1]) rfl (by decide), decide_eq_false (by simpa using hn), Bool.false_and]
  rw [hrig]
  obtain ⟨ws, hwe⟩ : ∃ ws, [106, 111, 105, 110] :: rest = ws := ⟨_, rfl⟩
  obtain ⟨n, hn1⟩ : ∃ n, ws.length = n := ⟨_, rfl⟩
  have HWS : Hid (ws = [106, 111, 105, 110] :: rest) := hwe.symm
  rw [hwe] at hws hn
  rw [hn1] at hn
  have hnp : 1 ≤ n := by rw [← hn1, ← hwe]; simp
  have hnb : n ≤ 1000000 := by
    have h1 := wdL_len s.data.toList []
    have h2 : s.size = s.data.toList.length := size_of rfl
    rw [hws, hn1] at h1
    omega
  have HW := words_front s w hs hws hn1
  have HW : Hid (Calls Tryz.prog 17 #[.string s] w fun e w1 => ∃ g cap, e = .returned (.slice (some ⟨g, 0, none⟩) n cap) ∧ Hid (Below w.heap.size w w1) ∧ RW (w1.alloc (.cells #[.slice (some ⟨g, 0, none⟩) n cap] 23)) w1.heap.size g n cap ws) := HW
  obtain ⟨m, hm⟩ : ∃ m : Nat, n = m + 1 := ⟨n - 1, by omega⟩
  subst hm
  have e1 : IntKind.i64.wrap (m : Int) = (m : Int) := by rw [IntKind.wrap_i64]; omega
  have e2 : (0 : Int) < (m : Int) + 1 := by omega
  have e3 : ((m : Int) == 2) = false := by simp; omega
  obtain ⟨wd, hwd⟩ : ∃ wd, wd = bA [106, 111, 105, 110] := ⟨_, rfl⟩
  obtain ⟨k0, k1, k2, k3, k4, k5, k6, k7, k8, k9, k10, k11, k12⟩ := kf_join hwd
  have HWD : Hid (wd = bA [106, 111, 105, 110]) := hwd
  clear hwd
  clear hrig hws hwe hn hn1 hnp hnb hs
  go_enter Tryz.func44, Tryz.ntmps44
  go_wp2_with (first
    | (go_at_call 17; refine HW.out.mono ?_; rintro e w1 ⟨g, cap, rfl, HB1, hrw⟩; have HRW : Hid (RW (w1.alloc (.cells #[.slice (some ⟨g, 0, none⟩) (m + 1) cap] 23)) w1.heap.size g (m + 1) cap ws) := hrw; have q0 := (hrw.cells 0 [106, 111, 105, 110] (by rw [HWS.out]; rfl)).1; rw [← HWD.out] at q0; have yc := hrw.y; have HBA : Hid (Below w.heap.size w (w1.alloc (.cells #[.slice (some ⟨g, 0, none⟩) (m + 1) cap] 23))) := HB1.out.alloc HB1.out.size _; clear hrw)
    | go_in)
  go_ret
  exact ⟨rfl, HBA.out⟩

set_option maxHeartbeats 4000000 in
set_option maxRecDepth 100000 in
theorem RL_join_0 (lines : Nat) (s : ByteArray) (w : World) (hs : s.size ≤ 100000) {b c : List UInt8} (hws : wdL [] s.data.toList = [[106, 111, 105, 110], b, c]) (h0 : okP lines 0 b = false) :
    Calls Tryz.prog 44 #[.string s, .int .i64 (lines : Int)] w fun e w' => e = .returned (.bool (rigF lines s.data.toList)) ∧ Below w.heap.size w w' := by
  have hrig : rigF lines s.data.toList = false := by
    rw [rig_of hws rfl (f := [0, 1]) rfl (by decide)]
    simp [allP, h0]
  rw [hrig]
  obtain ⟨ws, hwe⟩ : ∃ ws, [[106, 111, 105, 110], b, c] = ws := ⟨_, rfl⟩
  have hn1 : ws.length = 3 := by rw [← hwe]; rfl
  have HWS : Hid (ws = [[106, 111, 105, 110], b, c]) := hwe.symm
  rw [hwe] at hws
  have HW := words_front s w hs hws hn1
  have HW : Hid (Calls Tryz.prog 17 #[.string s] w fun e w1 => ∃ g cap, e = .returned (.slice (some ⟨g, 0, none⟩) 3 cap) ∧ Hid (Below w.heap.size w w1) ∧ RW (w1.alloc (.cells #[.slice (some ⟨g, 0, none⟩) 3 cap] 23)) w1.heap.size g 3 cap ws) := HW
  obtain ⟨wd, hwd⟩ : ∃ wd, wd = bA [106, 111, 105, 110] := ⟨_, rfl⟩
  obtain ⟨k0, k1, k2, k3, k4, k5, k6, k7, k8, k9, k10, k11, k12⟩ := kf_join hwd
  have HWD : Hid (wd = bA [106, 111, 105, 110]) := hwd
  clear hwd
  have r1 : (regF b).isSome = false := h0
  clear hrig hws hwe hn1 hs h0
  go_enter Tryz.func44, Tryz.ntmps44
  go_wp2_with (first
    | (go_at_call 17; refine HW.out.mono ?_; rintro e w1 ⟨g, cap, rfl, HB1, hrw⟩; have HRW : Hid (RW (w1.alloc (.cells #[.slice (some ⟨g, 0, none⟩) 3 cap] 23)) w1.heap.size g 3 cap ws) := hrw; have q0 := (hrw.cells 0 [106, 111, 105, 110] (by rw [HWS.out]; rfl)).1; rw [← HWD.out] at q0; have yc := hrw.y; have HBA : Hid (Below w.heap.size w (w1.alloc (.cells #[.slice (some ⟨g, 0, none⟩) 3 cap] 23))) := HB1.out.alloc HB1.out.size _; clear hrw)
    | (go_at_call 95; refine (r_any HRW.out 1 (x := b) (by rw [HWS.out]; rfl)).mono ?_; rintro e w4 ⟨rfl, hw⟩; subst w4)
    | go_in)
  go_ret
  exact ⟨rfl, HBA.out⟩

set_option maxHeartbeats 4000000 in
set_option maxRecDepth 100000 in
theorem RL_join_1 (lines : Nat) (s : ByteArray) (w : World) (hs : s.size ≤ 100000) {b c : List UInt8} (hws : wdL [] s.data.toList = [[106, 111, 105, 110], b, c]) (h0 : okP lines 0 b = true) (h1 : okP lines 1 c = false) :
    Calls Tryz.prog 44 #[.string s, .int .i64 (lines : Int)] w fun e w' => e = .returned (.bool (rigF lines s.data.toList)) ∧ Below w.heap.size w w' := by
  have hrig : rigF lines s.data.toList = false := by
    rw [rig_of hws rfl (f := [0, 1]) rfl (by decide)]
    simp [allP, h0, h1]
  rw [hrig]
  obtain ⟨ws, hwe⟩ : ∃ ws, [[106, 111, 105, 110], b, c] = ws := ⟨_, rfl⟩
  have hn1 : ws.length = 3 := by rw [← hwe]; rfl
  have HWS : Hid (ws = [[106, 111, 105, 110], b, c]) := hwe.symm
  rw [hwe] at hws
  have HW := words_front s w hs hws hn1
  have HW : Hid (Calls Tryz.prog 17 #[.string s] w fun e w1 => ∃ g cap, e = .returned (.slice (some ⟨g, 0, none⟩) 3 cap) ∧ Hid (Below w.heap.size w w1) ∧ RW (w1.alloc (.cells #[.slice (some ⟨g, 0, none⟩) 3 cap] 23)) w1.heap.size g 3 cap ws) := HW
  obtain ⟨wd, hwd⟩ : ∃ wd, wd = bA [106, 111, 105, 110] := ⟨_, rfl⟩
  obtain ⟨k0, k1, k2, k3, k4, k5, k6, k7, k8, k9, k10, k11, k12⟩ := kf_join hwd
  have HWD : Hid (wd = bA [106, 111, 105, 110]) := hwd
  clear hwd
  have r1 : (regF b).isSome = true := h0
  have r2 : (regF c).isSome = false := h1
  clear hrig hws hwe hn1 hs h0 h1
  go_enter Tryz.func44, Tryz.ntmps44
  go_wp2_with (first
    | (go_at_call 17; refine HW.out.mono ?_; rintro e w1 ⟨g, cap, rfl, HB1, hrw⟩; have HRW : Hid (RW (w1.alloc (.cells #[.slice (some ⟨g, 0, none⟩) 3 cap] 23)) w1.heap.size g 3 cap ws) := hrw; have q0 := (hrw.cells 0 [106, 111, 105, 110] (by rw [HWS.out]; rfl)).1; rw [← HWD.out] at q0; have yc := hrw.y; have HBA : Hid (Below w.heap.size w (w1.alloc (.cells #[.slice (some ⟨g, 0, none⟩) 3 cap] 23))) := HB1.out.alloc HB1.out.size _; clear hrw)
    | (go_at_call 95; refine (r_any HRW.out 1 (x := b) (by rw [HWS.out]; rfl)).mono ?_; rintro e w4 ⟨rfl, hw⟩; subst w4)
    | (go_at_call 95; refine (r_any HRW.out 2 (x := c) (by rw [HWS.out]; rfl)).mono ?_; rintro e w4 ⟨rfl, hw⟩; subst w4)
    | go_in)
  go_ret
  exact ⟨rfl, HBA.out⟩

set_option maxHeartbeats 4000000 in
set_option maxRecDepth 100000 in
theorem RL_join_2 (lines : Nat) (s : ByteArray) (w : World) (hs : s.size ≤ 100000) {b c : List UInt8} (hws : wdL [] s.data.toList = [[106, 111, 105, 110], b, c]) (h0 : okP lines 0 b = true) (h1 : okP lines 1 c = true) :
    Calls Tryz.prog 44 #[.string s, .int .i64 (lines : Int)] w fun e w' => e = .returned (.bool (rigF lines s.data.toList)) ∧ Below w.heap.size w w' := by
  have hrig : rigF lines s.data.toList = true := by
    rw [rig_of hws rfl (f := [0, 1]) rfl (by decide)]
    simp [allP, h0, h1]
  rw [hrig]
  obtain ⟨ws, hwe⟩ : ∃ ws, [[106, 111, 105, 110], b, c] = ws := ⟨_, rfl⟩
  have hn1 : ws.length = 3 := by rw [← hwe]; rfl
  have HWS : Hid (ws = [[106, 111, 105, 110], b, c]) := hwe.symm
  rw [hwe] at hws
  have HW := words_front s w hs hws hn1
  have HW : Hid (Calls Tryz.prog 17 #[.string s] w fun e w1 => ∃ g cap, e = .returned (.slice (some ⟨g, 0, none⟩) 3 cap) ∧ Hid (Below w.heap.size w w1) ∧ RW (w1.alloc (.cells #[.slice (some ⟨g, 0, none⟩) 3 cap] 23)) w1.heap.size g 3 cap ws) := HW
  obtain ⟨wd, hwd⟩ : ∃ wd, wd = bA [106, 111, 105, 110] := ⟨_, rfl⟩
  obtain ⟨k0, k1, k2, k3, k4, k5, k6, k7, k8, k9, k10, k11, k12⟩ := kf_join hwd
  have HWD : Hid (wd = bA [106, 111, 105, 110]) := hwd
  clear hwd
  have r1 : (regF b).isSome = true := h0
  have r2 : (regF c).isSome = true := h1
  clear hrig hws hwe hn1 hs h0 h1
  go_enter Tryz.func44, Tryz.ntmps44
  go_wp2_with (first
    | (go_at_call 17; refine HW.out.mono ?_; rintro e w1 ⟨g, cap, rfl, HB1, hrw⟩; have HRW : Hid (RW (w1.alloc (.cells #[.slice (some ⟨g, 0, none⟩) 3 cap] 23)) w1.heap.size g 3 cap ws) := hrw; have q0 := (hrw.cells 0 [106, 111, 105, 110] (by rw [HWS.out]; rfl)).1; rw [← HWD.out] at q0; have yc := hrw.y; have HBA : Hid (Below w.heap.size w (w1.alloc (.cells #[.slice (some ⟨g, 0, none⟩) 3 cap] 23))) := HB1.out.alloc HB1.out.size _; clear hrw)
    | (go_at_call 95; refine (r_any HRW.out 1 (x := b) (by rw [HWS.out]; rfl)).mono ?_; rintro e w4 ⟨rfl, hw⟩; subst w4)
    | (go_at_call 95; refine (r_any HRW.out 2 (x := c) (by rw [HWS.out]; rfl)).mono ?_; rintro e w4 ⟨rfl, hw⟩; subst w4)
    | go_in)
  go_ret
  exact ⟨rfl, HBA.out⟩

theorem kf_size {wd : ByteArray} (hwd : wd = bA [115, 105, 122, 101]) : (wd.toList == [115, 101, 116]) = false ∧ (wd.toList == [114, 101, 97, 100]) = false ∧ (wd.toList == [108, 105, 115, 116]) = false ∧ (wd.toList == [106, 111, 105, 110]) = false ∧ (wd.toList == [99, 117, 116]) = false ∧ (wd.toList == [115, 105, 122, 101]) = true ∧ (wd.toList == [115, 117, 109]) = false ∧ (wd.toList == [109, 97, 107, 101]) = false ∧ (wd.toList == [114, 117, 110]) = false ∧ (wd.toList == [115, 97, 109, 101]) = false ∧ (wd.toList == [108, 101, 115, 115]) = false ∧ (wd.toList == [103, 111, 116, 111]) = false ∧ (wd.toList == [101, 120, 105, 116]) = false := by
  rw [hwd, Lib.toList_data]
  decide

set_option maxHeartbeats 4000000 in
set_option maxRecDepth 100000 in
theorem RL_size_no (lines : Nat) (s : ByteArray) (w : World) (hs : s.size ≤ 100000) {rest : List (List UInt8)} (hws : wdL [] s.data.toList = [115, 105, 122, 101] :: rest) (hn : ¬ ([115, 105, 122, 101] :: rest).length = 3) :
    Calls Tryz.prog 44 #[.string s, .int .i64 (lines : Int)] w fun e w' => e = .returned (.bool (rigF lines s.data.toList)) ∧ Below w.heap.size w w' := by
  have hrig : rigF lines s.data.toList = false := by
    rw [rig_of hws rfl (f := [0, 1]) rfl (by decide), decide_eq_false (by simpa using hn), Bool.false_and]
  rw [hrig]
  obtain ⟨ws, hwe⟩ : ∃ ws, [115, 105, 122, 101] :: rest = ws := ⟨_, rfl⟩
  obtain ⟨n, hn1⟩ : ∃ n, ws.length = n := ⟨_, rfl⟩
  have HWS : Hid (ws = [115, 105, 122, 101] :: rest) := hwe.symm
  rw [hwe] at hws hn
  rw [hn1] at hn
  have hnp : 1 ≤ n := by rw [← hn1, ← hwe]; simp
  have hnb : n ≤ 1000000 := by
    have h1 := wdL_len s.data.toList []
    have h2 : s.size = s.data.toList.length := size_of rfl
    rw [hws, hn1] at h1
    omega
  have HW := words_front s w hs hws hn1
  have HW : Hid (Calls Tryz.prog 17 #[.string s] w fun e w1 => ∃ g cap, e = .returned (.slice (some ⟨g, 0, none⟩) n cap) ∧ Hid (Below w.heap.size w w1) ∧ RW (w1.alloc (.cells #[.slice (some ⟨g, 0, none⟩) n cap] 23)) w1.heap.size g n cap ws) := HW
  obtain ⟨m, hm⟩ : ∃ m : Nat, n = m + 1 := ⟨n - 1, by omega⟩
  subst hm
  have e1 : IntKind.i64.wrap (m : Int) = (m : Int) := by rw [IntKind.wrap_i64]; omega
  have e2 : (0 : Int) < (m : Int) + 1 := by omega
  have e3 : ((m : Int) == 2) = false := by simp; omega
  obtain ⟨wd, hwd⟩ : ∃ wd, wd = bA [115, 105, 122, 101] := ⟨_, rfl⟩
  obtain ⟨k0, k1, k2, k3, k4, k5, k6, k7, k8, k9, k10, k11, k12⟩ := kf_size hwd
  have HWD : Hid (wd = bA [115, 105, 122, 101]) := hwd
  clear hwd
  clear hrig hws hwe hn hn1 hnp hnb hs
  go_enter Tryz.func44, Tryz.ntmps44
  go_wp2_with (first
    | (go_at_call 17; refine HW.out.mono ?_; rintro e w1 ⟨g, cap, rfl, HB1, hrw⟩; have HRW : Hid (RW (w1.alloc (.cells #[.slice (some ⟨g, 0, none⟩) (m + 1) cap] 23)) w1.heap.size g (m + 1) cap ws) := hrw; have q0 := (hrw.cells 0 [115, 105, 122, 101] (by rw [HWS.out]; rfl)).1; rw [← HWD.out] at q0; have yc := hrw.y; have HBA : Hid (Below w.heap.size w (w1.alloc (.cells #[.slice (some ⟨g, 0, none⟩) (m + 1) cap] 23))) := HB1.out.alloc HB1.out.size _; clear hrw)
    | go_in)
  go_ret
  exact ⟨rfl, HBA.out⟩

set_option maxHeartbeats 4000000 in
set_option maxRecDepth 100000 in
theorem RL_size_0 (lines : Nat) (s : ByteArray) (w : World) (hs : s.size ≤ 100000) {b c : List UInt8} (hws : wdL [] s.data.toList = [[115, 105, 122, 101], b, c]) (h0 : okP lines 0 b = false) :
    Calls Tryz.prog 44 #[.string s, .int .i64 (lines : Int)] w fun e w' => e = .returned (.bool (rigF lines s.data.toList)) ∧ Below w.heap.size w w' := by
  have hrig : rigF lines s.data.toList = false := by
    rw [rig_of hws rfl (f := [0, 1]) rfl (by decide)]
    simp [allP, h0]
  rw [hrig]
  obtain ⟨ws, hwe⟩ : ∃ ws, [[115, 105, 122, 101], b, c] = ws := ⟨_, rfl⟩
  have hn1 : ws.length = 3 := by rw [← hwe]; rfl
  have HWS : Hid (ws = [[115, 105, 122, 101], b, c]) := hwe.symm
  rw [hwe] at hws
  have HW := words_front s w hs hws hn1
  have HW : Hid (Calls Tryz.prog 17 #[.string s] w fun e w1 => ∃ g cap, e = .returned (.slice (some ⟨g, 0, none⟩) 3 cap) ∧ Hid (Below w.heap.size w w1) ∧ RW (w1.alloc (.cells #[.slice (some ⟨g, 0, none⟩) 3 cap] 23)) w1.heap.size g 3 cap ws) := HW
  obtain ⟨wd, hwd⟩ : ∃ wd, wd = bA [115, 105, 122, 101] := ⟨_, rfl⟩
  obtain ⟨k0, k1, k2, k3, k4, k5, k6, k7, k8, k9, k10, k11, k12⟩ := kf_size hwd
  have HWD : Hid (wd = bA [115, 105, 122, 101]) := hwd
  clear hwd
  have r1 : (regF b).isSome = false := h0
  clear hrig hws hwe hn1 hs h0
  go_enter Tryz.func44, Tryz.ntmps44
  go_wp2_with (first
    | (go_at_call 17; refine HW.out.mono ?_; rintro e w1 ⟨g, cap, rfl, HB1, hrw⟩; have HRW : Hid (RW (w1.alloc (.cells #[.slice (some ⟨g, 0, none⟩) 3 cap] 23)) w1.heap.size g 3 cap ws) := hrw; have q0 := (hrw.cells 0 [115, 105, 122, 101] (by rw [HWS.out]; rfl)).1; rw [← HWD.out] at q0; have yc := hrw.y; have HBA : Hid (Below w.heap.size w (w1.alloc (.cells #[.slice (some ⟨g, 0, none⟩) 3 cap] 23))) := HB1.out.alloc HB1.out.size _; clear hrw)
    | (go_at_call 95; refine (r_any HRW.out 1 (x := b) (by rw [HWS.out]; rfl)).mono ?_; rintro e w4 ⟨rfl, hw⟩; subst w4)
    | go_in)
  go_ret
  exact ⟨rfl, HBA.out⟩

set_option maxHeartbeats 4000000 in
set_option maxRecDepth 100000 in
theorem RL_size_1 (lines : Nat) (s : ByteArray) (w : World) (hs : s.size ≤ 100000) {b c : List UInt8} (hws : wdL [] s.data.toList = [[115, 105, 122, 101], b, c]) (h0 : okP lines 0 b = true) (h1 : okP lines 1 c = false) :
    Calls Tryz.prog 44 #[.string s, .int .i64 (lines : Int)] w fun e w' => e = .returned (.bool (rigF lines s.data.toList)) ∧ Below w.heap.size w w' := by
  have hrig : rigF lines s.data.toList = false := by
    rw [rig_of hws rfl (f := [0, 1]) rfl (by decide)]
    simp [allP, h0, h1]
  rw [hrig]
  obtain ⟨ws, hwe⟩ : ∃ ws, [[115, 105, 122, 101], b, c] = ws := ⟨_, rfl⟩
  have hn1 : ws.length = 3 := by rw [← hwe]; rfl
  have HWS : Hid (ws = [[115, 105, 122, 101], b, c]) := hwe.symm
  rw [hwe] at hws
  have HW := words_front s w hs hws hn1
  have HW : Hid (Calls Tryz.prog 17 #[.string s] w fun e w1 => ∃ g cap, e = .returned (.slice (some ⟨g, 0, none⟩) 3 cap) ∧ Hid (Below w.heap.size w w1) ∧ RW (w1.alloc (.cells #[.slice (some ⟨g, 0, none⟩) 3 cap] 23)) w1.heap.size g 3 cap ws) := HW
  obtain ⟨wd, hwd⟩ : ∃ wd, wd = bA [115, 105, 122, 101] := ⟨_, rfl⟩
  obtain ⟨k0, k1, k2, k3, k4, k5, k6, k7, k8, k9, k10, k11, k12⟩ := kf_size hwd
  have HWD : Hid (wd = bA [115, 105, 122, 101]) := hwd
  clear hwd
  have r1 : (regF b).isSome = true := h0
  have r2 : (regF c).isSome = false := h1
  clear hrig hws hwe hn1 hs h0 h1
  go_enter Tryz.func44, Tryz.ntmps44
  go_wp2_with (first
    | (go_at_call 17; refine HW.out.mono ?_; rintro e w1 ⟨g, cap, rfl, HB1, hrw⟩; have HRW : Hid (RW (w1.alloc (.cells #[.slice (some ⟨g, 0, none⟩) 3 cap] 23)) w1.heap.size g 3 cap ws) := hrw; have q0 := (hrw.cells 0 [115, 105, 122, 101] (by rw [HWS.out]; rfl)).1; rw [← HWD.out] at q0; have yc := hrw.y; have HBA : Hid (Below w.heap.size w (w1.alloc (.cells #[.slice (some ⟨g, 0, none⟩) 3 cap] 23))) := HB1.out.alloc HB1.out.size _; clear hrw)
    | (go_at_call 95; refine (r_any HRW.out 1 (x := b) (by rw [HWS.out]; rfl)).mono ?_; rintro e w4 ⟨rfl, hw⟩; subst w4)
    | (go_at_call 95; refine (r_any HRW.out 2 (x := c) (by rw [HWS.out]; rfl)).mono ?_; rintro e w4 ⟨rfl, hw⟩; subst w4)
    | go_in)
  go_ret
  exact ⟨rfl, HBA.out⟩

set_option maxHeartbeats 4000000 in
set_option maxRecDepth 100000 in
theorem RL_size_2 (lines : Nat) (s : ByteArray) (w : World) (hs : s.size ≤ 100000) {b c : List UInt8} (hws : wdL [] s.data.toList = [[115, 105, 122, 101], b, c]) (h0 : okP lines 0 b = true) (h1 : okP lines 1 c = true) :
    Calls Tryz.prog 44 #[.string s, .int .i64 (lines : Int)] w fun e w' => e = .returned (.bool (rigF lines s.data.toList)) ∧ Below w.heap.size w w' := by
  have hrig : rigF lines s.data.toList = true := by
    rw [rig_of hws rfl (f := [0, 1]) rfl (by decide)]
    simp [allP, h0, h1]
  rw [hrig]
  obtain ⟨ws, hwe⟩ : ∃ ws, [[115, 105, 122, 101], b, c] = ws := ⟨_, rfl⟩
  have hn1 : ws.length = 3 := by rw [← hwe]; rfl
  have HWS : Hid (ws = [[115, 105, 122, 101], b, c]) := hwe.symm
  rw [hwe] at hws
  have HW := words_front s w hs hws hn1
  have HW : Hid (Calls Tryz.prog 17 #[.string s] w fun e w1 => ∃ g cap, e = .returned (.slice (some ⟨g, 0, none⟩) 3 cap) ∧ Hid (Below w.heap.size w w1) ∧ RW (w1.alloc (.cells #[.slice (some ⟨g, 0, none⟩) 3 cap] 23)) w1.heap.size g 3 cap ws) := HW
  obtain ⟨wd, hwd⟩ : ∃ wd, wd = bA [115, 105, 122, 101] := ⟨_, rfl⟩
  obtain ⟨k0, k1, k2, k3, k4, k5, k6, k7, k8, k9, k10, k11, k12⟩ := kf_size hwd
  have HWD : Hid (wd = bA [115, 105, 122, 101]) := hwd
  clear hwd
  have r1 : (regF b).isSome = true := h0
  have r2 : (regF c).isSome = true := h1
  clear hrig hws hwe hn1 hs h0 h1
  go_enter Tryz.func44, Tryz.ntmps44
  go_wp2_with (first
    | (go_at_call 17; refine HW.out.mono ?_; rintro e w1 ⟨g, cap, rfl, HB1, hrw⟩; have HRW : Hid (RW (w1.alloc (.cells #[.slice (some ⟨g, 0, none⟩) 3 cap] 23)) w1.heap.size g 3 cap ws) := hrw; have q0 := (hrw.cells 0 [115, 105, 122, 101] (by rw [HWS.out]; rfl)).1; rw [← HWD.out] at q0; have yc := hrw.y; have HBA : Hid (Below w.heap.size w (w1.alloc (.cells #[.slice (some ⟨g, 0, none⟩) 3 cap] 23))) := HB1.out.alloc HB1.out.size _; clear hrw)
    | (go_at_call 95; refine (r_any HRW.out 1 (x := b) (by rw [HWS.out]; rfl)).mono ?_; rintro e w4 ⟨rfl, hw⟩; subst w4)
    | (go_at_call 95; refine (r_any HRW.out 2 (x := c) (by rw [HWS.out]; rfl)).mono ?_; rintro e w4 ⟨rfl, hw⟩; subst w4)
    | go_in)
  go_ret
  exact ⟨rfl, HBA.out⟩

theorem kf_goto {wd : ByteArray} (hwd : wd = bA [103, 111, 116, 111]) : (wd.toList == [115, 101, 116]) = false ∧ (wd.toList == [114, 101, 97, 100]) = false ∧ (wd.toList == [108, 105, 115, 116]) = false ∧ (wd.toList == [106, 111, 105, 110]) = false ∧ (wd.toList == [99, 117, 116]) = false ∧ (wd.toList == [115, 105, 122, 101]) = false ∧ (wd.toList == [115, 117, 109]) = false ∧ (wd.toList == [109, 97, 107, 101]) = false ∧ (wd.toList == [114, 117, 110]) = false ∧ (wd.toList == [115, 97, 109, 101]) = false ∧ (wd.toList == [108, 101, 115, 115]) = false ∧ (wd.toList == [103, 111, 116, 111]) = true ∧ (wd.toList == [101, 120, 105, 116]) = false := by
  rw [hwd, Lib.toList_data]
  decide

set_option maxHeartbeats 4000000 in
set_option maxRecDepth 100000 in
theorem RL_goto_no (lines : Nat) (s : ByteArray) (w : World) (hs : s.size ≤ 100000) {rest : List (List UInt8)} (hws : wdL [] s.data.toList = [103, 111, 116, 111] :: rest) (hn : ¬ ([103, 111, 116, 111] :: rest).length = 2) :
    Calls Tryz.prog 44 #[.string s, .int .i64 (lines : Int)] w fun e w' => e = .returned (.bool (rigF lines s.data.toList)) ∧ Below w.heap.size w w' := by
  have hrig : rigF lines s.data.toList = false := by
    rw [rig_of hws rfl (f := [4]) rfl (by decide), decide_eq_false (by simpa using hn), Bool.false_and]
  rw [hrig]
  obtain ⟨ws, hwe⟩ : ∃ ws, [103, 111, 116, 111] :: rest = ws := ⟨_, rfl⟩
  obtain ⟨n, hn1⟩ : ∃ n, ws.length = n := ⟨_, rfl⟩
  have HWS : Hid (ws = [103, 111, 116, 111] :: rest) := hwe.symm
  rw [hwe] at hws hn
  rw [hn1] at hn
  have hnp : 1 ≤ n := by rw [← hn1, ← hwe]; simp
  have hnb : n ≤ 1000000 := by
    have h1 := wdL_len s.data.toList []
    have h2 : s.size = s.data.toList.length := size_of rfl
    rw [hws, hn1] at h1
    omega
  have HW := words_front s w hs hws hn1
  have HW : Hid (Calls Tryz.prog 17 #[.string s] w fun e w1 => ∃ g cap, e = .returned (.slice (some ⟨g, 0, none⟩) n cap) ∧ Hid (Below w.heap.size w w1) ∧ RW (w1.alloc (.cells #[.slice (some ⟨g, 0, none⟩) n cap] 23)) w1.heap.size g n cap ws) := HW
  obtain ⟨m, hm⟩ : ∃ m : Nat, n = m + 1 := ⟨n - 1, by omega⟩
  subst hm
  have e1 : IntKind.i64.wrap (m : Int) = (m : Int) := by rw [IntKind.wrap_i64]; omega
  have e2 : (0 : Int) < (m : Int) + 1 := by omega
  have e3 : ((m : Int) == 1) = false := by simp; omega
  obtain ⟨wd, hwd⟩ : ∃ wd, wd = bA [103, 111, 116, 111] := ⟨_, rfl⟩
  obtain ⟨k0, k1, k2, k3, k4, k5, k6, k7, k8, k9, k10, k11, k12⟩ := kf_goto hwd
  have HWD : Hid (wd = bA [103, 111, 116, 111]) := hwd
  clear hwd
  clear hrig hws hwe hn hn1 hnp hnb hs
  go_enter Tryz.func44, Tryz.ntmps44
  go_wp2_with (first
    | (go_at_call 17; refine HW.out.mono ?_; rintro e w1 ⟨g, cap, rfl, HB1, hrw⟩; have HRW : Hid (RW (w1.alloc (.cells #[.slice (some ⟨g, 0, none⟩) (m + 1) cap] 23)) w1.heap.size g (m + 1) cap ws) := hrw; have q0 := (hrw.cells 0 [103, 111, 116, 111] (by rw [HWS.out]; rfl)).1; rw [← HWD.out] at q0; have yc := hrw.y; have HBA : Hid (Below w.heap.size w (w1.alloc (.cells #[.slice (some ⟨g, 0, none⟩) (m + 1) cap] 23))) := HB1.out.alloc HB1.out.size _; clear hrw)
    | go_in)
  go_ret
  exact ⟨rfl, HBA.out⟩

set_option maxHeartbeats 4000000 in
set_option maxRecDepth 100000 in
theorem RL_goto_0 (lines : Nat) (s : ByteArray) (w : World) (hs : s.size ≤ 100000) {b : List UInt8} (hws : wdL [] s.data.toList = [[103, 111, 116, 111], b]) (h0 : okP lines 4 b = false) :
    Calls Tryz.prog 44 #[.string s, .int .i64 (lines : Int)] w fun e w' => e = .returned (.bool (rigF lines s.data.toList)) ∧ Below w.heap.size w w' := by
  have hrig : rigF lines s.data.toList = false := by
    rw [rig_of hws rfl (f := [4]) rfl (by decide)]
    simp [allP, h0]
  rw [hrig]
  obtain ⟨ws, hwe⟩ : ∃ ws, [[103, 111, 116, 111], b] = ws := ⟨_, rfl⟩
  have hn1 : ws.length = 2 := by rw [← hwe]; rfl
  have HWS : Hid (ws = [[103, 111, 116, 111], b]) := hwe.symm
  rw [hwe] at hws
  have HW := words_front s w hs hws hn1
  have HW : Hid (Calls Tryz.prog 17 #[.string s] w fun e w1 => ∃ g cap, e = .returned (.slice (some ⟨g, 0, none⟩) 2 cap) ∧ Hid (Below w.heap.size w w1) ∧ RW (w1.alloc (.cells #[.slice (some ⟨g, 0, none⟩) 2 cap] 23)) w1.heap.size g 2 cap ws) := HW
  obtain ⟨wd, hwd⟩ : ∃ wd, wd = bA [103, 111, 116, 111] := ⟨_, rfl⟩
  obtain ⟨k0, k1, k2, k3, k4, k5, k6, k7, k8, k9, k10, k11, k12⟩ := kf_goto hwd
  have HWD : Hid (wd = bA [103, 111, 116, 111]) := hwd
  clear hwd
  rw [okP_num lines 4 b lines (.inr (.inr (.inl ⟨rfl, rfl⟩)))] at h0
  have HZ1 : Hid (nmbF (bA b).data.toList ((lines : Nat) : Int) = -1) := nmb_neg (by simpa using h0)
  have HN1 : Hid (∀ W, Calls Tryz.prog 46 #[.string (bA b), .int .i64 (lines : Int)] W fun e w' => e = .returned (.int .i64 (-1)) ∧ w' = W) := fun W => by
    have h := NumberOf_any (bA b) lines W (wd_size hs hws (by rw [HWS.out]; simp))
    rw [HZ1.out] at h
    exact h
  obtain ⟨x1, hx1⟩ : ∃ x, x = bA b := ⟨_, rfl⟩
  rw [← hx1] at HN1
  have HX1 : Hid (x1 = bA b) := hx1
  clear hx1
  clear hrig hws hwe hn1 hs h0
  go_enter Tryz.func44, Tryz.ntmps44
  go_wp2_with (first
    | (go_at_call 17; refine HW.out.mono ?_; rintro e w1 ⟨g, cap, rfl, HB1, hrw⟩; have HRW : Hid (RW (w1.alloc (.cells #[.slice (some ⟨g, 0, none⟩) 2 cap] 23)) w1.heap.size g 2 cap ws) := hrw; have q0 := (hrw.cells 0 [103, 111, 116, 111] (by rw [HWS.out]; rfl)).1; rw [← HWD.out] at q0; have yc := hrw.y; have p1 := (hrw.cells 1 b (by rw [HWS.out]; rfl)).1; rw [← HX1.out] at p1; have HBA : Hid (Below w.heap.size w (w1.alloc (.cells #[.slice (some ⟨g, 0, none⟩) 2 cap] 23))) := HB1.out.alloc HB1.out.size _; clear hrw)
    | (go_at_call 46; with_reducible refine (HN1.out _).mono ?_; rintro e w4 ⟨rfl, hw⟩; subst w4)
    | go_in)
  go_ret
  exact ⟨rfl, HBA.out⟩

set_option maxHeartbeats 4000000 in
set_option maxRecDepth 100000 in
theorem RL_goto_1 (lines : Nat) (s : ByteArray) (w : World) (hs : s.size ≤ 100000) {b : List UInt8} (hws : wdL [] s.data.toList = [[103, 111, 116, 111], b]) (h0 : okP lines 4 b = true) :
    Calls Tryz.prog 44 #[.string s, .int .i64 (lines : Int)] w fun e w' => e = .returned (.bool (rigF lines s.data.toList)) ∧ Below w.heap.size w w' := by
  have hrig : rigF lines s.data.toList = true := by
    rw [rig_of hws rfl (f := [4]) rfl (by decide)]
    simp [allP, h0]
  rw [hrig]
  obtain ⟨ws, hwe⟩ : ∃ ws, [[103, 111, 116, 111], b] = ws := ⟨_, rfl⟩
  have hn1 : ws.length = 2 := by rw [← hwe]; rfl
  have HWS : Hid (ws = [[103, 111, 116, 111], b]) := hwe.symm
  rw [hwe] at hws
  have HW := words_front s w hs hws hn1
  have HW : Hid (Calls Tryz.prog 17 #[.string s] w fun e w1 => ∃ g cap, e = .returned (.slice (some ⟨g, 0, none⟩) 2 cap) ∧ Hid (Below w.heap.size w w1) ∧ RW (w1.alloc (.cells #[.slice (some ⟨g, 0, none⟩) 2 cap] 23)) w1.heap.size g 2 cap ws) := HW
  obtain ⟨wd, hwd⟩ : ∃ wd, wd = bA [103, 111, 116, 111] := ⟨_, rfl⟩
  obtain ⟨k0, k1, k2, k3, k4, k5, k6, k7, k8, k9, k10, k11, k12⟩ := kf_goto hwd
  have HWD : Hid (wd = bA [103, 111, 116, 111]) := hwd
  clear hwd
  rw [okP_num lines 4 b lines (.inr (.inr (.inl ⟨rfl, rfl⟩)))] at h0
  obtain ⟨z1, hz1⟩ : ∃ z, nmbF (bA b).data.toList ((lines : Nat) : Int) = z := ⟨_, rfl⟩
  rw [hz1] at h0
  have HZ1 : Hid (nmbF (bA b).data.toList ((lines : Nat) : Int) = z1) := hz1
  clear hz1
  have g1 : (0 : Int) ≤ z1 := by simpa using h0
  have HN1 : Hid (∀ W, Calls Tryz.prog 46 #[.string (bA b), .int .i64 (lines : Int)] W fun e w' => e = .returned (.int .i64 z1) ∧ w' = W) := fun W => by
    have h := NumberOf_any (bA b) lines W (wd_size hs hws (by rw [HWS.out]; simp))
    rw [HZ1.out] at h
    exact h
  obtain ⟨x1, hx1⟩ : ∃ x, x = bA b := ⟨_, rfl⟩
  rw [← hx1] at HN1
  have HX1 : Hid (x1 = bA b) := hx1
  clear hx1
  clear hrig hws hwe hn1 hs h0
  go_enter Tryz.func44, Tryz.ntmps44
  go_wp2_with (first
    | (go_at_call 17; refine HW.out.mono ?_; rintro e w1 ⟨g, cap, rfl, HB1, hrw⟩; have HRW : Hid (RW (w1.alloc (.cells #[.slice (some ⟨g, 0, none⟩) 2 cap] 23)) w1.heap.size g 2 cap ws) := hrw; have q0 := (hrw.cells 0 [103, 111, 116, 111] (by rw [HWS.out]; rfl)).1; rw [← HWD.out] at q0; have yc := hrw.y; have p1 := (hrw.cells 1 b (by rw [HWS.out]; rfl)).1; rw [← HX1.out] at p1; have HBA : Hid (Below w.heap.size w (w1.alloc (.cells #[.slice (some ⟨g, 0, none⟩) 2 cap] 23))) := HB1.out.alloc HB1.out.size _; clear hrw)
    | (go_at_call 46; with_reducible refine (HN1.out _).mono ?_; rintro e w4 ⟨rfl, hw⟩; subst w4)
    | go_in)
  go_ret
  exact ⟨rfl, HBA.out⟩

theorem kf_exit {wd : ByteArray} (hwd : wd = bA [101, 120, 105, 116]) : (wd.toList == [115, 101, 116]) = false ∧ (wd.toList == [114, 101, 97, 100]) = false ∧ (wd.toList == [108, 105, 115, 116]) = false ∧ (wd.toList == [106, 111, 105, 110]) = false ∧ (wd.toList == [99, 117, 116]) = false ∧ (wd.toList == [115, 105, 122, 101]) = false ∧ (wd.toList == [115, 117, 109]) = false ∧ (wd.toList == [109, 97, 107, 101]) = false ∧ (wd.toList == [114, 117, 110]) = false ∧ (wd.toList == [115, 97, 109, 101]) = false ∧ (wd.toList == [108, 101, 115, 115]) = false ∧ (wd.toList == [103, 111, 116, 111]) = false ∧ (wd.toList == [101, 120, 105, 116]) = true := by
  rw [hwd, Lib.toList_data]
  decide

set_option maxHeartbeats 4000000 in
set_option maxRecDepth 100000 in
theorem RL_exit_no (lines : Nat) (s : ByteArray) (w : World) (hs : s.size ≤ 100000) {rest : List (List UInt8)} (hws : wdL [] s.data.toList = [101, 120, 105, 116] :: rest) (hn : ¬ ([101, 120, 105, 116] :: rest).length = 2) :
    Calls Tryz.prog 44 #[.string s, .int .i64 (lines : Int)] w fun e w' => e = .returned (.bool (rigF lines s.data.toList)) ∧ Below w.heap.size w w' := by
  have hrig : rigF lines s.data.toList = false := by
    rw [rig_of hws rfl (f := [5]) rfl (by decide), decide_eq_false (by simpa using hn), Bool.false_and]
  rw [hrig]
  obtain ⟨ws, hwe⟩ : ∃ ws, [101, 120, 105, 116] :: rest = ws := ⟨_, rfl⟩
  obtain ⟨n, hn1⟩ : ∃ n, ws.length = n := ⟨_, rfl⟩
  have HWS : Hid (ws = [101, 120, 105, 116] :: rest) := hwe.symm
  rw [hwe] at hws hn
  rw [hn1] at hn
  have hnp : 1 ≤ n := by rw [← hn1, ← hwe]; simp
  have hnb : n ≤ 1000000 := by
    have h1 := wdL_len s.data.toList []
    have h2 : s.size = s.data.toList.length := size_of rfl
    rw [hws, hn1] at h1
    omega
  have HW := words_front s w hs hws hn1
  have HW : Hid (Calls Tryz.prog 17 #[.string s] w fun e w1 => ∃ g cap, e = .returned (.slice (some ⟨g, 0, none⟩) n cap) ∧ Hid (Below w.heap.size w w1) ∧ RW (w1.alloc (.cells #[.slice (some ⟨g, 0, none⟩) n cap] 23)) w1.heap.size g n cap ws) := HW
  obtain ⟨m, hm⟩ : ∃ m : Nat, n = m + 1 := ⟨n - 1, by omega⟩
  subst hm
  have e1 : IntKind.i64.wrap (m : Int) = (m : Int) := by rw [IntKind.wrap_i64]; omega
  have e2 : (0 : Int) < (m : Int) + 1 := by omega
  have e3 : ((m : Int) == 1) = false := by simp; omega
  obtain ⟨wd, hwd⟩ : ∃ wd, wd = bA [101, 120, 105, 116] := ⟨_, rfl⟩
  obtain ⟨k0, k1, k2, k3, k4, k5, k6, k7, k8, k9, k10, k11, k12⟩ := kf_exit hwd
  have HWD : Hid (wd = bA [101, 120, 105, 116]) := hwd
  clear hwd
  clear hrig hws hwe hn hn1 hnp hnb hs
  go_enter Tryz.func44, Tryz.ntmps44
  go_wp2_with (first
    | (go_at_call 17; refine HW.out.mono ?_; rintro e w1 ⟨g, cap, rfl, HB1, hrw⟩; have HRW : Hid (RW (w1.alloc (.cells #[.slice (some ⟨g, 0, none⟩) (m + 1) cap] 23)) w1.heap.size g (m + 1) cap ws) := hrw; have q0 := (hrw.cells 0 [101, 120, 105, 116] (by rw [HWS.out]; rfl)).1; rw [← HWD.out] at q0; have yc := hrw.y; have HBA : Hid (Below w.heap.size w (w1.alloc (.cells #[.slice (some ⟨g, 0, none⟩) (m + 1) cap] 23))) := HB1.out.alloc HB1.out.size _; clear hrw)
    | go_in)
  go_ret
  exact ⟨rfl, HBA.out⟩

set_option maxHeartbeats 4000000 in
set_option maxRecDepth 100000 in
theorem RL_exit_0 (lines : Nat) (s : ByteArray) (w : World) (hs : s.size ≤ 100000) {b : List UInt8} (hws : wdL [] s.data.toList = [[101, 120, 105, 116], b]) (h0 : okP lines 5 b = false) :
    Calls Tryz.prog 44 #[.string s, .int .i64 (lines : Int)] w fun e w' => e = .returned (.bool (rigF lines s.data.toList)) ∧ Below w.heap.size w w' := by
  have hrig : rigF lines s.data.toList = false := by
    rw [rig_of hws rfl (f := [5]) rfl (by decide)]
    simp [allP, h0]
  rw [hrig]
  obtain ⟨ws, hwe⟩ : ∃ ws, [[101, 120, 105, 116], b] = ws := ⟨_, rfl⟩
  have hn1 : ws.length = 2 := by rw [← hwe]; rfl
  have HWS : Hid (ws = [[101, 120, 105, 116], b]) := hwe.symm
  rw [hwe] at hws
  have HW := words_front s w hs hws hn1
  have HW : Hid (Calls Tryz.prog 17 #[.string s] w fun e w1 => ∃ g cap, e = .returned (.slice (some ⟨g, 0, none⟩) 2 cap) ∧ Hid (Below w.heap.size w w1) ∧ RW (w1.alloc (.cells #[.slice (some ⟨g, 0, none⟩) 2 cap] 23)) w1.heap.size g 2 cap ws) := HW
  obtain ⟨wd, hwd⟩ : ∃ wd, wd = bA [101, 120, 105, 116] := ⟨_, rfl⟩
  obtain ⟨k0, k1, k2, k3, k4, k5, k6, k7, k8, k9, k10, k11, k12⟩ := kf_exit hwd
  have HWD : Hid (wd = bA [101, 120, 105, 116]) := hwd
  clear hwd
  rw [okP_num lines 5 b 99 (.inr (.inr (.inr ⟨rfl, rfl⟩)))] at h0
  have HZ1 : Hid (nmbF (bA b).data.toList ((99 : Nat) : Int) = -1) := nmb_neg (by simpa using h0)
  have HN1 : Hid (∀ W, Calls Tryz.prog 46 #[.string (bA b), .int .i64 99] W fun e w' => e = .returned (.int .i64 (-1)) ∧ w' = W) := fun W => by
    have h := NumberOf_any (bA b) 99 W (wd_size hs hws (by rw [HWS.out]; simp))
    rw [HZ1.out] at h
    exact h
  obtain ⟨x1, hx1⟩ : ∃ x, x = bA b := ⟨_, rfl⟩
  rw [← hx1] at HN1
  have HX1 : Hid (x1 = bA b) := hx1
  clear hx1
  clear hrig hws hwe hn1 hs h0
  go_enter Tryz.func44, Tryz.ntmps44
  go_wp2_with (first
    | (go_at_call 17; refine HW.out.mono ?_; rintro e w1 ⟨g, cap, rfl, HB1, hrw⟩; have HRW : Hid (RW (w1.alloc (.cells #[.slice (some ⟨g, 0, none⟩) 2 cap] 23)) w1.heap.size g 2 cap ws) := hrw; have q0 := (hrw.cells 0 [101, 120, 105, 116] (by rw [HWS.out]; rfl)).1; rw [← HWD.out] at q0; have yc := hrw.y; have p1 := (hrw.cells 1 b (by rw [HWS.out]; rfl)).1; rw [← HX1.out] at p1; have HBA : Hid (Below w.heap.size w (w1.alloc (.cells #[.slice (some ⟨g, 0, none⟩) 2 cap] 23))) := HB1.out.alloc HB1.out.size _; clear hrw)
    | (go_at_call 46; with_reducible refine (HN1.out _).mono ?_; rintro e w4 ⟨rfl, hw⟩; subst w4)
    | go_in)
  go_ret
  exact ⟨rfl, HBA.out⟩

set_option maxHeartbeats 4000000 in
set_option maxRecDepth 100000 in
theorem RL_exit_1 (lines : Nat) (s : ByteArray) (w : World) (hs : s.size ≤ 100000) {b : List UInt8} (hws : wdL [] s.data.toList = [[101, 120, 105, 116], b]) (h0 : okP lines 5 b = true) :
    Calls Tryz.prog 44 #[.string s, .int .i64 (lines : Int)] w fun e w' => e = .returned (.bool (rigF lines s.data.toList)) ∧ Below w.heap.size w w' := by
  have hrig : rigF lines s.data.toList = true := by
    rw [rig_of hws rfl (f := [5]) rfl (by decide)]
    simp [allP, h0]
  rw [hrig]
  obtain ⟨ws, hwe⟩ : ∃ ws, [[101, 120, 105, 116], b] = ws := ⟨_, rfl⟩
  have hn1 : ws.length = 2 := by rw [← hwe]; rfl
  have HWS : Hid (ws = [[101, 120, 105, 116], b]) := hwe.symm
  rw [hwe] at hws
  have HW := words_front s w hs hws hn1
  have HW : Hid (Calls Tryz.prog 17 #[.string s] w fun e w1 => ∃ g cap, e = .returned (.slice (some ⟨g, 0, none⟩) 2 cap) ∧ Hid (Below w.heap.size w w1) ∧ RW (w1.alloc (.cells #[.slice (some ⟨g, 0, none⟩) 2 cap] 23)) w1.heap.size g 2 cap ws) := HW
  obtain ⟨wd, hwd⟩ : ∃ wd, wd = bA [101, 120, 105, 116] := ⟨_, rfl⟩
  obtain ⟨k0, k1, k2, k3, k4, k5, k6, k7, k8, k9, k10, k11, k12⟩ := kf_exit hwd
  have HWD : Hid (wd = bA [101, 120, 105, 116]) := hwd
  clear hwd
  rw [okP_num lines 5 b 99 (.inr (.inr (.inr ⟨rfl, rfl⟩)))] at h0
  obtain ⟨z1, hz1⟩ : ∃ z, nmbF (bA b).data.toList ((99 : Nat) : Int) = z := ⟨_, rfl⟩
  rw [hz1] at h0
  have HZ1 : Hid (nmbF (bA b).data.toList ((99 : Nat) : Int) = z1) := hz1
  clear hz1
  have g1 : (0 : Int) ≤ z1 := by simpa using h0
  have HN1 : Hid (∀ W, Calls Tryz.prog 46 #[.string (bA b), .int .i64 99] W fun e w' => e = .returned (.int .i64 z1) ∧ w' = W) := fun W => by
    have h := NumberOf_any (bA b) 99 W (wd_size hs hws (by rw [HWS.out]; simp))
    rw [HZ1.out] at h
    exact h
  obtain ⟨x1, hx1⟩ : ∃ x, x = bA b := ⟨_, rfl⟩
  rw [← hx1] at HN1
  have HX1 : Hid (x1 = bA b) := hx1
  clear hx1
  clear hrig hws hwe hn1 hs h0
  go_enter Tryz.func44, Tryz.ntmps44
  go_wp2_with (first
    | (go_at_call 17; refine HW.out.mono ?_; rintro e w1 ⟨g, cap, rfl, HB1, hrw⟩; have HRW : Hid (RW (w1.alloc (.cells #[.slice (some ⟨g, 0, none⟩) 2 cap] 23)) w1.heap.size g 2 cap ws) := hrw; have q0 := (hrw.cells 0 [101, 120, 105, 116] (by rw [HWS.out]; rfl)).1; rw [← HWD.out] at q0; have yc := hrw.y; have p1 := (hrw.cells 1 b (by rw [HWS.out]; rfl)).1; rw [← HX1.out] at p1; have HBA : Hid (Below w.heap.size w (w1.alloc (.cells #[.slice (some ⟨g, 0, none⟩) 2 cap] 23))) := HB1.out.alloc HB1.out.size _; clear hrw)
    | (go_at_call 46; with_reducible refine (HN1.out _).mono ?_; rintro e w4 ⟨rfl, hw⟩; subst w4)
    | go_in)
  go_ret
  exact ⟨rfl, HBA.out⟩
end Go.Proofs.YtapiedeekbfpnaaGreatDoor

/- The document's RightLine, by a line's first word. -/
namespace Go.Proofs.YtapiedeekbfpnaaGreatDoor
open Go.RowKit Go.Shelf

theorem kf_make {wd : ByteArray} (hwd : wd = bA [109, 97, 107, 101]) : (wd.toList == [115, 101, 116]) = false ∧ (wd.toList == [114, 101, 97, 100]) = false ∧ (wd.toList == [108, 105, 115, 116]) = false ∧ (wd.toList == [106, 111, 105, 110]) = false ∧ (wd.toList == [99, 117, 116]) = false ∧ (wd.toList == [115, 105, 122, 101]) = false ∧ (wd.toList == [115, 117, 109]) = false ∧ (wd.toList == [109, 97, 107, 101]) = true ∧ (wd.toList == [114, 117, 110]) = false ∧ (wd.toList == [115, 97, 109, 101]) = false ∧ (wd.toList == [108, 101, 115, 115]) = false ∧ (wd.toList == [103, 111, 116, 111]) = false ∧ (wd.toList == [101, 120, 105, 116]) = false := by
  rw [hwd, Lib.toList_data]
  decide

set_option maxHeartbeats 4000000 in
set_option maxRecDepth 100000 in
theorem RL_make_no (lines : Nat) (s : ByteArray) (w : World) (hs : s.size ≤ 100000) {rest : List (List UInt8)} (hws : wdL [] s.data.toList = [109, 97, 107, 101] :: rest) (hn : ¬ ([109, 97, 107, 101] :: rest).length = 3) :
    Calls Tryz.prog 44 #[.string s, .int .i64 (lines : Int)] w fun e w' => e = .returned (.bool (rigF lines s.data.toList)) ∧ Below w.heap.size w w' := by
  have hrig : rigF lines s.data.toList = false := by
    rw [rig_of hws rfl (f := [7, 0]) rfl (by decide), decide_eq_false (by simpa using hn), Bool.false_and]
  rw [hrig]
  obtain ⟨ws, hwe⟩ : ∃ ws, [109, 97, 107, 101] :: rest = ws := ⟨_, rfl⟩
  obtain ⟨n, hn1⟩ : ∃ n, ws.length = n := ⟨_, rfl⟩
  have HWS : Hid (ws = [109, 97, 107, 101] :: rest) := hwe.symm
  rw [hwe] at hws hn
  rw [hn1] at hn
  have hnp : 1 ≤ n := by rw [← hn1, ← hwe]; simp
  have hnb : n ≤ 1000000 := by
    have h1 := wdL_len s.data.toList []
    have h2 : s.size = s.data.toList.length := size_of rfl
    rw [hws, hn1] at h1
    omega
  have HW := words_front s w hs hws hn1
  have HW : Hid (Calls Tryz.prog 17 #[.string s] w fun e w1 => ∃ g cap, e = .returned (.slice (some ⟨g, 0, none⟩) n cap) ∧ Hid (Below w.heap.size w w1) ∧ RW (w1.alloc (.cells #[.slice (some ⟨g, 0, none⟩) n cap] 23)) w1.heap.size g n cap ws) := HW
  obtain ⟨m, hm⟩ : ∃ m : Nat, n = m + 1 := ⟨n - 1, by omega⟩
  subst hm
  have e1 : IntKind.i64.wrap (m : Int) = (m : Int) := by rw [IntKind.wrap_i64]; omega
  have e2 : (0 : Int) < (m : Int) + 1 := by omega
  have e3 : ((m : Int) == 2) = false := by simp; omega
  obtain ⟨wd, hwd⟩ : ∃ wd, wd = bA [109, 97, 107, 101] := ⟨_, rfl⟩
  obtain ⟨k0, k1, k2, k3, k4, k5, k6, k7, k8, k9, k10, k11, k12⟩ := kf_make hwd
  have HWD : Hid (wd = bA [109, 97, 107, 101]) := hwd
  clear hwd
  clear hrig hws hwe hn hn1 hnp hnb hs
  go_enter Tryz.func44, Tryz.ntmps44
  go_wp2_with (first
    | (go_at_call 17; refine HW.out.mono ?_; rintro e w1 ⟨g, cap, rfl, HB1, hrw⟩; have HRW : Hid (RW (w1.alloc (.cells #[.slice (some ⟨g, 0, none⟩) (m + 1) cap] 23)) w1.heap.size g (m + 1) cap ws) := hrw; have q0 := (hrw.cells 0 [109, 97, 107, 101] (by rw [HWS.out]; rfl)).1; rw [← HWD.out] at q0; have yc := hrw.y; have HBA : Hid (Below w.heap.size w (w1.alloc (.cells #[.slice (some ⟨g, 0, none⟩) (m + 1) cap] 23))) := HB1.out.alloc HB1.out.size _; clear hrw)
    | go_in)
  go_ret
  exact ⟨rfl, HBA.out⟩

set_option maxHeartbeats 4000000 in
set_option maxRecDepth 100000 in
theorem RL_make_0 (lines : Nat) (s : ByteArray) (w : World) (hs : s.size ≤ 100000) {b c : List UInt8} (hws : wdL [] s.data.toList = [[109, 97, 107, 101], b, c]) (h0 : okP lines 7 b = false) :
    Calls Tryz.prog 44 #[.string s, .int .i64 (lines : Int)] w fun e w' => e = .returned (.bool (rigF lines s.data.toList)) ∧ Below w.heap.size w w' := by
  have hrig : rigF lines s.data.toList = false := by
    rw [rig_of hws rfl (f := [7, 0]) rfl (by decide)]
    simp [allP, h0]
  rw [hrig]
  obtain ⟨ws, hwe⟩ : ∃ ws, [[109, 97, 107, 101], b, c] = ws := ⟨_, rfl⟩
  have hn1 : ws.length = 3 := by rw [← hwe]; rfl
  have HWS : Hid (ws = [[109, 97, 107, 101], b, c]) := hwe.symm
  rw [hwe] at hws
  have HW := words_front s w hs hws hn1
  have HW : Hid (Calls Tryz.prog 17 #[.string s] w fun e w1 => ∃ g cap, e = .returned (.slice (some ⟨g, 0, none⟩) 3 cap) ∧ Hid (Below w.heap.size w w1) ∧ RW (w1.alloc (.cells #[.slice (some ⟨g, 0, none⟩) 3 cap] 23)) w1.heap.size g 3 cap ws) := HW
  obtain ⟨wd, hwd⟩ : ∃ wd, wd = bA [109, 97, 107, 101] := ⟨_, rfl⟩
  obtain ⟨k0, k1, k2, k3, k4, k5, k6, k7, k8, k9, k10, k11, k12⟩ := kf_make hwd
  have HWD : Hid (wd = bA [109, 97, 107, 101]) := hwd
  clear hwd
  have r1 : pathOk (bA b) = false := h0
  clear hrig hws hwe hn1 hs h0
  go_enter Tryz.func44, Tryz.ntmps44
  go_wp2_with (first
    | (go_at_call 17; refine HW.out.mono ?_; rintro e w1 ⟨g, cap, rfl, HB1, hrw⟩; have HRW : Hid (RW (w1.alloc (.cells #[.slice (some ⟨g, 0, none⟩) 3 cap] 23)) w1.heap.size g 3 cap ws) := hrw; have q0 := (hrw.cells 0 [109, 97, 107, 101] (by rw [HWS.out]; rfl)).1; rw [← HWD.out] at q0; have yc := hrw.y; have p1 := (hrw.cells 1 b (by rw [HWS.out]; rfl)).1; have HBA : Hid (Below w.heap.size w (w1.alloc (.cells #[.slice (some ⟨g, 0, none⟩) 3 cap] 23))) := HB1.out.alloc HB1.out.size _; clear hrw)
    | (go_at_call 41; refine (RIsPath_any (bA b) _).mono ?_; rintro e w5 ⟨rfl, hb5⟩; have HRW5 := HRW.out.below hb5; have HRW : Hid (RW w5 w1.heap.size g 3 cap ws) := HRW5; have HB5 := below_low HBA.out hb5 HBA.out.size; have HBA : Hid (Below w.heap.size w w5) := HB5; have yc5 := HRW.out.y; clear hb5 HRW5 HB5)
    | go_in)
  go_ret
  exact ⟨rfl, HBA.out⟩

set_option maxHeartbeats 4000000 in
set_option maxRecDepth 100000 in
theorem RL_make_1 (lines : Nat) (s : ByteArray) (w : World) (hs : s.size ≤ 100000) {b c : List UInt8} (hws : wdL [] s.data.toList = [[109, 97, 107, 101], b, c]) (h0 : okP lines 7 b = true) (h1 : okP lines 0 c = false) :
    Calls Tryz.prog 44 #[.string s, .int .i64 (lines : Int)] w fun e w' => e = .returned (.bool (rigF lines s.data.toList)) ∧ Below w.heap.size w w' := by
  have hrig : rigF lines s.data.toList = false := by
    rw [rig_of hws rfl (f := [7, 0]) rfl (by decide)]
    simp [allP, h0, h1]
  rw [hrig]
  obtain ⟨ws, hwe⟩ : ∃ ws, [[109, 97, 107, 101], b, c] = ws := ⟨_, rfl⟩
  have hn1 : ws.length = 3 := by rw [← hwe]; rfl
  have HWS : Hid (ws = [[109, 97, 107, 101], b, c]) := hwe.symm
  rw [hwe] at hws
  have HW := words_front s w hs hws hn1
  have HW : Hid (Calls Tryz.prog 17 #[.string s] w fun e w1 => ∃ g cap, e = .returned (.slice (some ⟨g, 0, none⟩) 3 cap) ∧ Hid (Below w.heap.size w w1) ∧ RW (w1.alloc (.cells #[.slice (some ⟨g, 0, none⟩) 3 cap] 23)) w1.heap.size g 3 cap ws) := HW
  obtain ⟨wd, hwd⟩ : ∃ wd, wd = bA [109, 97, 107, 101] := ⟨_, rfl⟩
  obtain ⟨k0, k1, k2, k3, k4, k5, k6, k7, k8, k9, k10, k11, k12⟩ := kf_make hwd
  have HWD : Hid (wd = bA [109, 97, 107, 101]) := hwd
  clear hwd
  have r2 : (regF c).isSome = false := h1
  have r1 : pathOk (bA b) = true := h0
  clear hrig hws hwe hn1 hs h0 h1
  go_enter Tryz.func44, Tryz.ntmps44
  go_wp2_with (first
    | (go_at_call 17; refine HW.out.mono ?_; rintro e w1 ⟨g, cap, rfl, HB1, hrw⟩; have HRW : Hid (RW (w1.alloc (.cells #[.slice (some ⟨g, 0, none⟩) 3 cap] 23)) w1.heap.size g 3 cap ws) := hrw; have q0 := (hrw.cells 0 [109, 97, 107, 101] (by rw [HWS.out]; rfl)).1; rw [← HWD.out] at q0; have yc := hrw.y; have p1 := (hrw.cells 1 b (by rw [HWS.out]; rfl)).1; have HBA : Hid (Below w.heap.size w (w1.alloc (.cells #[.slice (some ⟨g, 0, none⟩) 3 cap] 23))) := HB1.out.alloc HB1.out.size _; clear hrw)
    | (go_at_call 95; refine (r_any HRW.out 2 (x := c) (by rw [HWS.out]; rfl)).mono ?_; rintro e w4 ⟨rfl, hw⟩; subst w4)
    | (go_at_call 41; refine (RIsPath_any (bA b) _).mono ?_; rintro e w5 ⟨rfl, hb5⟩; have HRW5 := HRW.out.below hb5; have HRW : Hid (RW w5 w1.heap.size g 3 cap ws) := HRW5; have HB5 := below_low HBA.out hb5 HBA.out.size; have HBA : Hid (Below w.heap.size w w5) := HB5; have yc5 := HRW.out.y; clear hb5 HRW5 HB5)
    | go_in)
  go_ret
  exact ⟨rfl, HBA.out⟩

set_option maxHeartbeats 4000000 in
set_option maxRecDepth 100000 in
theorem RL_make_2 (lines : Nat) (s : ByteArray) (w : World) (hs : s.size ≤ 100000) {b c : List UInt8} (hws : wdL [] s.data.toList = [[109, 97, 107, 101], b, c]) (h0 : okP lines 7 b = true) (h1 : okP lines 0 c = true) :
    Calls Tryz.prog 44 #[.string s, .int .i64 (lines : Int)] w fun e w' => e = .returned (.bool (rigF lines s.data.toList)) ∧ Below w.heap.size w w' := by
  have hrig : rigF lines s.data.toList = true := by
    rw [rig_of hws rfl (f := [7, 0]) rfl (by decide)]
    simp [allP, h0, h1]
  rw [hrig]
  obtain ⟨ws, hwe⟩ : ∃ ws, [[109, 97, 107, 101], b, c] = ws := ⟨_, rfl⟩
  have hn1 : ws.length = 3 := by rw [← hwe]; rfl
  have HWS : Hid (ws = [[109, 97, 107, 101], b, c]) := hwe.symm
  rw [hwe] at hws
  have HW := words_front s w hs hws hn1
  have HW : Hid (Calls Tryz.prog 17 #[.string s] w fun e w1 => ∃ g cap, e = .returned (.slice (some ⟨g, 0, none⟩) 3 cap) ∧ Hid (Below w.heap.size w w1) ∧ RW (w1.alloc (.cells #[.slice (some ⟨g, 0, none⟩) 3 cap] 23)) w1.heap.size g 3 cap ws) := HW
  obtain ⟨wd, hwd⟩ : ∃ wd, wd = bA [109, 97, 107, 101] := ⟨_, rfl⟩
  obtain ⟨k0, k1, k2, k3, k4, k5, k6, k7, k8, k9, k10, k11, k12⟩ := kf_make hwd
  have HWD : Hid (wd = bA [109, 97, 107, 101]) := hwd
  clear hwd
  have r2 : (regF c).isSome = true := h1
  have r1 : pathOk (bA b) = true := h0
  clear hrig hws hwe hn1 hs h0 h1
  go_enter Tryz.func44, Tryz.ntmps44
  go_wp2_with (first
    | (go_at_call 17; refine HW.out.mono ?_; rintro e w1 ⟨g, cap, rfl, HB1, hrw⟩; have HRW : Hid (RW (w1.alloc (.cells #[.slice (some ⟨g, 0, none⟩) 3 cap] 23)) w1.heap.size g 3 cap ws) := hrw; have q0 := (hrw.cells 0 [109, 97, 107, 101] (by rw [HWS.out]; rfl)).1; rw [← HWD.out] at q0; have yc := hrw.y; have p1 := (hrw.cells 1 b (by rw [HWS.out]; rfl)).1; have HBA : Hid (Below w.heap.size w (w1.alloc (.cells #[.slice (some ⟨g, 0, none⟩) 3 cap] 23))) := HB1.out.alloc HB1.out.size _; clear hrw)
    | (go_at_call 95; refine (r_any HRW.out 2 (x := c) (by rw [HWS.out]; rfl)).mono ?_; rintro e w4 ⟨rfl, hw⟩; subst w4)
    | (go_at_call 41; refine (RIsPath_any (bA b) _).mono ?_; rintro e w5 ⟨rfl, hb5⟩; have HRW5 := HRW.out.below hb5; have HRW : Hid (RW w5 w1.heap.size g 3 cap ws) := HRW5; have HB5 := below_low HBA.out hb5 HBA.out.size; have HBA : Hid (Below w.heap.size w w5) := HB5; have yc5 := HRW.out.y; clear hb5 HRW5 HB5)
    | go_in)
  go_ret
  exact ⟨rfl, HBA.out⟩

theorem kf_run {wd : ByteArray} (hwd : wd = bA [114, 117, 110]) : (wd.toList == [115, 101, 116]) = false ∧ (wd.toList == [114, 101, 97, 100]) = false ∧ (wd.toList == [108, 105, 115, 116]) = false ∧ (wd.toList == [106, 111, 105, 110]) = false ∧ (wd.toList == [99, 117, 116]) = false ∧ (wd.toList == [115, 105, 122, 101]) = false ∧ (wd.toList == [115, 117, 109]) = false ∧ (wd.toList == [109, 97, 107, 101]) = false ∧ (wd.toList == [114, 117, 110]) = true ∧ (wd.toList == [115, 97, 109, 101]) = false ∧ (wd.toList == [108, 101, 115, 115]) = false ∧ (wd.toList == [103, 111, 116, 111]) = false ∧ (wd.toList == [101, 120, 105, 116]) = false := by
  rw [hwd, Lib.toList_data]
  decide

set_option maxHeartbeats 4000000 in
set_option maxRecDepth 100000 in
theorem RL_run_no (lines : Nat) (s : ByteArray) (w : World) (hs : s.size ≤ 100000) {rest : List (List UInt8)} (hws : wdL [] s.data.toList = [114, 117, 110] :: rest) (hn : ¬ ([114, 117, 110] :: rest).length = 3) :
    Calls Tryz.prog 44 #[.string s, .int .i64 (lines : Int)] w fun e w' => e = .returned (.bool (rigF lines s.data.toList)) ∧ Below w.heap.size w w' := by
  have hrig : rigF lines s.data.toList = false := by
    rw [rig_of hws rfl (f := [7, 0]) rfl (by decide), decide_eq_false (by simpa using hn), Bool.false_and]
  rw [hrig]
  obtain ⟨ws, hwe⟩ : ∃ ws, [114, 117, 110] :: rest = ws := ⟨_, rfl⟩
  obtain ⟨n, hn1⟩ : ∃ n, ws.length = n := ⟨_, rfl⟩
  have HWS : Hid (ws = [114, 117, 110] :: rest) := hwe.symm
  rw [hwe] at hws hn
  rw [hn1] at hn
  have hnp : 1 ≤ n := by rw [← hn1, ← hwe]; simp
  have hnb : n ≤ 1000000 := by
    have h1 := wdL_len s.data.toList []
    have h2 : s.size = s.data.toList.length := size_of rfl
    rw [hws, hn1] at h1
    omega
  have HW := words_front s w hs hws hn1
  have HW : Hid (Calls Tryz.prog 17 #[.string s] w fun e w1 => ∃ g cap, e = .returned (.slice (some ⟨g, 0, none⟩) n cap) ∧ Hid (Below w.heap.size w w1) ∧ RW (w1.alloc (.cells #[.slice (some ⟨g, 0, none⟩) n cap] 23)) w1.heap.size g n cap ws) := HW
  obtain ⟨m, hm⟩ : ∃ m : Nat, n = m + 1 := ⟨n - 1, by omega⟩
  subst hm
  have e1 : IntKind.i64.wrap (m : Int) = (m : Int) := by rw [IntKind.wrap_i64]; omega
  have e2 : (0 : Int) < (m : Int) + 1 := by omega
  have e3 : ((m : Int) == 2) = false := by simp; omega
  obtain ⟨wd, hwd⟩ : ∃ wd, wd = bA [114, 117, 110] := ⟨_, rfl⟩
  obtain ⟨k0, k1, k2, k3, k4, k5, k6, k7, k8, k9, k10, k11, k12⟩ := kf_run hwd
  have HWD : Hid (wd = bA [114, 117, 110]) := hwd
  clear hwd
  clear hrig hws hwe hn hn1 hnp hnb hs
  go_enter Tryz.func44, Tryz.ntmps44
  go_wp2_with (first
    | (go_at_call 17; refine HW.out.mono ?_; rintro e w1 ⟨g, cap, rfl, HB1, hrw⟩; have HRW : Hid (RW (w1.alloc (.cells #[.slice (some ⟨g, 0, none⟩) (m + 1) cap] 23)) w1.heap.size g (m + 1) cap ws) := hrw; have q0 := (hrw.cells 0 [114, 117, 110] (by rw [HWS.out]; rfl)).1; rw [← HWD.out] at q0; have yc := hrw.y; have HBA : Hid (Below w.heap.size w (w1.alloc (.cells #[.slice (some ⟨g, 0, none⟩) (m + 1) cap] 23))) := HB1.out.alloc HB1.out.size _; clear hrw)
    | go_in)
  go_ret
  exact ⟨rfl, HBA.out⟩

set_option maxHeartbeats 4000000 in
set_option maxRecDepth 100000 in
theorem RL_run_0 (lines : Nat) (s : ByteArray) (w : World) (hs : s.size ≤ 100000) {b c : List UInt8} (hws : wdL [] s.data.toList = [[114, 117, 110], b, c]) (h0 : okP lines 7 b = false) :
    Calls Tryz.prog 44 #[.string s, .int .i64 (lines : Int)] w fun e w' => e = .returned (.bool (rigF lines s.data.toList)) ∧ Below w.heap.size w w' := by
  have hrig : rigF lines s.data.toList = false := by
    rw [rig_of hws rfl (f := [7, 0]) rfl (by decide)]
    simp [allP, h0]
  rw [hrig]
  obtain ⟨ws, hwe⟩ : ∃ ws, [[114, 117, 110], b, c] = ws := ⟨_, rfl⟩
  have hn1 : ws.length = 3 := by rw [← hwe]; rfl
  have HWS : Hid (ws = [[114, 117, 110], b, c]) := hwe.symm
  rw [hwe] at hws
  have HW := words_front s w hs hws hn1
  have HW : Hid (Calls Tryz.prog 17 #[.string s] w fun e w1 => ∃ g cap, e = .returned (.slice (some ⟨g, 0, none⟩) 3 cap) ∧ Hid (Below w.heap.size w w1) ∧ RW (w1.alloc (.cells #[.slice (some ⟨g, 0, none⟩) 3 cap] 23)) w1.heap.size g 3 cap ws) := HW
  obtain ⟨wd, hwd⟩ : ∃ wd, wd = bA [114, 117, 110] := ⟨_, rfl⟩
  obtain ⟨k0, k1, k2, k3, k4, k5, k6, k7, k8, k9, k10, k11, k12⟩ := kf_run hwd
  have HWD : Hid (wd = bA [114, 117, 110]) := hwd
  clear hwd
  have r1 : pathOk (bA b) = false := h0
  clear hrig hws hwe hn1 hs h0
  go_enter Tryz.func44, Tryz.ntmps44
  go_wp2_with (first
    | (go_at_call 17; refine HW.out.mono ?_; rintro e w1 ⟨g, cap, rfl, HB1, hrw⟩; have HRW : Hid (RW (w1.alloc (.cells #[.slice (some ⟨g, 0, none⟩) 3 cap] 23)) w1.heap.size g 3 cap ws) := hrw; have q0 := (hrw.cells 0 [114, 117, 110] (by rw [HWS.out]; rfl)).1; rw [← HWD.out] at q0; have yc := hrw.y; have p1 := (hrw.cells 1 b (by rw [HWS.out]; rfl)).1; have HBA : Hid (Below w.heap.size w (w1.alloc (.cells #[.slice (some ⟨g, 0, none⟩) 3 cap] 23))) := HB1.out.alloc HB1.out.size _; clear hrw)
    | (go_at_call 41; refine (RIsPath_any (bA b) _).mono ?_; rintro e w5 ⟨rfl, hb5⟩; have HRW5 := HRW.out.below hb5; have HRW : Hid (RW w5 w1.heap.size g 3 cap ws) := HRW5; have HB5 := below_low HBA.out hb5 HBA.out.size; have HBA : Hid (Below w.heap.size w w5) := HB5; have yc5 := HRW.out.y; clear hb5 HRW5 HB5)
    | go_in)
  go_ret
  exact ⟨rfl, HBA.out⟩

set_option maxHeartbeats 4000000 in
set_option maxRecDepth 100000 in
theorem RL_run_1 (lines : Nat) (s : ByteArray) (w : World) (hs : s.size ≤ 100000) {b c : List UInt8} (hws : wdL [] s.data.toList = [[114, 117, 110], b, c]) (h0 : okP lines 7 b = true) (h1 : okP lines 0 c = false) :
    Calls Tryz.prog 44 #[.string s, .int .i64 (lines : Int)] w fun e w' => e = .returned (.bool (rigF lines s.data.toList)) ∧ Below w.heap.size w w' := by
  have hrig : rigF lines s.data.toList = false := by
    rw [rig_of hws rfl (f := [7, 0]) rfl (by decide)]
    simp [allP, h0, h1]
  rw [hrig]
  obtain ⟨ws, hwe⟩ : ∃ ws, [[114, 117, 110], b, c] = ws := ⟨_, rfl⟩
  have hn1 : ws.length = 3 := by rw [← hwe]; rfl
  have HWS : Hid (ws = [[114, 117, 110], b, c]) := hwe.symm
  rw [hwe] at hws
  have HW := words_front s w hs hws hn1
  have HW : Hid (Calls Tryz.prog 17 #[.string s] w fun e w1 => ∃ g cap, e = .returned (.slice (some ⟨g, 0, none⟩) 3 cap) ∧ Hid (Below w.heap.size w w1) ∧ RW (w1.alloc (.cells #[.slice (some ⟨g, 0, none⟩) 3 cap] 23)) w1.heap.size g 3 cap ws) := HW
  obtain ⟨wd, hwd⟩ : ∃ wd, wd = bA [114, 117, 110] := ⟨_, rfl⟩
  obtain ⟨k0, k1, k2, k3, k4, k5, k6, k7, k8, k9, k10, k11, k12⟩ := kf_run hwd
  have HWD : Hid (wd = bA [114, 117, 110]) := hwd
  clear hwd
  have r2 : (regF c).isSome = false := h1
  have r1 : pathOk (bA b) = true := h0
  clear hrig hws hwe hn1 hs h0 h1
  go_enter Tryz.func44, Tryz.ntmps44
  go_wp2_with (first
    | (go_at_call 17; refine HW.out.mono ?_; rintro e w1 ⟨g, cap, rfl, HB1, hrw⟩; have HRW : Hid (RW (w1.alloc (.cells #[.slice (some ⟨g, 0, none⟩) 3 cap] 23)) w1.heap.size g 3 cap ws) := hrw; have q0 := (hrw.cells 0 [114, 117, 110] (by rw [HWS.out]; rfl)).1; rw [← HWD.out] at q0; have yc := hrw.y; have p1 := (hrw.cells 1 b (by rw [HWS.out]; rfl)).1; have HBA : Hid (Below w.heap.size w (w1.alloc (.cells #[.slice (some ⟨g, 0, none⟩) 3 cap] 23))) := HB1.out.alloc HB1.out.size _; clear hrw)
    | (go_at_call 95; refine (r_any HRW.out 2 (x := c) (by rw [HWS.out]; rfl)).mono ?_; rintro e w4 ⟨rfl, hw⟩; subst w4)
    | (go_at_call 41; refine (RIsPath_any (bA b) _).mono ?_; rintro e w5 ⟨rfl, hb5⟩; have HRW5 := HRW.out.below hb5; have HRW : Hid (RW w5 w1.heap.size g 3 cap ws) := HRW5; have HB5 := below_low HBA.out hb5 HBA.out.size; have HBA : Hid (Below w.heap.size w w5) := HB5; have yc5 := HRW.out.y; clear hb5 HRW5 HB5)
    | go_in)
  go_ret
  exact ⟨rfl, HBA.out⟩

set_option maxHeartbeats 4000000 in
set_option maxRecDepth 100000 in
theorem RL_run_2 (lines : Nat) (s : ByteArray) (w : World) (hs : s.size ≤ 100000) {b c : List UInt8} (hws : wdL [] s.data.toList = [[114, 117, 110], b, c]) (h0 : okP lines 7 b = true) (h1 : okP lines 0 c = true) :
    Calls Tryz.prog 44 #[.string s, .int .i64 (lines : Int)] w fun e w' => e = .returned (.bool (rigF lines s.data.toList)) ∧ Below w.heap.size w w' := by
  have hrig : rigF lines s.data.toList = true := by
    rw [rig_of hws rfl (f := [7, 0]) rfl (by decide)]
    simp [allP, h0, h1]
  rw [hrig]
  obtain ⟨ws, hwe⟩ : ∃ ws, [[114, 117, 110], b, c] = ws := ⟨_, rfl⟩
  have hn1 : ws.length = 3 := by rw [← hwe]; rfl
  have HWS : Hid (ws = [[114, 117, 110], b, c]) := hwe.symm
  rw [hwe] at hws
  have HW := words_front s w hs hws hn1
  have HW : Hid (Calls Tryz.prog 17 #[.string s] w fun e w1 => ∃ g cap, e = .returned (.slice (some ⟨g, 0, none⟩) 3 cap) ∧ Hid (Below w.heap.size w w1) ∧ RW (w1.alloc (.cells #[.slice (some ⟨g, 0, none⟩) 3 cap] 23)) w1.heap.size g 3 cap ws) := HW
  obtain ⟨wd, hwd⟩ : ∃ wd, wd = bA [114, 117, 110] := ⟨_, rfl⟩
  obtain ⟨k0, k1, k2, k3, k4, k5, k6, k7, k8, k9, k10, k11, k12⟩ := kf_run hwd
  have HWD : Hid (wd = bA [114, 117, 110]) := hwd
  clear hwd
  have r2 : (regF c).isSome = true := h1
  have r1 : pathOk (bA b) = true := h0
  clear hrig hws hwe hn1 hs h0 h1
  go_enter Tryz.func44, Tryz.ntmps44
  go_wp2_with (first
    | (go_at_call 17; refine HW.out.mono ?_; rintro e w1 ⟨g, cap, rfl, HB1, hrw⟩; have HRW : Hid (RW (w1.alloc (.cells #[.slice (some ⟨g, 0, none⟩) 3 cap] 23)) w1.heap.size g 3 cap ws) := hrw; have q0 := (hrw.cells 0 [114, 117, 110] (by rw [HWS.out]; rfl)).1; rw [← HWD.out] at q0; have yc := hrw.y; have p1 := (hrw.cells 1 b (by rw [HWS.out]; rfl)).1; have HBA : Hid (Below w.heap.size w (w1.alloc (.cells #[.slice (some ⟨g, 0, none⟩) 3 cap] 23))) := HB1.out.alloc HB1.out.size _; clear hrw)
    | (go_at_call 95; refine (r_any HRW.out 2 (x := c) (by rw [HWS.out]; rfl)).mono ?_; rintro e w4 ⟨rfl, hw⟩; subst w4)
    | (go_at_call 41; refine (RIsPath_any (bA b) _).mono ?_; rintro e w5 ⟨rfl, hb5⟩; have HRW5 := HRW.out.below hb5; have HRW : Hid (RW w5 w1.heap.size g 3 cap ws) := HRW5; have HB5 := below_low HBA.out hb5 HBA.out.size; have HBA : Hid (Below w.heap.size w w5) := HB5; have yc5 := HRW.out.y; clear hb5 HRW5 HB5)
    | go_in)
  go_ret
  exact ⟨rfl, HBA.out⟩
end Go.Proofs.YtapiedeekbfpnaaGreatDoor
