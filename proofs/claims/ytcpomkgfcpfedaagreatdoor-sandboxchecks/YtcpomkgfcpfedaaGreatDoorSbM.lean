/- The document's RightLine, by a line's first word. -/
import Derived.Test.YtcpomkgfcpfedaaGreatDoorSbJ
namespace Go.Proofs.YtcpomkgfcpfedaaGreatDoor
open Go.RowKit Go.Shelf

set_option maxHeartbeats 4000000 in
set_option maxRecDepth 100000 in
theorem RL_make_no (lines : Nat) (s : ByteArray) (w : World) (hs : s.size ≤ 100000) {rest : List (List UInt8)} (hws : wdL [] s.data.toList = [109, 97, 107, 101] :: rest) (hn : ¬ ([109, 97, 107, 101] :: rest).length = 3) :
    Calls Tryz.prog 9 #[.string s, .int .i64 (lines : Int)] w fun e w' => e = .returned (.bool (rigF lines s.data.toList)) ∧ Below w.heap.size w w' := by
  have hrig : rigF lines s.data.toList = false := by
    rw [rig_of hws rfl (f := [7, 0]) rfl (by decide), decide_eq_false (by simpa using hn), Bool.false_and]
  rw [hrig]
  obtain ⟨ws, hwe⟩ : ∃ ws, [109, 97, 107, 101] :: rest = ws := ⟨_, rfl⟩
  obtain ⟨n, hn1⟩ : ∃ n, ws.length = n := ⟨_, rfl⟩
  have HWS : Hid (ws = [109, 97, 107, 101] :: rest) := hwe.symm
  rw [hwe] at hws hn
  rw [hn1] at hn
  have hnp : 1 ≤ n := by rw [← hn1, ← hwe]; simp
  have hnb : n ≤ 1000000 := by
    have h1 := wdL_len s.data.toList []
    have h2 : s.size = s.data.toList.length := size_of rfl
    rw [hws, hn1] at h1
    omega
  have HW := words_front s w hs hws hn1
  have HW : Hid (Calls Tryz.prog 15 #[.string s] w fun e w1 => ∃ g cap, e = .returned (.slice (some ⟨g, 0, none⟩) n cap) ∧ Hid (Below w.heap.size w w1) ∧ RW (w1.alloc (.cells #[.slice (some ⟨g, 0, none⟩) n cap] 22)) w1.heap.size g n cap ws) := HW
  obtain ⟨m, hm⟩ : ∃ m : Nat, n = m + 1 := ⟨n - 1, by omega⟩
  subst hm
  have e1 : IntKind.i64.wrap (m : Int) = (m : Int) := by rw [IntKind.wrap_i64]; omega
  have e2 : (0 : Int) < (m : Int) + 1 := by omega
  have e3 : ((m : Int) == 2) = false := by simp; omega
  obtain ⟨wd, hwd⟩ : ∃ wd, wd = bA [109, 97, 107, 101] := ⟨_, rfl⟩
  have k0 : (wd.toList == [115, 101, 116]) = false := by rw [hwd, Lib.toList_data]; decide
  have k1 : (wd.toList == [114, 101, 97, 100]) = false := by rw [hwd, Lib.toList_data]; decide
  have k2 : (wd.toList == [108, 105, 115, 116]) = false := by rw [hwd, Lib.toList_data]; decide
  have k3 : (wd.toList == [106, 111, 105, 110]) = false := by rw [hwd, Lib.toList_data]; decide
  have k4 : (wd.toList == [99, 117, 116]) = false := by rw [hwd, Lib.toList_data]; decide
  have k5 : (wd.toList == [115, 105, 122, 101]) = false := by rw [hwd, Lib.toList_data]; decide
  have k6 : (wd.toList == [115, 117, 109]) = false := by rw [hwd, Lib.toList_data]; decide
  have k7 : (wd.toList == [109, 97, 107, 101]) = true := by rw [hwd, Lib.toList_data]; decide
  have k8 : (wd.toList == [114, 117, 110]) = false := by rw [hwd, Lib.toList_data]; decide
  have k9 : (wd.toList == [115, 97, 109, 101]) = false := by rw [hwd, Lib.toList_data]; decide
  have k10 : (wd.toList == [108, 101, 115, 115]) = false := by rw [hwd, Lib.toList_data]; decide
  have k11 : (wd.toList == [103, 111, 116, 111]) = false := by rw [hwd, Lib.toList_data]; decide
  have k12 : (wd.toList == [101, 120, 105, 116]) = false := by rw [hwd, Lib.toList_data]; decide
  have HWD : Hid (wd = bA [109, 97, 107, 101]) := hwd
  clear hwd
  clear hrig hws hwe hn hn1 hnp hnb hs
  go_enter Tryz.func9, Tryz.ntmps9
  go_wp2_with (first
    | (go_at_call 15; refine HW.out.mono ?_; rintro e w1 ⟨g, cap, rfl, HB1, hrw⟩; have HRW : Hid (RW (w1.alloc (.cells #[.slice (some ⟨g, 0, none⟩) (m + 1) cap] 22)) w1.heap.size g (m + 1) cap ws) := hrw; have q0 := (hrw.cells 0 [109, 97, 107, 101] (by rw [HWS.out]; rfl)).1; rw [← HWD.out] at q0; have yc := hrw.y; have HBA : Hid (Below w.heap.size w (w1.alloc (.cells #[.slice (some ⟨g, 0, none⟩) (m + 1) cap] 22))) := HB1.out.alloc HB1.out.size _; clear hrw)
    | go_in)
  go_ret
  exact ⟨rfl, HBA.out⟩

set_option maxHeartbeats 4000000 in
set_option maxRecDepth 100000 in
theorem RL_make_0 (lines : Nat) (s : ByteArray) (w : World) (hs : s.size ≤ 100000) {b c : List UInt8} (hws : wdL [] s.data.toList = [[109, 97, 107, 101], b, c]) (h0 : okP lines 7 b = false) :
    Calls Tryz.prog 9 #[.string s, .int .i64 (lines : Int)] w fun e w' => e = .returned (.bool (rigF lines s.data.toList)) ∧ Below w.heap.size w w' := by
  have hrig : rigF lines s.data.toList = false := by
    rw [rig_of hws rfl (f := [7, 0]) rfl (by decide)]
    simp [allP, h0]
  rw [hrig]
  obtain ⟨ws, hwe⟩ : ∃ ws, [[109, 97, 107, 101], b, c] = ws := ⟨_, rfl⟩
  have hn1 : ws.length = 3 := by rw [← hwe]; rfl
  have HWS : Hid (ws = [[109, 97, 107, 101], b, c]) := hwe.symm
  rw [hwe] at hws
  have HW := words_front s w hs hws hn1
  have HW : Hid (Calls Tryz.prog 15 #[.string s] w fun e w1 => ∃ g cap, e = .returned (.slice (some ⟨g, 0, none⟩) 3 cap) ∧ Hid (Below w.heap.size w w1) ∧ RW (w1.alloc (.cells #[.slice (some ⟨g, 0, none⟩) 3 cap] 22)) w1.heap.size g 3 cap ws) := HW
  obtain ⟨wd, hwd⟩ : ∃ wd, wd = bA [109, 97, 107, 101] := ⟨_, rfl⟩
  have k0 : (wd.toList == [115, 101, 116]) = false := by rw [hwd, Lib.toList_data]; decide
  have k1 : (wd.toList == [114, 101, 97, 100]) = false := by rw [hwd, Lib.toList_data]; decide
  have k2 : (wd.toList == [108, 105, 115, 116]) = false := by rw [hwd, Lib.toList_data]; decide
  have k3 : (wd.toList == [106, 111, 105, 110]) = false := by rw [hwd, Lib.toList_data]; decide
  have k4 : (wd.toList == [99, 117, 116]) = false := by rw [hwd, Lib.toList_data]; decide
  have k5 : (wd.toList == [115, 105, 122, 101]) = false := by rw [hwd, Lib.toList_data]; decide
  have k6 : (wd.toList == [115, 117, 109]) = false := by rw [hwd, Lib.toList_data]; decide
  have k7 : (wd.toList == [109, 97, 107, 101]) = true := by rw [hwd, Lib.toList_data]; decide
  have k8 : (wd.toList == [114, 117, 110]) = false := by rw [hwd, Lib.toList_data]; decide
  have k9 : (wd.toList == [115, 97, 109, 101]) = false := by rw [hwd, Lib.toList_data]; decide
  have k10 : (wd.toList == [108, 101, 115, 115]) = false := by rw [hwd, Lib.toList_data]; decide
  have k11 : (wd.toList == [103, 111, 116, 111]) = false := by rw [hwd, Lib.toList_data]; decide
  have k12 : (wd.toList == [101, 120, 105, 116]) = false := by rw [hwd, Lib.toList_data]; decide
  have HWD : Hid (wd = bA [109, 97, 107, 101]) := hwd
  clear hwd
  have r1 : pathOk (bA b) = false := h0
  clear hrig hws hwe hn1 hs h0
  go_enter Tryz.func9, Tryz.ntmps9
  go_wp2_with (first
    | (go_at_call 15; refine HW.out.mono ?_; rintro e w1 ⟨g, cap, rfl, HB1, hrw⟩; have HRW : Hid (RW (w1.alloc (.cells #[.slice (some ⟨g, 0, none⟩) 3 cap] 22)) w1.heap.size g 3 cap ws) := hrw; have q0 := (hrw.cells 0 [109, 97, 107, 101] (by rw [HWS.out]; rfl)).1; rw [← HWD.out] at q0; have yc := hrw.y; have p1 := (hrw.cells 1 b (by rw [HWS.out]; rfl)).1; have HBA : Hid (Below w.heap.size w (w1.alloc (.cells #[.slice (some ⟨g, 0, none⟩) 3 cap] 22))) := HB1.out.alloc HB1.out.size _; clear hrw)
    | (go_at_call 18; refine (RIsPath_any (bA b) _).mono ?_; rintro e w5 ⟨rfl, hb5⟩; have HRW5 := HRW.out.below hb5; have HRW : Hid (RW w5 w1.heap.size g 3 cap ws) := HRW5; have HB5 := below_low HBA.out hb5 HBA.out.size; have HBA : Hid (Below w.heap.size w w5) := HB5; have yc5 := HRW.out.y; clear hb5 HRW5 HB5)
    | go_in)
  go_ret
  exact ⟨rfl, HBA.out⟩

set_option maxHeartbeats 4000000 in
set_option maxRecDepth 100000 in
theorem RL_make_1 (lines : Nat) (s : ByteArray) (w : World) (hs : s.size ≤ 100000) {b c : List UInt8} (hws : wdL [] s.data.toList = [[109, 97, 107, 101], b, c]) (h0 : okP lines 7 b = true) (h1 : okP lines 0 c = false) :
    Calls Tryz.prog 9 #[.string s, .int .i64 (lines : Int)] w fun e w' => e = .returned (.bool (rigF lines s.data.toList)) ∧ Below w.heap.size w w' := by
  have hrig : rigF lines s.data.toList = false := by
    rw [rig_of hws rfl (f := [7, 0]) rfl (by decide)]
    simp [allP, h0, h1]
  rw [hrig]
  obtain ⟨ws, hwe⟩ : ∃ ws, [[109, 97, 107, 101], b, c] = ws := ⟨_, rfl⟩
  have hn1 : ws.length = 3 := by rw [← hwe]; rfl
  have HWS : Hid (ws = [[109, 97, 107, 101], b, c]) := hwe.symm
  rw [hwe] at hws
  have HW := words_front s w hs hws hn1
  have HW : Hid (Calls Tryz.prog 15 #[.string s] w fun e w1 => ∃ g cap, e = .returned (.slice (some ⟨g, 0, none⟩) 3 cap) ∧ Hid (Below w.heap.size w w1) ∧ RW (w1.alloc (.cells #[.slice (some ⟨g, 0, none⟩) 3 cap] 22)) w1.heap.size g 3 cap ws) := HW
  obtain ⟨wd, hwd⟩ : ∃ wd, wd = bA [109, 97, 107, 101] := ⟨_, rfl⟩
  have k0 : (wd.toList == [115, 101, 116]) = false := by rw [hwd, Lib.toList_data]; decide
  have k1 : (wd.toList == [114, 101, 97, 100]) = false := by rw [hwd, Lib.toList_data]; decide
  have k2 : (wd.toList == [108, 105, 115, 116]) = false := by rw [hwd, Lib.toList_data]; decide
  have k3 : (wd.toList == [106, 111, 105, 110]) = false := by rw [hwd, Lib.toList_data]; decide
  have k4 : (wd.toList == [99, 117, 116]) = false := by rw [hwd, Lib.toList_data]; decide
  have k5 : (wd.toList == [115, 105, 122, 101]) = false := by rw [hwd, Lib.toList_data]; decide
  have k6 : (wd.toList == [115, 117, 109]) = false := by rw [hwd, Lib.toList_data]; decide
  have k7 : (wd.toList == [109, 97, 107, 101]) = true := by rw [hwd, Lib.toList_data]; decide
  have k8 : (wd.toList == [114, 117, 110]) = false := by rw [hwd, Lib.toList_data]; decide
  have k9 : (wd.toList == [115, 97, 109, 101]) = false := by rw [hwd, Lib.toList_data]; decide
  have k10 : (wd.toList == [108, 101, 115, 115]) = false := by rw [hwd, Lib.toList_data]; decide
  have k11 : (wd.toList == [103, 111, 116, 111]) = false := by rw [hwd, Lib.toList_data]; decide
  have k12 : (wd.toList == [101, 120, 105, 116]) = false := by rw [hwd, Lib.toList_data]; decide
  have HWD : Hid (wd = bA [109, 97, 107, 101]) := hwd
  clear hwd
  have r2 : (regF c).isSome = false := h1
  have r1 : pathOk (bA b) = true := h0
  clear hrig hws hwe hn1 hs h0 h1
  go_enter Tryz.func9, Tryz.ntmps9
  go_wp2_with (first
    | (go_at_call 15; refine HW.out.mono ?_; rintro e w1 ⟨g, cap, rfl, HB1, hrw⟩; have HRW : Hid (RW (w1.alloc (.cells #[.slice (some ⟨g, 0, none⟩) 3 cap] 22)) w1.heap.size g 3 cap ws) := hrw; have q0 := (hrw.cells 0 [109, 97, 107, 101] (by rw [HWS.out]; rfl)).1; rw [← HWD.out] at q0; have yc := hrw.y; have p1 := (hrw.cells 1 b (by rw [HWS.out]; rfl)).1; have HBA : Hid (Below w.heap.size w (w1.alloc (.cells #[.slice (some ⟨g, 0, none⟩) 3 cap] 22))) := HB1.out.alloc HB1.out.size _; clear hrw)
    | (go_at_call 16; refine (r_any HRW.out 2 (x := c) (by rw [HWS.out]; rfl)).mono ?_; rintro e w4 ⟨rfl, hw⟩; subst w4)
    | (go_at_call 18; refine (RIsPath_any (bA b) _).mono ?_; rintro e w5 ⟨rfl, hb5⟩; have HRW5 := HRW.out.below hb5; have HRW : Hid (RW w5 w1.heap.size g 3 cap ws) := HRW5; have HB5 := below_low HBA.out hb5 HBA.out.size; have HBA : Hid (Below w.heap.size w w5) := HB5; have yc5 := HRW.out.y; clear hb5 HRW5 HB5)
    | go_in)
  go_ret
  exact ⟨rfl, HBA.out⟩

set_option maxHeartbeats 4000000 in
set_option maxRecDepth 100000 in
theorem RL_make_2 (lines : Nat) (s : ByteArray) (w : World) (hs : s.size ≤ 100000) {b c : List UInt8} (hws : wdL [] s.data.toList = [[109, 97, 107, 101], b, c]) (h0 : okP lines 7 b = true) (h1 : okP lines 0 c = true) :
    Calls Tryz.prog 9 #[.string s, .int .i64 (lines : Int)] w fun e w' => e = .returned (.bool (rigF lines s.data.toList)) ∧ Below w.heap.size w w' := by
  have hrig : rigF lines s.data.toList = true := by
    rw [rig_of hws rfl (f := [7, 0]) rfl (by decide)]
    simp [allP, h0, h1]
  rw [hrig]
  obtain ⟨ws, hwe⟩ : ∃ ws, [[109, 97, 107, 101], b, c] = ws := ⟨_, rfl⟩
  have hn1 : ws.length = 3 := by rw [← hwe]; rfl
  have HWS : Hid (ws = [[109, 97, 107, 101], b, c]) := hwe.symm
  rw [hwe] at hws
  have HW := words_front s w hs hws hn1
  have HW : Hid (Calls Tryz.prog 15 #[.string s] w fun e w1 => ∃ g cap, e = .returned (.slice (some ⟨g, 0, none⟩) 3 cap) ∧ Hid (Below w.heap.size w w1) ∧ RW (w1.alloc (.cells #[.slice (some ⟨g, 0, none⟩) 3 cap] 22)) w1.heap.size g 3 cap ws) := HW
  obtain ⟨wd, hwd⟩ : ∃ wd, wd = bA [109, 97, 107, 101] := ⟨_, rfl⟩
  have k0 : (wd.toList == [115, 101, 116]) = false := by rw [hwd, Lib.toList_data]; decide
  have k1 : (wd.toList == [114, 101, 97, 100]) = false := by rw [hwd, Lib.toList_data]; decide
  have k2 : (wd.toList == [108, 105, 115, 116]) = false := by rw [hwd, Lib.toList_data]; decide
  have k3 : (wd.toList == [106, 111, 105, 110]) = false := by rw [hwd, Lib.toList_data]; decide
  have k4 : (wd.toList == [99, 117, 116]) = false := by rw [hwd, Lib.toList_data]; decide
  have k5 : (wd.toList == [115, 105, 122, 101]) = false := by rw [hwd, Lib.toList_data]; decide
  have k6 : (wd.toList == [115, 117, 109]) = false := by rw [hwd, Lib.toList_data]; decide
  have k7 : (wd.toList == [109, 97, 107, 101]) = true := by rw [hwd, Lib.toList_data]; decide
  have k8 : (wd.toList == [114, 117, 110]) = false := by rw [hwd, Lib.toList_data]; decide
  have k9 : (wd.toList == [115, 97, 109, 101]) = false := by rw [hwd, Lib.toList_data]; decide
  have k10 : (wd.toList == [108, 101, 115, 115]) = false := by rw [hwd, Lib.toList_data]; decide
  have k11 : (wd.toList == [103, 111, 116, 111]) = false := by rw [hwd, Lib.toList_data]; decide
  have k12 : (wd.toList == [101, 120, 105, 116]) = false := by rw [hwd, Lib.toList_data]; decide
  have HWD : Hid (wd = bA [109, 97, 107, 101]) := hwd
  clear hwd
  have r2 : (regF c).isSome = true := h1
  have r1 : pathOk (bA b) = true := h0
  clear hrig hws hwe hn1 hs h0 h1
  go_enter Tryz.func9, Tryz.ntmps9
  go_wp2_with (first
    | (go_at_call 15; refine HW.out.mono ?_; rintro e w1 ⟨g, cap, rfl, HB1, hrw⟩; have HRW : Hid (RW (w1.alloc (.cells #[.slice (some ⟨g, 0, none⟩) 3 cap] 22)) w1.heap.size g 3 cap ws) := hrw; have q0 := (hrw.cells 0 [109, 97, 107, 101] (by rw [HWS.out]; rfl)).1; rw [← HWD.out] at q0; have yc := hrw.y; have p1 := (hrw.cells 1 b (by rw [HWS.out]; rfl)).1; have HBA : Hid (Below w.heap.size w (w1.alloc (.cells #[.slice (some ⟨g, 0, none⟩) 3 cap] 22))) := HB1.out.alloc HB1.out.size _; clear hrw)
    | (go_at_call 16; refine (r_any HRW.out 2 (x := c) (by rw [HWS.out]; rfl)).mono ?_; rintro e w4 ⟨rfl, hw⟩; subst w4)
    | (go_at_call 18; refine (RIsPath_any (bA b) _).mono ?_; rintro e w5 ⟨rfl, hb5⟩; have HRW5 := HRW.out.below hb5; have HRW : Hid (RW w5 w1.heap.size g 3 cap ws) := HRW5; have HB5 := below_low HBA.out hb5 HBA.out.size; have HBA : Hid (Below w.heap.size w w5) := HB5; have yc5 := HRW.out.y; clear hb5 HRW5 HB5)
    | go_in)
  go_ret
  exact ⟨rfl, HBA.out⟩

set_option maxHeartbeats 4000000 in
set_option maxRecDepth 100000 in
theorem RL_run_no (lines : Nat) (s : ByteArray) (w : World) (hs : s.size ≤ 100000) {rest : List (List UInt8)} (hws : wdL [] s.data.toList = [114, 117, 110] :: rest) (hn : ¬ ([114, 117, 110] :: rest).length = 3) :
    Calls Tryz.prog 9 #[.string s, .int .i64 (lines : Int)] w fun e w' => e = .returned (.bool (rigF lines s.data.toList)) ∧ Below w.heap.size w w' := by
  have hrig : rigF lines s.data.toList = false := by
    rw [rig_of hws rfl (f := [7, 0]) rfl (by decide), decide_eq_false (by simpa using hn), Bool.false_and]
  rw [hrig]
  obtain ⟨ws, hwe⟩ : ∃ ws, [114, 117, 110] :: rest = ws := ⟨_, rfl⟩
  obtain ⟨n, hn1⟩ : ∃ n, ws.length = n := ⟨_, rfl⟩
  have HWS : Hid (ws = [114, 117, 110] :: rest) := hwe.symm
  rw [hwe] at hws hn
  rw [hn1] at hn
  have hnp : 1 ≤ n := by rw [← hn1, ← hwe]; simp
  have hnb : n ≤ 1000000 := by
    have h1 := wdL_len s.data.toList []
    have h2 : s.size = s.data.toList.length := size_of rfl
    rw [hws, hn1] at h1
    omega
  have HW := words_front s w hs hws hn1
  have HW : Hid (Calls Tryz.prog 15 #[.string s] w fun e w1 => ∃ g cap, e = .returned (.slice (some ⟨g, 0, none⟩) n cap) ∧ Hid (Below w.heap.size w w1) ∧ RW (w1.alloc (.cells #[.slice (some ⟨g, 0, none⟩) n cap] 22)) w1.heap.size g n cap ws) := HW
  obtain ⟨m, hm⟩ : ∃ m : Nat, n = m + 1 := ⟨n - 1, by omega⟩
  subst hm
  have e1 : IntKind.i64.wrap (m : Int) = (m : Int) := by rw [IntKind.wrap_i64]; omega
  have e2 : (0 : Int) < (m : Int) + 1 := by omega
  have e3 : ((m : Int) == 2) = false := by simp; omega
  obtain ⟨wd, hwd⟩ : ∃ wd, wd = bA [114, 117, 110] := ⟨_, rfl⟩
  have k0 : (wd.toList == [115, 101, 116]) = false := by rw [hwd, Lib.toList_data]; decide
  have k1 : (wd.toList == [114, 101, 97, 100]) = false := by rw [hwd, Lib.toList_data]; decide
  have k2 : (wd.toList == [108, 105, 115, 116]) = false := by rw [hwd, Lib.toList_data]; decide
  have k3 : (wd.toList == [106, 111, 105, 110]) = false := by rw [hwd, Lib.toList_data]; decide
  have k4 : (wd.toList == [99, 117, 116]) = false := by rw [hwd, Lib.toList_data]; decide
  have k5 : (wd.toList == [115, 105, 122, 101]) = false := by rw [hwd, Lib.toList_data]; decide
  have k6 : (wd.toList == [115, 117, 109]) = false := by rw [hwd, Lib.toList_data]; decide
  have k7 : (wd.toList == [109, 97, 107, 101]) = false := by rw [hwd, Lib.toList_data]; decide
  have k8 : (wd.toList == [114, 117, 110]) = true := by rw [hwd, Lib.toList_data]; decide
  have k9 : (wd.toList == [115, 97, 109, 101]) = false := by rw [hwd, Lib.toList_data]; decide
  have k10 : (wd.toList == [108, 101, 115, 115]) = false := by rw [hwd, Lib.toList_data]; decide
  have k11 : (wd.toList == [103, 111, 116, 111]) = false := by rw [hwd, Lib.toList_data]; decide
  have k12 : (wd.toList == [101, 120, 105, 116]) = false := by rw [hwd, Lib.toList_data]; decide
  have HWD : Hid (wd = bA [114, 117, 110]) := hwd
  clear hwd
  clear hrig hws hwe hn hn1 hnp hnb hs
  go_enter Tryz.func9, Tryz.ntmps9
  go_wp2_with (first
    | (go_at_call 15; refine HW.out.mono ?_; rintro e w1 ⟨g, cap, rfl, HB1, hrw⟩; have HRW : Hid (RW (w1.alloc (.cells #[.slice (some ⟨g, 0, none⟩) (m + 1) cap] 22)) w1.heap.size g (m + 1) cap ws) := hrw; have q0 := (hrw.cells 0 [114, 117, 110] (by rw [HWS.out]; rfl)).1; rw [← HWD.out] at q0; have yc := hrw.y; have HBA : Hid (Below w.heap.size w (w1.alloc (.cells #[.slice (some ⟨g, 0, none⟩) (m + 1) cap] 22))) := HB1.out.alloc HB1.out.size _; clear hrw)
    | go_in)
  go_ret
  exact ⟨rfl, HBA.out⟩

set_option maxHeartbeats 4000000 in
set_option maxRecDepth 100000 in
theorem RL_run_0 (lines : Nat) (s : ByteArray) (w : World) (hs : s.size ≤ 100000) {b c : List UInt8} (hws : wdL [] s.data.toList = [[114, 117, 110], b, c]) (h0 : okP lines 7 b = false) :
    Calls Tryz.prog 9 #[.string s, .int .i64 (lines : Int)] w fun e w' => e = .returned (.bool (rigF lines s.data.toList)) ∧ Below w.heap.size w w' := by
  have hrig : rigF lines s.data.toList = false := by
    rw [rig_of hws rfl (f := [7, 0]) rfl (by decide)]
    simp [allP, h0]
  rw [hrig]
  obtain ⟨ws, hwe⟩ : ∃ ws, [[114, 117, 110], b, c] = ws := ⟨_, rfl⟩
  have hn1 : ws.length = 3 := by rw [← hwe]; rfl
  have HWS : Hid (ws = [[114, 117, 110], b, c]) := hwe.symm
  rw [hwe] at hws
  have HW := words_front s w hs hws hn1
  have HW : Hid (Calls Tryz.prog 15 #[.string s] w fun e w1 => ∃ g cap, e = .returned (.slice (some ⟨g, 0, none⟩) 3 cap) ∧ Hid (Below w.heap.size w w1) ∧ RW (w1.alloc (.cells #[.slice (some ⟨g, 0, none⟩) 3 cap] 22)) w1.heap.size g 3 cap ws) := HW
  obtain ⟨wd, hwd⟩ : ∃ wd, wd = bA [114, 117, 110] := ⟨_, rfl⟩
  have k0 : (wd.toList == [115, 101, 116]) = false := by rw [hwd, Lib.toList_data]; decide
  have k1 : (wd.toList == [114, 101, 97, 100]) = false := by rw [hwd, Lib.toList_data]; decide
  have k2 : (wd.toList == [108, 105, 115, 116]) = false := by rw [hwd, Lib.toList_data]; decide
  have k3 : (wd.toList == [106, 111, 105, 110]) = false := by rw [hwd, Lib.toList_data]; decide
  have k4 : (wd.toList == [99, 117, 116]) = false := by rw [hwd, Lib.toList_data]; decide
  have k5 : (wd.toList == [115, 105, 122, 101]) = false := by rw [hwd, Lib.toList_data]; decide
  have k6 : (wd.toList == [115, 117, 109]) = false := by rw [hwd, Lib.toList_data]; decide
  have k7 : (wd.toList == [109, 97, 107, 101]) = false := by rw [hwd, Lib.toList_data]; decide
  have k8 : (wd.toList == [114, 117, 110]) = true := by rw [hwd, Lib.toList_data]; decide
  have k9 : (wd.toList == [115, 97, 109, 101]) = false := by rw [hwd, Lib.toList_data]; decide
  have k10 : (wd.toList == [108, 101, 115, 115]) = false := by rw [hwd, Lib.toList_data]; decide
  have k11 : (wd.toList == [103, 111, 116, 111]) = false := by rw [hwd, Lib.toList_data]; decide
  have k12 : (wd.toList == [101, 120, 105, 116]) = false := by rw [hwd, Lib.toList_data]; decide
  have HWD : Hid (wd = bA [114, 117, 110]) := hwd
  clear hwd
  have r1 : pathOk (bA b) = false := h0
  clear hrig hws hwe hn1 hs h0
  go_enter Tryz.func9, Tryz.ntmps9
  go_wp2_with (first
    | (go_at_call 15; refine HW.out.mono ?_; rintro e w1 ⟨g, cap, rfl, HB1, hrw⟩; have HRW : Hid (RW (w1.alloc (.cells #[.slice (some ⟨g, 0, none⟩) 3 cap] 22)) w1.heap.size g 3 cap ws) := hrw; have q0 := (hrw.cells 0 [114, 117, 110] (by rw [HWS.out]; rfl)).1; rw [← HWD.out] at q0; have yc := hrw.y; have p1 := (hrw.cells 1 b (by rw [HWS.out]; rfl)).1; have HBA : Hid (Below w.heap.size w (w1.alloc (.cells #[.slice (some ⟨g, 0, none⟩) 3 cap] 22))) := HB1.out.alloc HB1.out.size _; clear hrw)
    | (go_at_call 18; refine (RIsPath_any (bA b) _).mono ?_; rintro e w5 ⟨rfl, hb5⟩; have HRW5 := HRW.out.below hb5; have HRW : Hid (RW w5 w1.heap.size g 3 cap ws) := HRW5; have HB5 := below_low HBA.out hb5 HBA.out.size; have HBA : Hid (Below w.heap.size w w5) := HB5; have yc5 := HRW.out.y; clear hb5 HRW5 HB5)
    | go_in)
  go_ret
  exact ⟨rfl, HBA.out⟩

set_option maxHeartbeats 4000000 in
set_option maxRecDepth 100000 in
theorem RL_run_1 (lines : Nat) (s : ByteArray) (w : World) (hs : s.size ≤ 100000) {b c : List UInt8} (hws : wdL [] s.data.toList = [[114, 117, 110], b, c]) (h0 : okP lines 7 b = true) (h1 : okP lines 0 c = false) :
    Calls Tryz.prog 9 #[.string s, .int .i64 (lines : Int)] w fun e w' => e = .returned (.bool (rigF lines s.data.toList)) ∧ Below w.heap.size w w' := by
  have hrig : rigF lines s.data.toList = false := by
    rw [rig_of hws rfl (f := [7, 0]) rfl (by decide)]
    simp [allP, h0, h1]
  rw [hrig]
  obtain ⟨ws, hwe⟩ : ∃ ws, [[114, 117, 110], b, c] = ws := ⟨_, rfl⟩
  have hn1 : ws.length = 3 := by rw [← hwe]; rfl
  have HWS : Hid (ws = [[114, 117, 110], b, c]) := hwe.symm
  rw [hwe] at hws
  have HW := words_front s w hs hws hn1
  have HW : Hid (Calls Tryz.prog 15 #[.string s] w fun e w1 => ∃ g cap, e = .returned (.slice (some ⟨g, 0, none⟩) 3 cap) ∧ Hid (Below w.heap.size w w1) ∧ RW (w1.alloc (.cells #[.slice (some ⟨g, 0, none⟩) 3 cap] 22)) w1.heap.size g 3 cap ws) := HW
  obtain ⟨wd, hwd⟩ : ∃ wd, wd = bA [114, 117, 110] := ⟨_, rfl⟩
  have k0 : (wd.toList == [115, 101, 116]) = false := by rw [hwd, Lib.toList_data]; decide
  have k1 : (wd.toList == [114, 101, 97, 100]) = false := by rw [hwd, Lib.toList_data]; decide
  have k2 : (wd.toList == [108, 105, 115, 116]) = false := by rw [hwd, Lib.toList_data]; decide
  have k3 : (wd.toList == [106, 111, 105, 110]) = false := by rw [hwd, Lib.toList_data]; decide
  have k4 : (wd.toList == [99, 117, 116]) = false := by rw [hwd, Lib.toList_data]; decide
  have k5 : (wd.toList == [115, 105, 122, 101]) = false := by rw [hwd, Lib.toList_data]; decide
  have k6 : (wd.toList == [115, 117, 109]) = false := by rw [hwd, Lib.toList_data]; decide
  have k7 : (wd.toList == [109, 97, 107, 101]) = false := by rw [hwd, Lib.toList_data]; decide
  have k8 : (wd.toList == [114, 117, 110]) = true := by rw [hwd, Lib.toList_data]; decide
  have k9 : (wd.toList == [115, 97, 109, 101]) = false := by rw [hwd, Lib.toList_data]; decide
  have k10 : (wd.toList == [108, 101, 115, 115]) = false := by rw [hwd, Lib.toList_data]; decide
  have k11 : (wd.toList == [103, 111, 116, 111]) = false := by rw [hwd, Lib.toList_data]; decide
  have k12 : (wd.toList == [101, 120, 105, 116]) = false := by rw [hwd, Lib.toList_data]; decide
  have HWD : Hid (wd = bA [114, 117, 110]) := hwd
  clear hwd
  have r2 : (regF c).isSome = false := h1
  have r1 : pathOk (bA b) = true := h0
  clear hrig hws hwe hn1 hs h0 h1
  go_enter Tryz.func9, Tryz.ntmps9
  go_wp2_with (first
    | (go_at_call 15; refine HW.out.mono ?_; rintro e w1 ⟨g, cap, rfl, HB1, hrw⟩; have HRW : Hid (RW (w1.alloc (.cells #[.slice (some ⟨g, 0, none⟩) 3 cap] 22)) w1.heap.size g 3 cap ws) := hrw; have q0 := (hrw.cells 0 [114, 117, 110] (by rw [HWS.out]; rfl)).1; rw [← HWD.out] at q0; have yc := hrw.y; have p1 := (hrw.cells 1 b (by rw [HWS.out]; rfl)).1; have HBA : Hid (Below w.heap.size w (w1.alloc (.cells #[.slice (some ⟨g, 0, none⟩) 3 cap] 22))) := HB1.out.alloc HB1.out.size _; clear hrw)
    | (go_at_call 16; refine (r_any HRW.out 2 (x := c) (by rw [HWS.out]; rfl)).mono ?_; rintro e w4 ⟨rfl, hw⟩; subst w4)
    | (go_at_call 18; refine (RIsPath_any (bA b) _).mono ?_; rintro e w5 ⟨rfl, hb5⟩; have HRW5 := HRW.out.below hb5; have HRW : Hid (RW w5 w1.heap.size g 3 cap ws) := HRW5; have HB5 := below_low HBA.out hb5 HBA.out.size; have HBA : Hid (Below w.heap.size w w5) := HB5; have yc5 := HRW.out.y; clear hb5 HRW5 HB5)
    | go_in)
  go_ret
  exact ⟨rfl, HBA.out⟩

set_option maxHeartbeats 4000000 in
set_option maxRecDepth 100000 in
theorem RL_run_2 (lines : Nat) (s : ByteArray) (w : World) (hs : s.size ≤ 100000) {b c : List UInt8} (hws : wdL [] s.data.toList = [[114, 117, 110], b, c]) (h0 : okP lines 7 b = true) (h1 : okP lines 0 c = true) :
    Calls Tryz.prog 9 #[.string s, .int .i64 (lines : Int)] w fun e w' => e = .returned (.bool (rigF lines s.data.toList)) ∧ Below w.heap.size w w' := by
  have hrig : rigF lines s.data.toList = true := by
    rw [rig_of hws rfl (f := [7, 0]) rfl (by decide)]
    simp [allP, h0, h1]
  rw [hrig]
  obtain ⟨ws, hwe⟩ : ∃ ws, [[114, 117, 110], b, c] = ws := ⟨_, rfl⟩
  have hn1 : ws.length = 3 := by rw [← hwe]; rfl
  have HWS : Hid (ws = [[114, 117, 110], b, c]) := hwe.symm
  rw [hwe] at hws
  have HW := words_front s w hs hws hn1
  have HW : Hid (Calls Tryz.prog 15 #[.string s] w fun e w1 => ∃ g cap, e = .returned (.slice (some ⟨g, 0, none⟩) 3 cap) ∧ Hid (Below w.heap.size w w1) ∧ RW (w1.alloc (.cells #[.slice (some ⟨g, 0, none⟩) 3 cap] 22)) w1.heap.size g 3 cap ws) := HW
  obtain ⟨wd, hwd⟩ : ∃ wd, wd = bA [114, 117, 110] := ⟨_, rfl⟩
  have k0 : (wd.toList == [115, 101, 116]) = false := by rw [hwd, Lib.toList_data]; decide
  have k1 : (wd.toList == [114, 101, 97, 100]) = false := by rw [hwd, Lib.toList_data]; decide
  have k2 : (wd.toList == [108, 105, 115, 116]) = false := by rw [hwd, Lib.toList_data]; decide
  have k3 : (wd.toList == [106, 111, 105, 110]) = false := by rw [hwd, Lib.toList_data]; decide
  have k4 : (wd.toList == [99, 117, 116]) = false := by rw [hwd, Lib.toList_data]; decide
  have k5 : (wd.toList == [115, 105, 122, 101]) = false := by rw [hwd, Lib.toList_data]; decide
  have k6 : (wd.toList == [115, 117, 109]) = false := by rw [hwd, Lib.toList_data]; decide
  have k7 : (wd.toList == [109, 97, 107, 101]) = false := by rw [hwd, Lib.toList_data]; decide
  have k8 : (wd.toList == [114, 117, 110]) = true := by rw [hwd, Lib.toList_data]; decide
  have k9 : (wd.toList == [115, 97, 109, 101]) = false := by rw [hwd, Lib.toList_data]; decide
  have k10 : (wd.toList == [108, 101, 115, 115]) = false := by rw [hwd, Lib.toList_data]; decide
  have k11 : (wd.toList == [103, 111, 116, 111]) = false := by rw [hwd, Lib.toList_data]; decide
  have k12 : (wd.toList == [101, 120, 105, 116]) = false := by rw [hwd, Lib.toList_data]; decide
  have HWD : Hid (wd = bA [114, 117, 110]) := hwd
  clear hwd
  have r2 : (regF c).isSome = true := h1
  have r1 : pathOk (bA b) = true := h0
  clear hrig hws hwe hn1 hs h0 h1
  go_enter Tryz.func9, Tryz.ntmps9
  go_wp2_with (first
    | (go_at_call 15; refine HW.out.mono ?_; rintro e w1 ⟨g, cap, rfl, HB1, hrw⟩; have HRW : Hid (RW (w1.alloc (.cells #[.slice (some ⟨g, 0, none⟩) 3 cap] 22)) w1.heap.size g 3 cap ws) := hrw; have q0 := (hrw.cells 0 [114, 117, 110] (by rw [HWS.out]; rfl)).1; rw [← HWD.out] at q0; have yc := hrw.y; have p1 := (hrw.cells 1 b (by rw [HWS.out]; rfl)).1; have HBA : Hid (Below w.heap.size w (w1.alloc (.cells #[.slice (some ⟨g, 0, none⟩) 3 cap] 22))) := HB1.out.alloc HB1.out.size _; clear hrw)
    | (go_at_call 16; refine (r_any HRW.out 2 (x := c) (by rw [HWS.out]; rfl)).mono ?_; rintro e w4 ⟨rfl, hw⟩; subst w4)
    | (go_at_call 18; refine (RIsPath_any (bA b) _).mono ?_; rintro e w5 ⟨rfl, hb5⟩; have HRW5 := HRW.out.below hb5; have HRW : Hid (RW w5 w1.heap.size g 3 cap ws) := HRW5; have HB5 := below_low HBA.out hb5 HBA.out.size; have HBA : Hid (Below w.heap.size w w5) := HB5; have yc5 := HRW.out.y; clear hb5 HRW5 HB5)
    | go_in)
  go_ret
  exact ⟨rfl, HBA.out⟩
end Go.Proofs.YtcpomkgfcpfedaaGreatDoor
