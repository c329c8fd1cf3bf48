/- The document's RightLine, by a line's first word. -/
import Derived.Test.YtcpomkgfcpfedaaGreatDoorSbJ
namespace Go.Proofs.YtcpomkgfcpfedaaGreatDoor
open Go.RowKit Go.Shelf

set_option maxHeartbeats 4000000 in
set_option maxRecDepth 100000 in
theorem RL_same_no (lines : Nat) (s : ByteArray) (w : World) (hs : s.size ≤ 100000) {rest : List (List UInt8)} (hws : wdL [] s.data.toList = [115, 97, 109, 101] :: rest) (hn : ¬ ([115, 97, 109, 101] :: rest).length = 4) :
    Calls Tryz.prog 9 #[.string s, .int .i64 (lines : Int)] w fun e w' => e = .returned (.bool (rigF lines s.data.toList)) ∧ Below w.heap.size w w' := by
  have hrig : rigF lines s.data.toList = false := by
    rw [rig_of hws rfl (f := [0, 1, 4]) rfl (by decide), decide_eq_false (by simpa using hn), Bool.false_and]
  rw [hrig]
  obtain ⟨ws, hwe⟩ : ∃ ws, [115, 97, 109, 101] :: rest = ws := ⟨_, rfl⟩
  obtain ⟨n, hn1⟩ : ∃ n, ws.length = n := ⟨_, rfl⟩
  have HWS : Hid (ws = [115, 97, 109, 101] :: rest) := hwe.symm
  rw [hwe] at hws hn
  rw [hn1] at hn
  have hnp : 1 ≤ n := by rw [← hn1, ← hwe]; simp
  have hnb : n ≤ 1000000 := by
    have h1 := wdL_len s.data.toList []
    have h2 : s.size = s.data.toList.length := size_of rfl
    rw [hws, hn1] at h1
    omega
  have HW := words_front s w hs hws hn1
  have HW : Hid (Calls Tryz.prog 15 #[.string s] w fun e w1 => ∃ g cap, e = .returned (.slice (some ⟨g, 0, none⟩) n cap) ∧ Hid (Below w.heap.size w w1) ∧ RW (w1.alloc (.cells #[.slice (some ⟨g, 0, none⟩) n cap] 22)) w1.heap.size g n cap ws) := HW
  obtain ⟨m, hm⟩ : ∃ m : Nat, n = m + 1 := ⟨n - 1, by omega⟩
  subst hm
  have e1 : IntKind.i64.wrap (m : Int) = (m : Int) := by rw [IntKind.wrap_i64]; omega
  have e2 : (0 : Int) < (m : Int) + 1 := by omega
  have e3 : ((m : Int) == 3) = false := by simp; omega
  obtain ⟨wd, hwd⟩ : ∃ wd, wd = bA [115, 97, 109, 101] := ⟨_, rfl⟩
  have k0 : (wd.toList == [115, 101, 116]) = false := by rw [hwd, Lib.toList_data]; decide
  have k1 : (wd.toList == [114, 101, 97, 100]) = false := by rw [hwd, Lib.toList_data]; decide
  have k2 : (wd.toList == [108, 105, 115, 116]) = false := by rw [hwd, Lib.toList_data]; decide
  have k3 : (wd.toList == [106, 111, 105, 110]) = false := by rw [hwd, Lib.toList_data]; decide
  have k4 : (wd.toList == [99, 117, 116]) = false := by rw [hwd, Lib.toList_data]; decide
  have k5 : (wd.toList == [115, 105, 122, 101]) = false := by rw [hwd, Lib.toList_data]; decide
  have k6 : (wd.toList == [115, 117, 109]) = false := by rw [hwd, Lib.toList_data]; decide
  have k7 : (wd.toList == [109, 97, 107, 101]) = false := by rw [hwd, Lib.toList_data]; decide
  have k8 : (wd.toList == [114, 117, 110]) = false := by rw [hwd, Lib.toList_data]; decide
  have k9 : (wd.toList == [115, 97, 109, 101]) = true := by rw [hwd, Lib.toList_data]; decide
  have k10 : (wd.toList == [108, 101, 115, 115]) = false := by rw [hwd, Lib.toList_data]; decide
  have k11 : (wd.toList == [103, 111, 116, 111]) = false := by rw [hwd, Lib.toList_data]; decide
  have k12 : (wd.toList == [101, 120, 105, 116]) = false := by rw [hwd, Lib.toList_data]; decide
  have HWD : Hid (wd = bA [115, 97, 109, 101]) := hwd
  clear hwd
  clear hrig hws hwe hn hn1 hnp hnb hs
  go_enter Tryz.func9, Tryz.ntmps9
  go_wp2_with (first
    | (go_at_call 15; refine HW.out.mono ?_; rintro e w1 ⟨g, cap, rfl, HB1, hrw⟩; have HRW : Hid (RW (w1.alloc (.cells #[.slice (some ⟨g, 0, none⟩) (m + 1) cap] 22)) w1.heap.size g (m + 1) cap ws) := hrw; have q0 := (hrw.cells 0 [115, 97, 109, 101] (by rw [HWS.out]; rfl)).1; rw [← HWD.out] at q0; have yc := hrw.y; have HBA : Hid (Below w.heap.size w (w1.alloc (.cells #[.slice (some ⟨g, 0, none⟩) (m + 1) cap] 22))) := HB1.out.alloc HB1.out.size _; clear hrw)
    | go_in)
  go_ret
  exact ⟨rfl, HBA.out⟩

set_option maxHeartbeats 4000000 in
set_option maxRecDepth 100000 in
theorem RL_same_0 (lines : Nat) (s : ByteArray) (w : World) (hs : s.size ≤ 100000) {b c d : List UInt8} (hws : wdL [] s.data.toList = [[115, 97, 109, 101], b, c, d]) (h0 : okP lines 0 b = false) :
    Calls Tryz.prog 9 #[.string s, .int .i64 (lines : Int)] w fun e w' => e = .returned (.bool (rigF lines s.data.toList)) ∧ Below w.heap.size w w' := by
  have hrig : rigF lines s.data.toList = false := by
    rw [rig_of hws rfl (f := [0, 1, 4]) rfl (by decide)]
    simp [allP, h0]
  rw [hrig]
  obtain ⟨ws, hwe⟩ : ∃ ws, [[115, 97, 109, 101], b, c, d] = ws := ⟨_, rfl⟩
  have hn1 : ws.length = 4 := by rw [← hwe]; rfl
  have HWS : Hid (ws = [[115, 97, 109, 101], b, c, d]) := hwe.symm
  rw [hwe] at hws
  have HW := words_front s w hs hws hn1
  have HW : Hid (Calls Tryz.prog 15 #[.string s] w fun e w1 => ∃ g cap, e = .returned (.slice (some ⟨g, 0, none⟩) 4 cap) ∧ Hid (Below w.heap.size w w1) ∧ RW (w1.alloc (.cells #[.slice (some ⟨g, 0, none⟩) 4 cap] 22)) w1.heap.size g 4 cap ws) := HW
  obtain ⟨wd, hwd⟩ : ∃ wd, wd = bA [115, 97, 109, 101] := ⟨_, rfl⟩
  have k0 : (wd.toList == [115, 101, 116]) = false := by rw [hwd, Lib.toList_data]; decide
  have k1 : (wd.toList == [114, 101, 97, 100]) = false := by rw [hwd, Lib.toList_data]; decide
  have k2 : (wd.toList == [108, 105, 115, 116]) = false := by rw [hwd, Lib.toList_data]; decide
  have k3 : (wd.toList == [106, 111, 105, 110]) = false := by rw [hwd, Lib.toList_data]; decide
  have k4 : (wd.toList == [99, 117, 116]) = false := by rw [hwd, Lib.toList_data]; decide
  have k5 : (wd.toList == [115, 105, 122, 101]) = false := by rw [hwd, Lib.toList_data]; decide
  have k6 : (wd.toList == [115, 117, 109]) = false := by rw [hwd, Lib.toList_data]; decide
  have k7 : (wd.toList == [109, 97, 107, 101]) = false := by rw [hwd, Lib.toList_data]; decide
  have k8 : (wd.toList == [114, 117, 110]) = false := by rw [hwd, Lib.toList_data]; decide
  have k9 : (wd.toList == [115, 97, 109, 101]) = true := by rw [hwd, Lib.toList_data]; decide
  have k10 : (wd.toList == [108, 101, 115, 115]) = false := by rw [hwd, Lib.toList_data]; decide
  have k11 : (wd.toList == [103, 111, 116, 111]) = false := by rw [hwd, Lib.toList_data]; decide
  have k12 : (wd.toList == [101, 120, 105, 116]) = false := by rw [hwd, Lib.toList_data]; decide
  have HWD : Hid (wd = bA [115, 97, 109, 101]) := hwd
  clear hwd
  have r1 : (regF b).isSome = false := h0
  clear hrig hws hwe hn1 hs h0
  go_enter Tryz.func9, Tryz.ntmps9
  go_wp2_with (first
    | (go_at_call 15; refine HW.out.mono ?_; rintro e w1 ⟨g, cap, rfl, HB1, hrw⟩; have HRW : Hid (RW (w1.alloc (.cells #[.slice (some ⟨g, 0, none⟩) 4 cap] 22)) w1.heap.size g 4 cap ws) := hrw; have q0 := (hrw.cells 0 [115, 97, 109, 101] (by rw [HWS.out]; rfl)).1; rw [← HWD.out] at q0; have yc := hrw.y; have HBA : Hid (Below w.heap.size w (w1.alloc (.cells #[.slice (some ⟨g, 0, none⟩) 4 cap] 22))) := HB1.out.alloc HB1.out.size _; clear hrw)
    | (go_at_call 16; refine (r_any HRW.out 1 (x := b) (by rw [HWS.out]; rfl)).mono ?_; rintro e w4 ⟨rfl, hw⟩; subst w4)
    | go_in)
  go_ret
  exact ⟨rfl, HBA.out⟩

set_option maxHeartbeats 4000000 in
set_option maxRecDepth 100000 in
theorem RL_same_1 (lines : Nat) (s : ByteArray) (w : World) (hs : s.size ≤ 100000) {b c d : List UInt8} (hws : wdL [] s.data.toList = [[115, 97, 109, 101], b, c, d]) (h0 : okP lines 0 b = true) (h1 : okP lines 1 c = false) :
    Calls Tryz.prog 9 #[.string s, .int .i64 (lines : Int)] w fun e w' => e = .returned (.bool (rigF lines s.data.toList)) ∧ Below w.heap.size w w' := by
  have hrig : rigF lines s.data.toList = false := by
    rw [rig_of hws rfl (f := [0, 1, 4]) rfl (by decide)]
    simp [allP, h0, h1]
  rw [hrig]
  obtain ⟨ws, hwe⟩ : ∃ ws, [[115, 97, 109, 101], b, c, d] = ws := ⟨_, rfl⟩
  have hn1 : ws.length = 4 := by rw [← hwe]; rfl
  have HWS : Hid (ws = [[115, 97, 109, 101], b, c, d]) := hwe.symm
  rw [hwe] at hws
  have HW := words_front s w hs hws hn1
  have HW : Hid (Calls Tryz.prog 15 #[.string s] w fun e w1 => ∃ g cap, e = .returned (.slice (some ⟨g, 0, none⟩) 4 cap) ∧ Hid (Below w.heap.size w w1) ∧ RW (w1.alloc (.cells #[.slice (some ⟨g, 0, none⟩) 4 cap] 22)) w1.heap.size g 4 cap ws) := HW
  obtain ⟨wd, hwd⟩ : ∃ wd, wd = bA [115, 97, 109, 101] := ⟨_, rfl⟩
  have k0 : (wd.toList == [115, 101, 116]) = false := by rw [hwd, Lib.toList_data]; decide
  have k1 : (wd.toList == [114, 101, 97, 100]) = false := by rw [hwd, Lib.toList_data]; decide
  have k2 : (wd.toList == [108, 105, 115, 116]) = false := by rw [hwd, Lib.toList_data]; decide
  have k3 : (wd.toList == [106, 111, 105, 110]) = false := by rw [hwd, Lib.toList_data]; decide
  have k4 : (wd.toList == [99, 117, 116]) = false := by rw [hwd, Lib.toList_data]; decide
  have k5 : (wd.toList == [115, 105, 122, 101]) = false := by rw [hwd, Lib.toList_data]; decide
  have k6 : (wd.toList == [115, 117, 109]) = false := by rw [hwd, Lib.toList_data]; decide
  have k7 : (wd.toList == [109, 97, 107, 101]) = false := by rw [hwd, Lib.toList_data]; decide
  have k8 : (wd.toList == [114, 117, 110]) = false := by rw [hwd, Lib.toList_data]; decide
  have k9 : (wd.toList == [115, 97, 109, 101]) = true := by rw [hwd, Lib.toList_data]; decide
  have k10 : (wd.toList == [108, 101, 115, 115]) = false := by rw [hwd, Lib.toList_data]; decide
  have k11 : (wd.toList == [103, 111, 116, 111]) = false := by rw [hwd, Lib.toList_data]; decide
  have k12 : (wd.toList == [101, 120, 105, 116]) = false := by rw [hwd, Lib.toList_data]; decide
  have HWD : Hid (wd = bA [115, 97, 109, 101]) := hwd
  clear hwd
  have r1 : (regF b).isSome = true := h0
  have r2 : (regF c).isSome = false := h1
  clear hrig hws hwe hn1 hs h0 h1
  go_enter Tryz.func9, Tryz.ntmps9
  go_wp2_with (first
    | (go_at_call 15; refine HW.out.mono ?_; rintro e w1 ⟨g, cap, rfl, HB1, hrw⟩; have HRW : Hid (RW (w1.alloc (.cells #[.slice (some ⟨g, 0, none⟩) 4 cap] 22)) w1.heap.size g 4 cap ws) := hrw; have q0 := (hrw.cells 0 [115, 97, 109, 101] (by rw [HWS.out]; rfl)).1; rw [← HWD.out] at q0; have yc := hrw.y; have HBA : Hid (Below w.heap.size w (w1.alloc (.cells #[.slice (some ⟨g, 0, none⟩) 4 cap] 22))) := HB1.out.alloc HB1.out.size _; clear hrw)
    | (go_at_call 16; refine (r_any HRW.out 1 (x := b) (by rw [HWS.out]; rfl)).mono ?_; rintro e w4 ⟨rfl, hw⟩; subst w4)
    | (go_at_call 16; refine (r_any HRW.out 2 (x := c) (by rw [HWS.out]; rfl)).mono ?_; rintro e w4 ⟨rfl, hw⟩; subst w4)
    | go_in)
  go_ret
  exact ⟨rfl, HBA.out⟩

set_option maxHeartbeats 4000000 in
set_option maxRecDepth 100000 in
theorem RL_same_2 (lines : Nat) (s : ByteArray) (w : World) (hs : s.size ≤ 100000) {b c d : List UInt8} (hws : wdL [] s.data.toList = [[115, 97, 109, 101], b, c, d]) (h0 : okP lines 0 b = true) (h1 : okP lines 1 c = true) (h2 : okP lines 4 d = false) :
    Calls Tryz.prog 9 #[.string s, .int .i64 (lines : Int)] w fun e w' => e = .returned (.bool (rigF lines s.data.toList)) ∧ Below w.heap.size w w' := by
  have hrig : rigF lines s.data.toList = false := by
    rw [rig_of hws rfl (f := [0, 1, 4]) rfl (by decide)]
    simp [allP, h0, h1, h2]
  rw [hrig]
  obtain ⟨ws, hwe⟩ : ∃ ws, [[115, 97, 109, 101], b, c, d] = ws := ⟨_, rfl⟩
  have hn1 : ws.length = 4 := by rw [← hwe]; rfl
  have HWS : Hid (ws = [[115, 97, 109, 101], b, c, d]) := hwe.symm
  rw [hwe] at hws
  have HW := words_front s w hs hws hn1
  have HW : Hid (Calls Tryz.prog 15 #[.string s] w fun e w1 => ∃ g cap, e = .returned (.slice (some ⟨g, 0, none⟩) 4 cap) ∧ Hid (Below w.heap.size w w1) ∧ RW (w1.alloc (.cells #[.slice (some ⟨g, 0, none⟩) 4 cap] 22)) w1.heap.size g 4 cap ws) := HW
  obtain ⟨wd, hwd⟩ : ∃ wd, wd = bA [115, 97, 109, 101] := ⟨_, rfl⟩
  have k0 : (wd.toList == [115, 101, 116]) = false := by rw [hwd, Lib.toList_data]; decide
  have k1 : (wd.toList == [114, 101, 97, 100]) = false := by rw [hwd, Lib.toList_data]; decide
  have k2 : (wd.toList == [108, 105, 115, 116]) = false := by rw [hwd, Lib.toList_data]; decide
  have k3 : (wd.toList == [106, 111, 105, 110]) = false := by rw [hwd, Lib.toList_data]; decide
  have k4 : (wd.toList == [99, 117, 116]) = false := by rw [hwd, Lib.toList_data]; decide
  have k5 : (wd.toList == [115, 105, 122, 101]) = false := by rw [hwd, Lib.toList_data]; decide
  have k6 : (wd.toList == [115, 117, 109]) = false := by rw [hwd, Lib.toList_data]; decide
  have k7 : (wd.toList == [109, 97, 107, 101]) = false := by rw [hwd, Lib.toList_data]; decide
  have k8 : (wd.toList == [114, 117, 110]) = false := by rw [hwd, Lib.toList_data]; decide
  have k9 : (wd.toList == [115, 97, 109, 101]) = true := by rw [hwd, Lib.toList_data]; decide
  have k10 : (wd.toList == [108, 101, 115, 115]) = false := by rw [hwd, Lib.toList_data]; decide
  have k11 : (wd.toList == [103, 111, 116, 111]) = false := by rw [hwd, Lib.toList_data]; decide
  have k12 : (wd.toList == [101, 120, 105, 116]) = false := by rw [hwd, Lib.toList_data]; decide
  have HWD : Hid (wd = bA [115, 97, 109, 101]) := hwd
  clear hwd
  have r1 : (regF b).isSome = true := h0
  have r2 : (regF c).isSome = true := h1
  rw [okP_num lines 4 d lines (.inr (.inr (.inl ⟨rfl, rfl⟩)))] at h2
  have HZ3 : Hid (nmbF (bA d).data.toList ((lines : Nat) : Int) = -1) := nmb_neg (by simpa using h2)
  have HN3 : Hid (∀ W, Calls Tryz.prog 19 #[.string (bA d), .int .i64 (lines : Int)] W fun e w' => e = .returned (.int .i64 (-1)) ∧ w' = W) := fun W => by
    have h := NumberOf_any (bA d) lines W (wd_size hs hws (by rw [HWS.out]; simp))
    rw [HZ3.out] at h
    exact h
  obtain ⟨x3, hx3⟩ : ∃ x, x = bA d := ⟨_, rfl⟩
  rw [← hx3] at HN3
  have HX3 : Hid (x3 = bA d) := hx3
  clear hx3
  clear hrig hws hwe hn1 hs h0 h1 h2
  go_enter Tryz.func9, Tryz.ntmps9
  go_wp2_with (first
    | (go_at_call 15; refine HW.out.mono ?_; rintro e w1 ⟨g, cap, rfl, HB1, hrw⟩; have HRW : Hid (RW (w1.alloc (.cells #[.slice (some ⟨g, 0, none⟩) 4 cap] 22)) w1.heap.size g 4 cap ws) := hrw; have q0 := (hrw.cells 0 [115, 97, 109, 101] (by rw [HWS.out]; rfl)).1; rw [← HWD.out] at q0; have yc := hrw.y; have p3 := (hrw.cells 3 d (by rw [HWS.out]; rfl)).1; rw [← HX3.out] at p3; have HBA : Hid (Below w.heap.size w (w1.alloc (.cells #[.slice (some ⟨g, 0, none⟩) 4 cap] 22))) := HB1.out.alloc HB1.out.size _; clear hrw)
    | (go_at_call 16; refine (r_any HRW.out 1 (x := b) (by rw [HWS.out]; rfl)).mono ?_; rintro e w4 ⟨rfl, hw⟩; subst w4)
    | (go_at_call 16; refine (r_any HRW.out 2 (x := c) (by rw [HWS.out]; rfl)).mono ?_; rintro e w4 ⟨rfl, hw⟩; subst w4)
    | (go_at_call 19; with_reducible refine (HN3.out _).mono ?_; rintro e w4 ⟨rfl, hw⟩; subst w4)
    | go_in)
  go_ret
  exact ⟨rfl, HBA.out⟩

set_option maxHeartbeats 4000000 in
set_option maxRecDepth 100000 in
theorem RL_same_3 (lines : Nat) (s : ByteArray) (w : World) (hs : s.size ≤ 100000) {b c d : List UInt8} (hws : wdL [] s.data.toList = [[115, 97, 109, 101], b, c, d]) (h0 : okP lines 0 b = true) (h1 : okP lines 1 c = true) (h2 : okP lines 4 d = true) :
    Calls Tryz.prog 9 #[.string s, .int .i64 (lines : Int)] w fun e w' => e = .returned (.bool (rigF lines s.data.toList)) ∧ Below w.heap.size w w' := by
  have hrig : rigF lines s.data.toList = true := by
    rw [rig_of hws rfl (f := [0, 1, 4]) rfl (by decide)]
    simp [allP, h0, h1, h2]
  rw [hrig]
  obtain ⟨ws, hwe⟩ : ∃ ws, [[115, 97, 109, 101], b, c, d] = ws := ⟨_, rfl⟩
  have hn1 : ws.length = 4 := by rw [← hwe]; rfl
  have HWS : Hid (ws = [[115, 97, 109, 101], b, c, d]) := hwe.symm
  rw [hwe] at hws
  have HW := words_front s w hs hws hn1
  have HW : Hid (Calls Tryz.prog 15 #[.string s] w fun e w1 => ∃ g cap, e = .returned (.slice (some ⟨g, 0, none⟩) 4 cap) ∧ Hid (Below w.heap.size w w1) ∧ RW (w1.alloc (.cells #[.slice (some ⟨g, 0, none⟩) 4 cap] 22)) w1.heap.size g 4 cap ws) := HW
  obtain ⟨wd, hwd⟩ : ∃ wd, wd = bA [115, 97, 109, 101] := ⟨_, rfl⟩
  have k0 : (wd.toList == [115, 101, 116]) = false := by rw [hwd, Lib.toList_data]; decide
  have k1 : (wd.toList == [114, 101, 97, 100]) = false := by rw [hwd, Lib.toList_data]; decide
  have k2 : (wd.toList == [108, 105, 115, 116]) = false := by rw [hwd, Lib.toList_data]; decide
  have k3 : (wd.toList == [106, 111, 105, 110]) = false := by rw [hwd, Lib.toList_data]; decide
  have k4 : (wd.toList == [99, 117, 116]) = false := by rw [hwd, Lib.toList_data]; decide
  have k5 : (wd.toList == [115, 105, 122, 101]) = false := by rw [hwd, Lib.toList_data]; decide
  have k6 : (wd.toList == [115, 117, 109]) = false := by rw [hwd, Lib.toList_data]; decide
  have k7 : (wd.toList == [109, 97, 107, 101]) = false := by rw [hwd, Lib.toList_data]; decide
  have k8 : (wd.toList == [114, 117, 110]) = false := by rw [hwd, Lib.toList_data]; decide
  have k9 : (wd.toList == [115, 97, 109, 101]) = true := by rw [hwd, Lib.toList_data]; decide
  have k10 : (wd.toList == [108, 101, 115, 115]) = false := by rw [hwd, Lib.toList_data]; decide
  have k11 : (wd.toList == [103, 111, 116, 111]) = false := by rw [hwd, Lib.toList_data]; decide
  have k12 : (wd.toList == [101, 120, 105, 116]) = false := by rw [hwd, Lib.toList_data]; decide
  have HWD : Hid (wd = bA [115, 97, 109, 101]) := hwd
  clear hwd
  have r1 : (regF b).isSome = true := h0
  have r2 : (regF c).isSome = true := h1
  rw [okP_num lines 4 d lines (.inr (.inr (.inl ⟨rfl, rfl⟩)))] at h2
  obtain ⟨z3, hz3⟩ : ∃ z, nmbF (bA d).data.toList ((lines : Nat) : Int) = z := ⟨_, rfl⟩
  rw [hz3] at h2
  have HZ3 : Hid (nmbF (bA d).data.toList ((lines : Nat) : Int) = z3) := hz3
  clear hz3
  have g3 : (0 : Int) ≤ z3 := by simpa using h2
  have HN3 : Hid (∀ W, Calls Tryz.prog 19 #[.string (bA d), .int .i64 (lines : Int)] W fun e w' => e = .returned (.int .i64 z3) ∧ w' = W) := fun W => by
    have h := NumberOf_any (bA d) lines W (wd_size hs hws (by rw [HWS.out]; simp))
    rw [HZ3.out] at h
    exact h
  obtain ⟨x3, hx3⟩ : ∃ x, x = bA d := ⟨_, rfl⟩
  rw [← hx3] at HN3
  have HX3 : Hid (x3 = bA d) := hx3
  clear hx3
  clear hrig hws hwe hn1 hs h0 h1 h2
  go_enter Tryz.func9, Tryz.ntmps9
  go_wp2_with (first
    | (go_at_call 15; refine HW.out.mono ?_; rintro e w1 ⟨g, cap, rfl, HB1, hrw⟩; have HRW : Hid (RW (w1.alloc (.cells #[.slice (some ⟨g, 0, none⟩) 4 cap] 22)) w1.heap.size g 4 cap ws) := hrw; have q0 := (hrw.cells 0 [115, 97, 109, 101] (by rw [HWS.out]; rfl)).1; rw [← HWD.out] at q0; have yc := hrw.y; have p3 := (hrw.cells 3 d (by rw [HWS.out]; rfl)).1; rw [← HX3.out] at p3; have HBA : Hid (Below w.heap.size w (w1.alloc (.cells #[.slice (some ⟨g, 0, none⟩) 4 cap] 22))) := HB1.out.alloc HB1.out.size _; clear hrw)
    | (go_at_call 16; refine (r_any HRW.out 1 (x := b) (by rw [HWS.out]; rfl)).mono ?_; rintro e w4 ⟨rfl, hw⟩; subst w4)
    | (go_at_call 16; refine (r_any HRW.out 2 (x := c) (by rw [HWS.out]; rfl)).mono ?_; rintro e w4 ⟨rfl, hw⟩; subst w4)
    | (go_at_call 19; with_reducible refine (HN3.out _).mono ?_; rintro e w4 ⟨rfl, hw⟩; subst w4)
    | go_in)
  go_ret
  exact ⟨rfl, HBA.out⟩

set_option maxHeartbeats 4000000 in
set_option maxRecDepth 100000 in
theorem RL_less_no (lines : Nat) (s : ByteArray) (w : World) (hs : s.size ≤ 100000) {rest : List (List UInt8)} (hws : wdL [] s.data.toList = [108, 101, 115, 115] :: rest) (hn : ¬ ([108, 101, 115, 115] :: rest).length = 4) :
    Calls Tryz.prog 9 #[.string s, .int .i64 (lines : Int)] w fun e w' => e = .returned (.bool (rigF lines s.data.toList)) ∧ Below w.heap.size w w' := by
  have hrig : rigF lines s.data.toList = false := by
    rw [rig_of hws rfl (f := [0, 1, 4]) rfl (by decide), decide_eq_false (by simpa using hn), Bool.false_and]
  rw [hrig]
  obtain ⟨ws, hwe⟩ : ∃ ws, [108, 101, 115, 115] :: rest = ws := ⟨_, rfl⟩
  obtain ⟨n, hn1⟩ : ∃ n, ws.length = n := ⟨_, rfl⟩
  have HWS : Hid (ws = [108, 101, 115, 115] :: rest) := hwe.symm
  rw [hwe] at hws hn
  rw [hn1] at hn
  have hnp : 1 ≤ n := by rw [← hn1, ← hwe]; simp
  have hnb : n ≤ 1000000 := by
    have h1 := wdL_len s.data.toList []
    have h2 : s.size = s.data.toList.length := size_of rfl
    rw [hws, hn1] at h1
    omega
  have HW := words_front s w hs hws hn1
  have HW : Hid (Calls Tryz.prog 15 #[.string s] w fun e w1 => ∃ g cap, e = .returned (.slice (some ⟨g, 0, none⟩) n cap) ∧ Hid (Below w.heap.size w w1) ∧ RW (w1.alloc (.cells #[.slice (some ⟨g, 0, none⟩) n cap] 22)) w1.heap.size g n cap ws) := HW
  obtain ⟨m, hm⟩ : ∃ m : Nat, n = m + 1 := ⟨n - 1, by omega⟩
  subst hm
  have e1 : IntKind.i64.wrap (m : Int) = (m : Int) := by rw [IntKind.wrap_i64]; omega
  have e2 : (0 : Int) < (m : Int) + 1 := by omega
  have e3 : ((m : Int) == 3) = false := by simp; omega
  obtain ⟨wd, hwd⟩ : ∃ wd, wd = bA [108, 101, 115, 115] := ⟨_, rfl⟩
  have k0 : (wd.toList == [115, 101, 116]) = false := by rw [hwd, Lib.toList_data]; decide
  have k1 : (wd.toList == [114, 101, 97, 100]) = false := by rw [hwd, Lib.toList_data]; decide
  have k2 : (wd.toList == [108, 105, 115, 116]) = false := by rw [hwd, Lib.toList_data]; decide
  have k3 : (wd.toList == [106, 111, 105, 110]) = false := by rw [hwd, Lib.toList_data]; decide
  have k4 : (wd.toList == [99, 117, 116]) = false := by rw [hwd, Lib.toList_data]; decide
  have k5 : (wd.toList == [115, 105, 122, 101]) = false := by rw [hwd, Lib.toList_data]; decide
  have k6 : (wd.toList == [115, 117, 109]) = false := by rw [hwd, Lib.toList_data]; decide
  have k7 : (wd.toList == [109, 97, 107, 101]) = false := by rw [hwd, Lib.toList_data]; decide
  have k8 : (wd.toList == [114, 117, 110]) = false := by rw [hwd, Lib.toList_data]; decide
  have k9 : (wd.toList == [115, 97, 109, 101]) = false := by rw [hwd, Lib.toList_data]; decide
  have k10 : (wd.toList == [108, 101, 115, 115]) = true := by rw [hwd, Lib.toList_data]; decide
  have k11 : (wd.toList == [103, 111, 116, 111]) = false := by rw [hwd, Lib.toList_data]; decide
  have k12 : (wd.toList == [101, 120, 105, 116]) = false := by rw [hwd, Lib.toList_data]; decide
  have HWD : Hid (wd = bA [108, 101, 115, 115]) := hwd
  clear hwd
  clear hrig hws hwe hn hn1 hnp hnb hs
  go_enter Tryz.func9, Tryz.ntmps9
  go_wp2_with (first
    | (go_at_call 15; refine HW.out.mono ?_; rintro e w1 ⟨g, cap, rfl, HB1, hrw⟩; have HRW : Hid (RW (w1.alloc (.cells #[.slice (some ⟨g, 0, none⟩) (m + 1) cap] 22)) w1.heap.size g (m + 1) cap ws) := hrw; have q0 := (hrw.cells 0 [108, 101, 115, 115] (by rw [HWS.out]; rfl)).1; rw [← HWD.out] at q0; have yc := hrw.y; have HBA : Hid (Below w.heap.size w (w1.alloc (.cells #[.slice (some ⟨g, 0, none⟩) (m + 1) cap] 22))) := HB1.out.alloc HB1.out.size _; clear hrw)
    | go_in)
  go_ret
  exact ⟨rfl, HBA.out⟩

set_option maxHeartbeats 4000000 in
set_option maxRecDepth 100000 in
theorem RL_less_0 (lines : Nat) (s : ByteArray) (w : World) (hs : s.size ≤ 100000) {b c d : List UInt8} (hws : wdL [] s.data.toList = [[108, 101, 115, 115], b, c, d]) (h0 : okP lines 0 b = false) :
    Calls Tryz.prog 9 #[.string s, .int .i64 (lines : Int)] w fun e w' => e = .returned (.bool (rigF lines s.data.toList)) ∧ Below w.heap.size w w' := by
  have hrig : rigF lines s.data.toList = false := by
    rw [rig_of hws rfl (f := [0, 1, 4]) rfl (by decide)]
    simp [allP, h0]
  rw [hrig]
  obtain ⟨ws, hwe⟩ : ∃ ws, [[108, 101, 115, 115], b, c, d] = ws := ⟨_, rfl⟩
  have hn1 : ws.length = 4 := by rw [← hwe]; rfl
  have HWS : Hid (ws = [[108, 101, 115, 115], b, c, d]) := hwe.symm
  rw [hwe] at hws
  have HW := words_front s w hs hws hn1
  have HW : Hid (Calls Tryz.prog 15 #[.string s] w fun e w1 => ∃ g cap, e = .returned (.slice (some ⟨g, 0, none⟩) 4 cap) ∧ Hid (Below w.heap.size w w1) ∧ RW (w1.alloc (.cells #[.slice (some ⟨g, 0, none⟩) 4 cap] 22)) w1.heap.size g 4 cap ws) := HW
  obtain ⟨wd, hwd⟩ : ∃ wd, wd = bA [108, 101, 115, 115] := ⟨_, rfl⟩
  have k0 : (wd.toList == [115, 101, 116]) = false := by rw [hwd, Lib.toList_data]; decide
  have k1 : (wd.toList == [114, 101, 97, 100]) = false := by rw [hwd, Lib.toList_data]; decide
  have k2 : (wd.toList == [108, 105, 115, 116]) = false := by rw [hwd, Lib.toList_data]; decide
  have k3 : (wd.toList == [106, 111, 105, 110]) = false := by rw [hwd, Lib.toList_data]; decide
  have k4 : (wd.toList == [99, 117, 116]) = false := by rw [hwd, Lib.toList_data]; decide
  have k5 : (wd.toList == [115, 105, 122, 101]) = false := by rw [hwd, Lib.toList_data]; decide
  have k6 : (wd.toList == [115, 117, 109]) = false := by rw [hwd, Lib.toList_data]; decide
  have k7 : (wd.toList == [109, 97, 107, 101]) = false := by rw [hwd, Lib.toList_data]; decide
  have k8 : (wd.toList == [114, 117, 110]) = false := by rw [hwd, Lib.toList_data]; decide
  have k9 : (wd.toList == [115, 97, 109, 101]) = false := by rw [hwd, Lib.toList_data]; decide
  have k10 : (wd.toList == [108, 101, 115, 115]) = true := by rw [hwd, Lib.toList_data]; decide
  have k11 : (wd.toList == [103, 111, 116, 111]) = false := by rw [hwd, Lib.toList_data]; decide
  have k12 : (wd.toList == [101, 120, 105, 116]) = false := by rw [hwd, Lib.toList_data]; decide
  have HWD : Hid (wd = bA [108, 101, 115, 115]) := hwd
  clear hwd
  have r1 : (regF b).isSome = false := h0
  clear hrig hws hwe hn1 hs h0
  go_enter Tryz.func9, Tryz.ntmps9
  go_wp2_with (first
    | (go_at_call 15; refine HW.out.mono ?_; rintro e w1 ⟨g, cap, rfl, HB1, hrw⟩; have HRW : Hid (RW (w1.alloc (.cells #[.slice (some ⟨g, 0, none⟩) 4 cap] 22)) w1.heap.size g 4 cap ws) := hrw; have q0 := (hrw.cells 0 [108, 101, 115, 115] (by rw [HWS.out]; rfl)).1; rw [← HWD.out] at q0; have yc := hrw.y; have HBA : Hid (Below w.heap.size w (w1.alloc (.cells #[.slice (some ⟨g, 0, none⟩) 4 cap] 22))) := HB1.out.alloc HB1.out.size _; clear hrw)
    | (go_at_call 16; refine (r_any HRW.out 1 (x := b) (by rw [HWS.out]; rfl)).mono ?_; rintro e w4 ⟨rfl, hw⟩; subst w4)
    | go_in)
  go_ret
  exact ⟨rfl, HBA.out⟩

set_option maxHeartbeats 4000000 in
set_option maxRecDepth 100000 in
theorem RL_less_1 (lines : Nat) (s : ByteArray) (w : World) (hs : s.size ≤ 100000) {b c d : List UInt8} (hws : wdL [] s.data.toList = [[108, 101, 115, 115], b, c, d]) (h0 : okP lines 0 b = true) (h1 : okP lines 1 c = false) :
    Calls Tryz.prog 9 #[.string s, .int .i64 (lines : Int)] w fun e w' => e = .returned (.bool (rigF lines s.data.toList)) ∧ Below w.heap.size w w' := by
  have hrig : rigF lines s.data.toList = false := by
    rw [rig_of hws rfl (f := [0, 1, 4]) rfl (by decide)]
    simp [allP, h0, h1]
  rw [hrig]
  obtain ⟨ws, hwe⟩ : ∃ ws, [[108, 101, 115, 115], b, c, d] = ws := ⟨_, rfl⟩
  have hn1 : ws.length = 4 := by rw [← hwe]; rfl
  have HWS : Hid (ws = [[108, 101, 115, 115], b, c, d]) := hwe.symm
  rw [hwe] at hws
  have HW := words_front s w hs hws hn1
  have HW : Hid (Calls Tryz.prog 15 #[.string s] w fun e w1 => ∃ g cap, e = .returned (.slice (some ⟨g, 0, none⟩) 4 cap) ∧ Hid (Below w.heap.size w w1) ∧ RW (w1.alloc (.cells #[.slice (some ⟨g, 0, none⟩) 4 cap] 22)) w1.heap.size g 4 cap ws) := HW
  obtain ⟨wd, hwd⟩ : ∃ wd, wd = bA [108, 101, 115, 115] := ⟨_, rfl⟩
  have k0 : (wd.toList == [115, 101, 116]) = false := by rw [hwd, Lib.toList_data]; decide
  have k1 : (wd.toList == [114, 101, 97, 100]) = false := by rw [hwd, Lib.toList_data]; decide
  have k2 : (wd.toList == [108, 105, 115, 116]) = false := by rw [hwd, Lib.toList_data]; decide
  have k3 : (wd.toList == [106, 111, 105, 110]) = false := by rw [hwd, Lib.toList_data]; decide
  have k4 : (wd.toList == [99, 117, 116]) = false := by rw [hwd, Lib.toList_data]; decide
  have k5 : (wd.toList == [115, 105, 122, 101]) = false := by rw [hwd, Lib.toList_data]; decide
  have k6 : (wd.toList == [115, 117, 109]) = false := by rw [hwd, Lib.toList_data]; decide
  have k7 : (wd.toList == [109, 97, 107, 101]) = false := by rw [hwd, Lib.toList_data]; decide
  have k8 : (wd.toList == [114, 117, 110]) = false := by rw [hwd, Lib.toList_data]; decide
  have k9 : (wd.toList == [115, 97, 109, 101]) = false := by rw [hwd, Lib.toList_data]; decide
  have k10 : (wd.toList == [108, 101, 115, 115]) = true := by rw [hwd, Lib.toList_data]; decide
  have k11 : (wd.toList == [103, 111, 116, 111]) = false := by rw [hwd, Lib.toList_data]; decide
  have k12 : (wd.toList == [101, 120, 105, 116]) = false := by rw [hwd, Lib.toList_data]; decide
  have HWD : Hid (wd = bA [108, 101, 115, 115]) := hwd
  clear hwd
  have r1 : (regF b).isSome = true := h0
  have r2 : (regF c).isSome = false := h1
  clear hrig hws hwe hn1 hs h0 h1
  go_enter Tryz.func9, Tryz.ntmps9
  go_wp2_with (first
    | (go_at_call 15; refine HW.out.mono ?_; rintro e w1 ⟨g, cap, rfl, HB1, hrw⟩; have HRW : Hid (RW (w1.alloc (.cells #[.slice (some ⟨g, 0, none⟩) 4 cap] 22)) w1.heap.size g 4 cap ws) := hrw; have q0 := (hrw.cells 0 [108, 101, 115, 115] (by rw [HWS.out]; rfl)).1; rw [← HWD.out] at q0; have yc := hrw.y; have HBA : Hid (Below w.heap.size w (w1.alloc (.cells #[.slice (some ⟨g, 0, none⟩) 4 cap] 22))) := HB1.out.alloc HB1.out.size _; clear hrw)
    | (go_at_call 16; refine (r_any HRW.out 1 (x := b) (by rw [HWS.out]; rfl)).mono ?_; rintro e w4 ⟨rfl, hw⟩; subst w4)
    | (go_at_call 16; refine (r_any HRW.out 2 (x := c) (by rw [HWS.out]; rfl)).mono ?_; rintro e w4 ⟨rfl, hw⟩; subst w4)
    | go_in)
  go_ret
  exact ⟨rfl, HBA.out⟩

set_option maxHeartbeats 4000000 in
set_option maxRecDepth 100000 in
theorem RL_less_2 (lines : Nat) (s : ByteArray) (w : World) (hs : s.size ≤ 100000) {b c d : List UInt8} (hws : wdL [] s.data.toList = [[108, 101, 115, 115], b, c, d]) (h0 : okP lines 0 b = true) (h1 : okP lines 1 c = true) (h2 : okP lines 4 d = false) :
    Calls Tryz.prog 9 #[.string s, .int .i64 (lines : Int)] w fun e w' => e = .returned (.bool (rigF lines s.data.toList)) ∧ Below w.heap.size w w' := by
  have hrig : rigF lines s.data.toList = false := by
    rw [rig_of hws rfl (f := [0, 1, 4]) rfl (by decide)]
    simp [allP, h0, h1, h2]
  rw [hrig]
  obtain ⟨ws, hwe⟩ : ∃ ws, [[108, 101, 115, 115], b, c, d] = ws := ⟨_, rfl⟩
  have hn1 : ws.length = 4 := by rw [← hwe]; rfl
  have HWS : Hid (ws = [[108, 101, 115, 115], b, c, d]) := hwe.symm
  rw [hwe] at hws
  have HW := words_front s w hs hws hn1
  have HW : Hid (Calls Tryz.prog 15 #[.string s] w fun e w1 => ∃ g cap, e = .returned (.slice (some ⟨g, 0, none⟩) 4 cap) ∧ Hid (Below w.heap.size w w1) ∧ RW (w1.alloc (.cells #[.slice (some ⟨g, 0, none⟩) 4 cap] 22)) w1.heap.size g 4 cap ws) := HW
  obtain ⟨wd, hwd⟩ : ∃ wd, wd = bA [108, 101, 115, 115] := ⟨_, rfl⟩
  have k0 : (wd.toList == [115, 101, 116]) = false := by rw [hwd, Lib.toList_data]; decide
  have k1 : (wd.toList == [114, 101, 97, 100]) = false := by rw [hwd, Lib.toList_data]; decide
  have k2 : (wd.toList == [108, 105, 115, 116]) = false := by rw [hwd, Lib.toList_data]; decide
  have k3 : (wd.toList == [106, 111, 105, 110]) = false := by rw [hwd, Lib.toList_data]; decide
  have k4 : (wd.toList == [99, 117, 116]) = false := by rw [hwd, Lib.toList_data]; decide
  have k5 : (wd.toList == [115, 105, 122, 101]) = false := by rw [hwd, Lib.toList_data]; decide
  have k6 : (wd.toList == [115, 117, 109]) = false := by rw [hwd, Lib.toList_data]; decide
  have k7 : (wd.toList == [109, 97, 107, 101]) = false := by rw [hwd, Lib.toList_data]; decide
  have k8 : (wd.toList == [114, 117, 110]) = false := by rw [hwd, Lib.toList_data]; decide
  have k9 : (wd.toList == [115, 97, 109, 101]) = false := by rw [hwd, Lib.toList_data]; decide
  have k10 : (wd.toList == [108, 101, 115, 115]) = true := by rw [hwd, Lib.toList_data]; decide
  have k11 : (wd.toList == [103, 111, 116, 111]) = false := by rw [hwd, Lib.toList_data]; decide
  have k12 : (wd.toList == [101, 120, 105, 116]) = false := by rw [hwd, Lib.toList_data]; decide
  have HWD : Hid (wd = bA [108, 101, 115, 115]) := hwd
  clear hwd
  have r1 : (regF b).isSome = true := h0
  have r2 : (regF c).isSome = true := h1
  rw [okP_num lines 4 d lines (.inr (.inr (.inl ⟨rfl, rfl⟩)))] at h2
  have HZ3 : Hid (nmbF (bA d).data.toList ((lines : Nat) : Int) = -1) := nmb_neg (by simpa using h2)
  have HN3 : Hid (∀ W, Calls Tryz.prog 19 #[.string (bA d), .int .i64 (lines : Int)] W fun e w' => e = .returned (.int .i64 (-1)) ∧ w' = W) := fun W => by
    have h := NumberOf_any (bA d) lines W (wd_size hs hws (by rw [HWS.out]; simp))
    rw [HZ3.out] at h
    exact h
  obtain ⟨x3, hx3⟩ : ∃ x, x = bA d := ⟨_, rfl⟩
  rw [← hx3] at HN3
  have HX3 : Hid (x3 = bA d) := hx3
  clear hx3
  clear hrig hws hwe hn1 hs h0 h1 h2
  go_enter Tryz.func9, Tryz.ntmps9
  go_wp2_with (first
    | (go_at_call 15; refine HW.out.mono ?_; rintro e w1 ⟨g, cap, rfl, HB1, hrw⟩; have HRW : Hid (RW (w1.alloc (.cells #[.slice (some ⟨g, 0, none⟩) 4 cap] 22)) w1.heap.size g 4 cap ws) := hrw; have q0 := (hrw.cells 0 [108, 101, 115, 115] (by rw [HWS.out]; rfl)).1; rw [← HWD.out] at q0; have yc := hrw.y; have p3 := (hrw.cells 3 d (by rw [HWS.out]; rfl)).1; rw [← HX3.out] at p3; have HBA : Hid (Below w.heap.size w (w1.alloc (.cells #[.slice (some ⟨g, 0, none⟩) 4 cap] 22))) := HB1.out.alloc HB1.out.size _; clear hrw)
    | (go_at_call 16; refine (r_any HRW.out 1 (x := b) (by rw [HWS.out]; rfl)).mono ?_; rintro e w4 ⟨rfl, hw⟩; subst w4)
    | (go_at_call 16; refine (r_any HRW.out 2 (x := c) (by rw [HWS.out]; rfl)).mono ?_; rintro e w4 ⟨rfl, hw⟩; subst w4)
    | (go_at_call 19; with_reducible refine (HN3.out _).mono ?_; rintro e w4 ⟨rfl, hw⟩; subst w4)
    | go_in)
  go_ret
  exact ⟨rfl, HBA.out⟩

set_option maxHeartbeats 4000000 in
set_option maxRecDepth 100000 in
theorem RL_less_3 (lines : Nat) (s : ByteArray) (w : World) (hs : s.size ≤ 100000) {b c d : List UInt8} (hws : wdL [] s.data.toList = [[108, 101, 115, 115], b, c, d]) (h0 : okP lines 0 b = true) (h1 : okP lines 1 c = true) (h2 : okP lines 4 d = true) :
    Calls Tryz.prog 9 #[.string s, .int .i64 (lines : Int)] w fun e w' => e = .returned (.bool (rigF lines s.data.toList)) ∧ Below w.heap.size w w' := by
  have hrig : rigF lines s.data.toList = true := by
    rw [rig_of hws rfl (f := [0, 1, 4]) rfl (by decide)]
    simp [allP, h0, h1, h2]
  rw [hrig]
  obtain ⟨ws, hwe⟩ : ∃ ws, [[108, 101, 115, 115], b, c, d] = ws := ⟨_, rfl⟩
  have hn1 : ws.length = 4 := by rw [← hwe]; rfl
  have HWS : Hid (ws = [[108, 101, 115, 115], b, c, d]) := hwe.symm
  rw [hwe] at hws
  have HW := words_front s w hs hws hn1
  have HW : Hid (Calls Tryz.prog 15 #[.string s] w fun e w1 => ∃ g cap, e = .returned (.slice (some ⟨g, 0, none⟩) 4 cap) ∧ Hid (Below w.heap.size w w1) ∧ RW (w1.alloc (.cells #[.slice (some ⟨g, 0, none⟩) 4 cap] 22)) w1.heap.size g 4 cap ws) := HW
  obtain ⟨wd, hwd⟩ : ∃ wd, wd = bA [108, 101, 115, 115] := ⟨_, rfl⟩
  have k0 : (wd.toList == [115, 101, 116]) = false := by rw [hwd, Lib.toList_data]; decide
  have k1 : (wd.toList == [114, 101, 97, 100]) = false := by rw [hwd, Lib.toList_data]; decide
  have k2 : (wd.toList == [108, 105, 115, 116]) = false := by rw [hwd, Lib.toList_data]; decide
  have k3 : (wd.toList == [106, 111, 105, 110]) = false := by rw [hwd, Lib.toList_data]; decide
  have k4 : (wd.toList == [99, 117, 116]) = false := by rw [hwd, Lib.toList_data]; decide
  have k5 : (wd.toList == [115, 105, 122, 101]) = false := by rw [hwd, Lib.toList_data]; decide
  have k6 : (wd.toList == [115, 117, 109]) = false := by rw [hwd, Lib.toList_data]; decide
  have k7 : (wd.toList == [109, 97, 107, 101]) = false := by rw [hwd, Lib.toList_data]; decide
  have k8 : (wd.toList == [114, 117, 110]) = false := by rw [hwd, Lib.toList_data]; decide
  have k9 : (wd.toList == [115, 97, 109, 101]) = false := by rw [hwd, Lib.toList_data]; decide
  have k10 : (wd.toList == [108, 101, 115, 115]) = true := by rw [hwd, Lib.toList_data]; decide
  have k11 : (wd.toList == [103, 111, 116, 111]) = false := by rw [hwd, Lib.toList_data]; decide
  have k12 : (wd.toList == [101, 120, 105, 116]) = false := by rw [hwd, Lib.toList_data]; decide
  have HWD : Hid (wd = bA [108, 101, 115, 115]) := hwd
  clear hwd
  have r1 : (regF b).isSome = true := h0
  have r2 : (regF c).isSome = true := h1
  rw [okP_num lines 4 d lines (.inr (.inr (.inl ⟨rfl, rfl⟩)))] at h2
  obtain ⟨z3, hz3⟩ : ∃ z, nmbF (bA d).data.toList ((lines : Nat) : Int) = z := ⟨_, rfl⟩
  rw [hz3] at h2
  have HZ3 : Hid (nmbF (bA d).data.toList ((lines : Nat) : Int) = z3) := hz3
  clear hz3
  have g3 : (0 : Int) ≤ z3 := by simpa using h2
  have HN3 : Hid (∀ W, Calls Tryz.prog 19 #[.string (bA d), .int .i64 (lines : Int)] W fun e w' => e = .returned (.int .i64 z3) ∧ w' = W) := fun W => by
    have h := NumberOf_any (bA d) lines W (wd_size hs hws (by rw [HWS.out]; simp))
    rw [HZ3.out] at h
    exact h
  obtain ⟨x3, hx3⟩ : ∃ x, x = bA d := ⟨_, rfl⟩
  rw [← hx3] at HN3
  have HX3 : Hid (x3 = bA d) := hx3
  clear hx3
  clear hrig hws hwe hn1 hs h0 h1 h2
  go_enter Tryz.func9, Tryz.ntmps9
  go_wp2_with (first
    | (go_at_call 15; refine HW.out.mono ?_; rintro e w1 ⟨g, cap, rfl, HB1, hrw⟩; have HRW : Hid (RW (w1.alloc (.cells #[.slice (some ⟨g, 0, none⟩) 4 cap] 22)) w1.heap.size g 4 cap ws) := hrw; have q0 := (hrw.cells 0 [108, 101, 115, 115] (by rw [HWS.out]; rfl)).1; rw [← HWD.out] at q0; have yc := hrw.y; have p3 := (hrw.cells 3 d (by rw [HWS.out]; rfl)).1; rw [← HX3.out] at p3; have HBA : Hid (Below w.heap.size w (w1.alloc (.cells #[.slice (some ⟨g, 0, none⟩) 4 cap] 22))) := HB1.out.alloc HB1.out.size _; clear hrw)
    | (go_at_call 16; refine (r_any HRW.out 1 (x := b) (by rw [HWS.out]; rfl)).mono ?_; rintro e w4 ⟨rfl, hw⟩; subst w4)
    | (go_at_call 16; refine (r_any HRW.out 2 (x := c) (by rw [HWS.out]; rfl)).mono ?_; rintro e w4 ⟨rfl, hw⟩; subst w4)
    | (go_at_call 19; with_reducible refine (HN3.out _).mono ?_; rintro e w4 ⟨rfl, hw⟩; subst w4)
    | go_in)
  go_ret
  exact ⟨rfl, HBA.out⟩
end Go.Proofs.YtcpomkgfcpfedaaGreatDoor
