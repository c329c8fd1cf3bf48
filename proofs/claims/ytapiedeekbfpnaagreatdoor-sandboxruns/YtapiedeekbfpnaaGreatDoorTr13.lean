/- The document's RightLine, by a line's first word. -/
import Derived.Deep.QuietTactic
import Derived.BigQuiet
import Derived.BigRegion
import Derived.OwnWalk
import Derived.Test.YtapiedeekbfpnaaGreatDoorTr12
namespace Go.Proofs.YtapiedeekbfpnaaGreatDoor
open Go.RowKit Go.Shelf

theorem kf_same {wd : ByteArray} (hwd : wd = bA [115, 97, 109, 101]) : (wd.toList == [115, 101, 116]) = false ∧ (wd.toList == [114, 101, 97, 100]) = false ∧ (wd.toList == [108, 105, 115, 116]) = false ∧ (wd.toList == [106, 111, 105, 110]) = false ∧ (wd.toList == [99, 117, 116]) = false ∧ (wd.toList == [115, 105, 122, 101]) = false ∧ (wd.toList == [115, 117, 109]) = false ∧ (wd.toList == [109, 97, 107, 101]) = false ∧ (wd.toList == [114, 117, 110]) = false ∧ (wd.toList == [115, 97, 109, 101]) = true ∧ (wd.toList == [108, 101, 115, 115]) = false ∧ (wd.toList == [103, 111, 116, 111]) = false ∧ (wd.toList == [101, 120, 105, 116]) = false := by
  rw [hwd, Lib.toList_data]
  decide

set_option maxHeartbeats 4000000 in
set_option maxRecDepth 100000 in
theorem RL_same_no (lines : Nat) (s : ByteArray) (w : World) (hs : s.size ≤ 100000) {rest : List (List UInt8)} (hws : wdL [] s.data.toList = [115, 97, 109, 101] :: rest) (hn : ¬ ([115, 97, 109, 101] :: rest).length = 4) :
    Calls Tryz.prog 44 #[.string s, .int .i64 (lines : Int)] w fun e w' => e = .returned (.bool (rigF lines s.data.toList)) ∧ Below w.heap.size w w' := by
  have hrig : rigF lines s.data.toList = false := by
    rw [rig_of hws rfl (f := [0, 1, 4]) rfl (by decide), decide_eq_false (by simpa using hn), Bool.false_and]
  rw [hrig]
  obtain ⟨ws, hwe⟩ : ∃ ws, [115, 97, 109, 101] :: rest = ws := ⟨_, rfl⟩
  obtain ⟨n, hn1⟩ : ∃ n, ws.length = n := ⟨_, rfl⟩
  have HWS : Hid (ws = [115, 97, 109, 101] :: rest) := hwe.symm
  rw [hwe] at hws hn
  rw [hn1] at hn
  have hnp : 1 ≤ n := by rw [← hn1, ← hwe]; simp
  have hnb : n ≤ 1000000 := by
    have h1 := wdL_len s.data.toList []
    have h2 : s.size = s.data.toList.length := size_of rfl
    rw [hws, hn1] at h1
    omega
  have HW := words_front s w hs hws hn1
  have HW : Hid (Calls Tryz.prog 17 #[.string s] w fun e w1 => ∃ g cap, e = .returned (.slice (some ⟨g, 0, none⟩) n cap) ∧ Hid (Below w.heap.size w w1) ∧ RW (w1.alloc (.cells #[.slice (some ⟨g, 0, none⟩) n cap] 23)) w1.heap.size g n cap ws) := HW
  obtain ⟨m, hm⟩ : ∃ m : Nat, n = m + 1 := ⟨n - 1, by omega⟩
  subst hm
  have e1 : IntKind.i64.wrap (m : Int) = (m : Int) := by rw [IntKind.wrap_i64]; omega
  have e2 : (0 : Int) < (m : Int) + 1 := by omega
  have e3 : ((m : Int) == 3) = false := by simp; omega
  obtain ⟨wd, hwd⟩ : ∃ wd, wd = bA [115, 97, 109, 101] := ⟨_, rfl⟩
  obtain ⟨k0, k1, k2, k3, k4, k5, k6, k7, k8, k9, k10, k11, k12⟩ := kf_same hwd
  have HWD : Hid (wd = bA [115, 97, 109, 101]) := hwd
  clear hwd
  clear hrig hws hwe hn hn1 hnp hnb hs
  go_enter Tryz.func44, Tryz.ntmps44
  go_wp2_with (first
    | (go_at_call 17; refine HW.out.mono ?_; rintro e w1 ⟨g, cap, rfl, HB1, hrw⟩; have HRW : Hid (RW (w1.alloc (.cells #[.slice (some ⟨g, 0, none⟩) (m + 1) cap] 23)) w1.heap.size g (m + 1) cap ws) := hrw; have q0 := (hrw.cells 0 [115, 97, 109, 101] (by rw [HWS.out]; rfl)).1; rw [← HWD.out] at q0; have yc := hrw.y; have HBA : Hid (Below w.heap.size w (w1.alloc (.cells #[.slice (some ⟨g, 0, none⟩) (m + 1) cap] 23))) := HB1.out.alloc HB1.out.size _; clear hrw)
    | go_in)
  go_ret
  exact ⟨rfl, HBA.out⟩

set_option maxHeartbeats 4000000 in
set_option maxRecDepth 100000 in
theorem RL_same_0 (lines : Nat) (s : ByteArray) (w : World) (hs : s.size ≤ 100000) {b c d : List UInt8} (hws : wdL [] s.data.toList = [[115, 97, 109, 101], b, c, d]) (h0 : okP lines 0 b = false) :
    Calls Tryz.prog 44 #[.string s, .int .i64 (lines : Int)] w fun e w' => e = .returned (.bool (rigF lines s.data.toList)) ∧ Below w.heap.size w w' := by
  have hrig : rigF lines s.data.toList = false := by
    rw [rig_of hws rfl (f := [0, 1, 4]) rfl (by decide)]
    simp [allP, h0]
  rw [hrig]
  obtain ⟨ws, hwe⟩ : ∃ ws, [[115, 97, 109, 101], b, c, d] = ws := ⟨_, rfl⟩
  have hn1 : ws.length = 4 := by rw [← hwe]; rfl
  have HWS : Hid (ws = [[115, 97, 109, 101], b, c, d]) := hwe.symm
  rw [hwe] at hws
  have HW := words_front s w hs hws hn1
  have HW : Hid (Calls Tryz.prog 17 #[.string s] w fun e w1 => ∃ g cap, e = .returned (.slice (some ⟨g, 0, none⟩) 4 cap) ∧ Hid (Below w.heap.size w w1) ∧ RW (w1.alloc (.cells #[.slice (some ⟨g, 0, none⟩) 4 cap] 23)) w1.heap.size g 4 cap ws) := HW
  obtain ⟨wd, hwd⟩ : ∃ wd, wd = bA [115, 97, 109, 101] := ⟨_, rfl⟩
  obtain ⟨k0, k1, k2, k3, k4, k5, k6, k7, k8, k9, k10, k11, k12⟩ := kf_same hwd
  have HWD : Hid (wd = bA [115, 97, 109, 101]) := hwd
  clear hwd
  have r1 : (regF b).isSome = false := h0
  clear hrig hws hwe hn1 hs h0
  go_enter Tryz.func44, Tryz.ntmps44
  go_wp2_with (first
    | (go_at_call 17; refine HW.out.mono ?_; rintro e w1 ⟨g, cap, rfl, HB1, hrw⟩; have HRW : Hid (RW (w1.alloc (.cells #[.slice (some ⟨g, 0, none⟩) 4 cap] 23)) w1.heap.size g 4 cap ws) := hrw; have q0 := (hrw.cells 0 [115, 97, 109, 101] (by rw [HWS.out]; rfl)).1; rw [← HWD.out] at q0; have yc := hrw.y; have HBA : Hid (Below w.heap.size w (w1.alloc (.cells #[.slice (some ⟨g, 0, none⟩) 4 cap] 23))) := HB1.out.alloc HB1.out.size _; clear hrw)
    | (go_at_call 95; refine (r_any HRW.out 1 (x := b) (by rw [HWS.out]; rfl)).mono ?_; rintro e w4 ⟨rfl, hw⟩; subst w4)
    | go_in)
  go_ret
  exact ⟨rfl, HBA.out⟩

set_option maxHeartbeats 4000000 in
set_option maxRecDepth 100000 in
theorem RL_same_1 (lines : Nat) (s : ByteArray) (w : World) (hs : s.size ≤ 100000) {b c d : List UInt8} (hws : wdL [] s.data.toList = [[115, 97, 109, 101], b, c, d]) (h0 : okP lines 0 b = true) (h1 : okP lines 1 c = false) :
    Calls Tryz.prog 44 #[.string s, .int .i64 (lines : Int)] w fun e w' => e = .returned (.bool (rigF lines s.data.toList)) ∧ Below w.heap.size w w' := by
  have hrig : rigF lines s.data.toList = false := by
    rw [rig_of hws rfl (f := [0, 1, 4]) rfl (by decide)]
    simp [allP, h0, h1]
  rw [hrig]
  obtain ⟨ws, hwe⟩ : ∃ ws, [[115, 97, 109, 101], b, c, d] = ws := ⟨_, rfl⟩
  have hn1 : ws.length = 4 := by rw [← hwe]; rfl
  have HWS : Hid (ws = [[115, 97, 109, 101], b, c, d]) := hwe.symm
  rw [hwe] at hws
  have HW := words_front s w hs hws hn1
  have HW : Hid (Calls Tryz.prog 17 #[.string s] w fun e w1 => ∃ g cap, e = .returned (.slice (some ⟨g, 0, none⟩) 4 cap) ∧ Hid (Below w.heap.size w w1) ∧ RW (w1.alloc (.cells #[.slice (some ⟨g, 0, none⟩) 4 cap] 23)) w1.heap.size g 4 cap ws) := HW
  obtain ⟨wd, hwd⟩ : ∃ wd, wd = bA [115, 97, 109, 101] := ⟨_, rfl⟩
  obtain ⟨k0, k1, k2, k3, k4, k5, k6, k7, k8, k9, k10, k11, k12⟩ := kf_same hwd
  have HWD : Hid (wd = bA [115, 97, 109, 101]) := hwd
  clear hwd
  have r1 : (regF b).isSome = true := h0
  have r2 : (regF c).isSome = false := h1
  clear hrig hws hwe hn1 hs h0 h1
  go_enter Tryz.func44, Tryz.ntmps44
  go_wp2_with (first
    | (go_at_call 17; refine HW.out.mono ?_; rintro e w1 ⟨g, cap, rfl, HB1, hrw⟩; have HRW : Hid (RW (w1.alloc (.cells #[.slice (some ⟨g, 0, none⟩) 4 cap] 23)) w1.heap.size g 4 cap ws) := hrw; have q0 := (hrw.cells 0 [115, 97, 109, 101] (by rw [HWS.out]; rfl)).1; rw [← HWD.out] at q0; have yc := hrw.y; have HBA : Hid (Below w.heap.size w (w1.alloc (.cells #[.slice (some ⟨g, 0, none⟩) 4 cap] 23))) := HB1.out.alloc HB1.out.size _; clear hrw)
    | (go_at_call 95; refine (r_any HRW.out 1 (x := b) (by rw [HWS.out]; rfl)).mono ?_; rintro e w4 ⟨rfl, hw⟩; subst w4)
    | (go_at_call 95; refine (r_any HRW.out 2 (x := c) (by rw [HWS.out]; rfl)).mono ?_; rintro e w4 ⟨rfl, hw⟩; subst w4)
    | go_in)
  go_ret
  exact ⟨rfl, HBA.out⟩

set_option maxHeartbeats 4000000 in
set_option maxRecDepth 100000 in
theorem RL_same_2 (lines : Nat) (s : ByteArray) (w : World) (hs : s.size ≤ 100000) {b c d : List UInt8} (hws : wdL [] s.data.toList = [[115, 97, 109, 101], b, c, d]) (h0 : okP lines 0 b = true) (h1 : okP lines 1 c = true) (h2 : okP lines 4 d = false) :
    Calls Tryz.prog 44 #[.string s, .int .i64 (lines : Int)] w fun e w' => e = .returned (.bool (rigF lines s.data.toList)) ∧ Below w.heap.size w w' := by
  have hrig : rigF lines s.data.toList = false := by
    rw [rig_of hws rfl (f := [0, 1, 4]) rfl (by decide)]
    simp [allP, h0, h1, h2]
  rw [hrig]
  obtain ⟨ws, hwe⟩ : ∃ ws, [[115, 97, 109, 101], b, c, d] = ws := ⟨_, rfl⟩
  have hn1 : ws.length = 4 := by rw [← hwe]; rfl
  have HWS : Hid (ws = [[115, 97, 109, 101], b, c, d]) := hwe.symm
  rw [hwe] at hws
  have HW := words_front s w hs hws hn1
  have HW : Hid (Calls Tryz.prog 17 #[.string s] w fun e w1 => ∃ g cap, e = .returned (.slice (some ⟨g, 0, none⟩) 4 cap) ∧ Hid (Below w.heap.size w w1) ∧ RW (w1.alloc (.cells #[.slice (some ⟨g, 0, none⟩) 4 cap] 23)) w1.heap.size g 4 cap ws) := HW
  obtain ⟨wd, hwd⟩ : ∃ wd, wd = bA [115, 97, 109, 101] := ⟨_, rfl⟩
  obtain ⟨k0, k1, k2, k3, k4, k5, k6, k7, k8, k9, k10, k11, k12⟩ := kf_same hwd
  have HWD : Hid (wd = bA [115, 97, 109, 101]) := hwd
  clear hwd
  have r1 : (regF b).isSome = true := h0
  have r2 : (regF c).isSome = true := h1
  rw [okP_num lines 4 d lines (.inr (.inr (.inl ⟨rfl, rfl⟩)))] at h2
  have HZ3 : Hid (nmbF (bA d).data.toList ((lines : Nat) : Int) = -1) := nmb_neg (by simpa using h2)
  have HN3 : Hid (∀ W, Calls Tryz.prog 46 #[.string (bA d), .int .i64 (lines : Int)] W fun e w' => e = .returned (.int .i64 (-1)) ∧ w' = W) := fun W => by
    have h := NumberOf_any (bA d) lines W (wd_size hs hws (by rw [HWS.out]; simp))
    rw [HZ3.out] at h
    exact h
  obtain ⟨x3, hx3⟩ : ∃ x, x = bA d := ⟨_, rfl⟩
  rw [← hx3] at HN3
  have HX3 : Hid (x3 = bA d) := hx3
  clear hx3
  clear hrig hws hwe hn1 hs h0 h1 h2
  go_enter Tryz.func44, Tryz.ntmps44
  go_wp2_with (first
    | (go_at_call 17; refine HW.out.mono ?_; rintro e w1 ⟨g, cap, rfl, HB1, hrw⟩; have HRW : Hid (RW (w1.alloc (.cells #[.slice (some ⟨g, 0, none⟩) 4 cap] 23)) w1.heap.size g 4 cap ws) := hrw; have q0 := (hrw.cells 0 [115, 97, 109, 101] (by rw [HWS.out]; rfl)).1; rw [← HWD.out] at q0; have yc := hrw.y; have p3 := (hrw.cells 3 d (by rw [HWS.out]; rfl)).1; rw [← HX3.out] at p3; have HBA : Hid (Below w.heap.size w (w1.alloc (.cells #[.slice (some ⟨g, 0, none⟩) 4 cap] 23))) := HB1.out.alloc HB1.out.size _; clear hrw)
    | (go_at_call 95; refine (r_any HRW.out 1 (x := b) (by rw [HWS.out]; rfl)).mono ?_; rintro e w4 ⟨rfl, hw⟩; subst w4)
    | (go_at_call 95; refine (r_any HRW.out 2 (x := c) (by rw [HWS.out]; rfl)).mono ?_; rintro e w4 ⟨rfl, hw⟩; subst w4)
    | (go_at_call 46; with_reducible refine (HN3.out _).mono ?_; rintro e w4 ⟨rfl, hw⟩; subst w4)
    | go_in)
  go_ret
  exact ⟨rfl, HBA.out⟩

set_option maxHeartbeats 4000000 in
set_option maxRecDepth 100000 in
theorem RL_same_3 (lines : Nat) (s : ByteArray) (w : World) (hs : s.size ≤ 100000) {b c d : List UInt8} (hws : wdL [] s.data.toList = [[115, 97, 109, 101], b, c, d]) (h0 : okP lines 0 b = true) (h1 : okP lines 1 c = true) (h2 : okP lines 4 d = true) :
    Calls Tryz.prog 44 #[.string s, .int .i64 (lines : Int)] w fun e w' => e = .returned (.bool (rigF lines s.data.toList)) ∧ Below w.heap.size w w' := by
  have hrig : rigF lines s.data.toList = true := by
    rw [rig_of hws rfl (f := [0, 1, 4]) rfl (by decide)]
    simp [allP, h0, h1, h2]
  rw [hrig]
  obtain ⟨ws, hwe⟩ : ∃ ws, [[115, 97, 109, 101], b, c, d] = ws := ⟨_, rfl⟩
  have hn1 : ws.length = 4 := by rw [← hwe]; rfl
  have HWS : Hid (ws = [[115, 97, 109, 101], b, c, d]) := hwe.symm
  rw [hwe] at hws
  have HW := words_front s w hs hws hn1
  have HW : Hid (Calls Tryz.prog 17 #[.string s] w fun e w1 => ∃ g cap, e = .returned (.slice (some ⟨g, 0, none⟩) 4 cap) ∧ Hid (Below w.heap.size w w1) ∧ RW (w1.alloc (.cells #[.slice (some ⟨g, 0, none⟩) 4 cap] 23)) w1.heap.size g 4 cap ws) := HW
  obtain ⟨wd, hwd⟩ : ∃ wd, wd = bA [115, 97, 109, 101] := ⟨_, rfl⟩
  obtain ⟨k0, k1, k2, k3, k4, k5, k6, k7, k8, k9, k10, k11, k12⟩ := kf_same hwd
  have HWD : Hid (wd = bA [115, 97, 109, 101]) := hwd
  clear hwd
  have r1 : (regF b).isSome = true := h0
  have r2 : (regF c).isSome = true := h1
  rw [okP_num lines 4 d lines (.inr (.inr (.inl ⟨rfl, rfl⟩)))] at h2
  obtain ⟨z3, hz3⟩ : ∃ z, nmbF (bA d).data.toList ((lines : Nat) : Int) = z := ⟨_, rfl⟩
  rw [hz3] at h2
  have HZ3 : Hid (nmbF (bA d).data.toList ((lines : Nat) : Int) = z3) := hz3
  clear hz3
  have g3 : (0 : Int) ≤ z3 := by simpa using h2
  have HN3 : Hid (∀ W, Calls Tryz.prog 46 #[.string (bA d), .int .i64 (lines : Int)] W fun e w' => e = .returned (.int .i64 z3) ∧ w' = W) := fun W => by
    have h := NumberOf_any (bA d) lines W (wd_size hs hws (by rw [HWS.out]; simp))
    rw [HZ3.out] at h
    exact h
  obtain ⟨x3, hx3⟩ : ∃ x, x = bA d := ⟨_, rfl⟩
  rw [← hx3] at HN3
  have HX3 : Hid (x3 = bA d) := hx3
  clear hx3
  clear hrig hws hwe hn1 hs h0 h1 h2
  go_enter Tryz.func44, Tryz.ntmps44
  go_wp2_with (first
    | (go_at_call 17; refine HW.out.mono ?_; rintro e w1 ⟨g, cap, rfl, HB1, hrw⟩; have HRW : Hid (RW (w1.alloc (.cells #[.slice (some ⟨g, 0, none⟩) 4 cap] 23)) w1.heap.size g 4 cap ws) := hrw; have q0 := (hrw.cells 0 [115, 97, 109, 101] (by rw [HWS.out]; rfl)).1; rw [← HWD.out] at q0; have yc := hrw.y; have p3 := (hrw.cells 3 d (by rw [HWS.out]; rfl)).1; rw [← HX3.out] at p3; have HBA : Hid (Below w.heap.size w (w1.alloc (.cells #[.slice (some ⟨g, 0, none⟩) 4 cap] 23))) := HB1.out.alloc HB1.out.size _; clear hrw)
    | (go_at_call 95; refine (r_any HRW.out 1 (x := b) (by rw [HWS.out]; rfl)).mono ?_; rintro e w4 ⟨rfl, hw⟩; subst w4)
    | (go_at_call 95; refine (r_any HRW.out 2 (x := c) (by rw [HWS.out]; rfl)).mono ?_; rintro e w4 ⟨rfl, hw⟩; subst w4)
    | (go_at_call 46; with_reducible refine (HN3.out _).mono ?_; rintro e w4 ⟨rfl, hw⟩; subst w4)
    | go_in)
  go_ret
  exact ⟨rfl, HBA.out⟩

theorem kf_less {wd : ByteArray} (hwd : wd = bA [108, 101, 115, 115]) : (wd.toList == [115, 101, 116]) = false ∧ (wd.toList == [114, 101, 97, 100]) = false ∧ (wd.toList == [108, 105, 115, 116]) = false ∧ (wd.toList == [106, 111, 105, 110]) = false ∧ (wd.toList == [99, 117, 116]) = false ∧ (wd.toList == [115, 105, 122, 101]) = false ∧ (wd.toList == [115, 117, 109]) = false ∧ (wd.toList == [109, 97, 107, 101]) = false ∧ (wd.toList == [114, 117, 110]) = false ∧ (wd.toList == [115, 97, 109, 101]) = false ∧ (wd.toList == [108, 101, 115, 115]) = true ∧ (wd.toList == [103, 111, 116, 111]) = false ∧ (wd.toList == [101, 120, 105, 116]) = false := by
  rw [hwd, Lib.toList_data]
  decide

set_option maxHeartbeats 4000000 in
set_option maxRecDepth 100000 in
theorem RL_less_no (lines : Nat) (s : ByteArray) (w : World) (hs : s.size ≤ 100000) {rest : List (List UInt8)} (hws : wdL [] s.data.toList = [108, 101, 115, 115] :: rest) (hn : ¬ ([108, 101, 115, 115] :: rest).length = 4) :
    Calls Tryz.prog 44 #[.string s, .int .i64 (lines : Int)] w fun e w' => e = .returned (.bool (rigF lines s.data.toList)) ∧ Below w.heap.size w w' := by
  have hrig : rigF lines s.data.toList = false := by
    rw [rig_of hws rfl (f := [0, 1, 4]) rfl (by decide), decide_eq_false (by simpa using hn), Bool.false_and]
  rw [hrig]
  obtain ⟨ws, hwe⟩ : ∃ ws, [108, 101, 115, 115] :: rest = ws := ⟨_, rfl⟩
  obtain ⟨n, hn1⟩ : ∃ n, ws.length = n := ⟨_, rfl⟩
  have HWS : Hid (ws = [108, 101, 115, 115] :: rest) := hwe.symm
  rw [hwe] at hws hn
  rw [hn1] at hn
  have hnp : 1 ≤ n := by rw [← hn1, ← hwe]; simp
  have hnb : n ≤ 1000000 := by
    have h1 := wdL_len s.data.toList []
    have h2 : s.size = s.data.toList.length := size_of rfl
    rw [hws, hn1] at h1
    omega
  have HW := words_front s w hs hws hn1
  have HW : Hid (Calls Tryz.prog 17 #[.string s] w fun e w1 => ∃ g cap, e = .returned (.slice (some ⟨g, 0, none⟩) n cap) ∧ Hid (Below w.heap.size w w1) ∧ RW (w1.alloc (.cells #[.slice (some ⟨g, 0, none⟩) n cap] 23)) w1.heap.size g n cap ws) := HW
  obtain ⟨m, hm⟩ : ∃ m : Nat, n = m + 1 := ⟨n - 1, by omega⟩
  subst hm
  have e1 : IntKind.i64.wrap (m : Int) = (m : Int) := by rw [IntKind.wrap_i64]; omega
  have e2 : (0 : Int) < (m : Int) + 1 := by omega
  have e3 : ((m : Int) == 3) = false := by simp; omega
  obtain ⟨wd, hwd⟩ : ∃ wd, wd = bA [108, 101, 115, 115] := ⟨_, rfl⟩
  obtain ⟨k0, k1, k2, k3, k4, k5, k6, k7, k8, k9, k10, k11, k12⟩ := kf_less hwd
  have HWD : Hid (wd = bA [108, 101, 115, 115]) := hwd
  clear hwd
  clear hrig hws hwe hn hn1 hnp hnb hs
  go_enter Tryz.func44, Tryz.ntmps44
  go_wp2_with (first
    | (go_at_call 17; refine HW.out.mono ?_; rintro e w1 ⟨g, cap, rfl, HB1, hrw⟩; have HRW : Hid (RW (w1.alloc (.cells #[.slice (some ⟨g, 0, none⟩) (m + 1) cap] 23)) w1.heap.size g (m + 1) cap ws) := hrw; have q0 := (hrw.cells 0 [108, 101, 115, 115] (by rw [HWS.out]; rfl)).1; rw [← HWD.out] at q0; have yc := hrw.y; have HBA : Hid (Below w.heap.size w (w1.alloc (.cells #[.slice (some ⟨g, 0, none⟩) (m + 1) cap] 23))) := HB1.out.alloc HB1.out.size _; clear hrw)
    | go_in)
  go_ret
  exact ⟨rfl, HBA.out⟩

set_option maxHeartbeats 4000000 in
set_option maxRecDepth 100000 in
theorem RL_less_0 (lines : Nat) (s : ByteArray) (w : World) (hs : s.size ≤ 100000) {b c d : List UInt8} (hws : wdL [] s.data.toList = [[108, 101, 115, 115], b, c, d]) (h0 : okP lines 0 b = false) :
    Calls Tryz.prog 44 #[.string s, .int .i64 (lines : Int)] w fun e w' => e = .returned (.bool (rigF lines s.data.toList)) ∧ Below w.heap.size w w' := by
  have hrig : rigF lines s.data.toList = false := by
    rw [rig_of hws rfl (f := [0, 1, 4]) rfl (by decide)]
    simp [allP, h0]
  rw [hrig]
  obtain ⟨ws, hwe⟩ : ∃ ws, [[108, 101, 115, 115], b, c, d] = ws := ⟨_, rfl⟩
  have hn1 : ws.length = 4 := by rw [← hwe]; rfl
  have HWS : Hid (ws = [[108, 101, 115, 115], b, c, d]) := hwe.symm
  rw [hwe] at hws
  have HW := words_front s w hs hws hn1
  have HW : Hid (Calls Tryz.prog 17 #[.string s] w fun e w1 => ∃ g cap, e = .returned (.slice (some ⟨g, 0, none⟩) 4 cap) ∧ Hid (Below w.heap.size w w1) ∧ RW (w1.alloc (.cells #[.slice (some ⟨g, 0, none⟩) 4 cap] 23)) w1.heap.size g 4 cap ws) := HW
  obtain ⟨wd, hwd⟩ : ∃ wd, wd = bA [108, 101, 115, 115] := ⟨_, rfl⟩
  obtain ⟨k0, k1, k2, k3, k4, k5, k6, k7, k8, k9, k10, k11, k12⟩ := kf_less hwd
  have HWD : Hid (wd = bA [108, 101, 115, 115]) := hwd
  clear hwd
  have r1 : (regF b).isSome = false := h0
  clear hrig hws hwe hn1 hs h0
  go_enter Tryz.func44, Tryz.ntmps44
  go_wp2_with (first
    | (go_at_call 17; refine HW.out.mono ?_; rintro e w1 ⟨g, cap, rfl, HB1, hrw⟩; have HRW : Hid (RW (w1.alloc (.cells #[.slice (some ⟨g, 0, none⟩) 4 cap] 23)) w1.heap.size g 4 cap ws) := hrw; have q0 := (hrw.cells 0 [108, 101, 115, 115] (by rw [HWS.out]; rfl)).1; rw [← HWD.out] at q0; have yc := hrw.y; have HBA : Hid (Below w.heap.size w (w1.alloc (.cells #[.slice (some ⟨g, 0, none⟩) 4 cap] 23))) := HB1.out.alloc HB1.out.size _; clear hrw)
    | (go_at_call 95; refine (r_any HRW.out 1 (x := b) (by rw [HWS.out]; rfl)).mono ?_; rintro e w4 ⟨rfl, hw⟩; subst w4)
    | go_in)
  go_ret
  exact ⟨rfl, HBA.out⟩

set_option maxHeartbeats 4000000 in
set_option maxRecDepth 100000 in
theorem RL_less_1 (lines : Nat) (s : ByteArray) (w : World) (hs : s.size ≤ 100000) {b c d : List UInt8} (hws : wdL [] s.data.toList = [[108, 101, 115, 115], b, c, d]) (h0 : okP lines 0 b = true) (h1 : okP lines 1 c = false) :
    Calls Tryz.prog 44 #[.string s, .int .i64 (lines : Int)] w fun e w' => e = .returned (.bool (rigF lines s.data.toList)) ∧ Below w.heap.size w w' := by
  have hrig : rigF lines s.data.toList = false := by
    rw [rig_of hws rfl (f := [0, 1, 4]) rfl (by decide)]
    simp [allP, h0, h1]
  rw [hrig]
  obtain ⟨ws, hwe⟩ : ∃ ws, [[108, 101, 115, 115], b, c, d] = ws := ⟨_, rfl⟩
  have hn1 : ws.length = 4 := by rw [← hwe]; rfl
  have HWS : Hid (ws = [[108, 101, 115, 115], b, c, d]) := hwe.symm
  rw [hwe] at hws
  have HW := words_front s w hs hws hn1
  have HW : Hid (Calls Tryz.prog 17 #[.string s] w fun e w1 => ∃ g cap, e = .returned (.slice (some ⟨g, 0, none⟩) 4 cap) ∧ Hid (Below w.heap.size w w1) ∧ RW (w1.alloc (.cells #[.slice (some ⟨g, 0, none⟩) 4 cap] 23)) w1.heap.size g 4 cap ws) := HW
  obtain ⟨wd, hwd⟩ : ∃ wd, wd = bA [108, 101, 115, 115] := ⟨_, rfl⟩
  obtain ⟨k0, k1, k2, k3, k4, k5, k6, k7, k8, k9, k10, k11, k12⟩ := kf_less hwd
  have HWD : Hid (wd = bA [108, 101, 115, 115]) := hwd
  clear hwd
  have r1 : (regF b).isSome = true := h0
  have r2 : (regF c).isSome = false := h1
  clear hrig hws hwe hn1 hs h0 h1
  go_enter Tryz.func44, Tryz.ntmps44
  go_wp2_with (first
    | (go_at_call 17; refine HW.out.mono ?_; rintro e w1 ⟨g, cap, rfl, HB1, hrw⟩; have HRW : Hid (RW (w1.alloc (.cells #[.slice (some ⟨g, 0, none⟩) 4 cap] 23)) w1.heap.size g 4 cap ws) := hrw; have q0 := (hrw.cells 0 [108, 101, 115, 115] (by rw [HWS.out]; rfl)).1; rw [← HWD.out] at q0; have yc := hrw.y; have HBA : Hid (Below w.heap.size w (w1.alloc (.cells #[.slice (some ⟨g, 0, none⟩) 4 cap] 23))) := HB1.out.alloc HB1.out.size _; clear hrw)
    | (go_at_call 95; refine (r_any HRW.out 1 (x := b) (by rw [HWS.out]; rfl)).mono ?_; rintro e w4 ⟨rfl, hw⟩; subst w4)
    | (go_at_call 95; refine (r_any HRW.out 2 (x := c) (by rw [HWS.out]; rfl)).mono ?_; rintro e w4 ⟨rfl, hw⟩; subst w4)
    | go_in)
  go_ret
  exact ⟨rfl, HBA.out⟩

set_option maxHeartbeats 4000000 in
set_option maxRecDepth 100000 in
theorem RL_less_2 (lines : Nat) (s : ByteArray) (w : World) (hs : s.size ≤ 100000) {b c d : List UInt8} (hws : wdL [] s.data.toList = [[108, 101, 115, 115], b, c, d]) (h0 : okP lines 0 b = true) (h1 : okP lines 1 c = true) (h2 : okP lines 4 d = false) :
    Calls Tryz.prog 44 #[.string s, .int .i64 (lines : Int)] w fun e w' => e = .returned (.bool (rigF lines s.data.toList)) ∧ Below w.heap.size w w' := by
  have hrig : rigF lines s.data.toList = false := by
    rw [rig_of hws rfl (f := [0, 1, 4]) rfl (by decide)]
    simp [allP, h0, h1, h2]
  rw [hrig]
  obtain ⟨ws, hwe⟩ : ∃ ws, [[108, 101, 115, 115], b, c, d] = ws := ⟨_, rfl⟩
  have hn1 : ws.length = 4 := by rw [← hwe]; rfl
  have HWS : Hid (ws = [[108, 101, 115, 115], b, c, d]) := hwe.symm
  rw [hwe] at hws
  have HW := words_front s w hs hws hn1
  have HW : Hid (Calls Tryz.prog 17 #[.string s] w fun e w1 => ∃ g cap, e = .returned (.slice (some ⟨g, 0, none⟩) 4 cap) ∧ Hid (Below w.heap.size w w1) ∧ RW (w1.alloc (.cells #[.slice (some ⟨g, 0, none⟩) 4 cap] 23)) w1.heap.size g 4 cap ws) := HW
  obtain ⟨wd, hwd⟩ : ∃ wd, wd = bA [108, 101, 115, 115] := ⟨_, rfl⟩
  obtain ⟨k0, k1, k2, k3, k4, k5, k6, k7, k8, k9, k10, k11, k12⟩ := kf_less hwd
  have HWD : Hid (wd = bA [108, 101, 115, 115]) := hwd
  clear hwd
  have r1 : (regF b).isSome = true := h0
  have r2 : (regF c).isSome = true := h1
  rw [okP_num lines 4 d lines (.inr (.inr (.inl ⟨rfl, rfl⟩)))] at h2
  have HZ3 : Hid (nmbF (bA d).data.toList ((lines : Nat) : Int) = -1) := nmb_neg (by simpa using h2)
  have HN3 : Hid (∀ W, Calls Tryz.prog 46 #[.string (bA d), .int .i64 (lines : Int)] W fun e w' => e = .returned (.int .i64 (-1)) ∧ w' = W) := fun W => by
    have h := NumberOf_any (bA d) lines W (wd_size hs hws (by rw [HWS.out]; simp))
    rw [HZ3.out] at h
    exact h
  obtain ⟨x3, hx3⟩ : ∃ x, x = bA d := ⟨_, rfl⟩
  rw [← hx3] at HN3
  have HX3 : Hid (x3 = bA d) := hx3
  clear hx3
  clear hrig hws hwe hn1 hs h0 h1 h2
  go_enter Tryz.func44, Tryz.ntmps44
  go_wp2_with (first
    | (go_at_call 17; refine HW.out.mono ?_; rintro e w1 ⟨g, cap, rfl, HB1, hrw⟩; have HRW : Hid (RW (w1.alloc (.cells #[.slice (some ⟨g, 0, none⟩) 4 cap] 23)) w1.heap.size g 4 cap ws) := hrw; have q0 := (hrw.cells 0 [108, 101, 115, 115] (by rw [HWS.out]; rfl)).1; rw [← HWD.out] at q0; have yc := hrw.y; have p3 := (hrw.cells 3 d (by rw [HWS.out]; rfl)).1; rw [← HX3.out] at p3; have HBA : Hid (Below w.heap.size w (w1.alloc (.cells #[.slice (some ⟨g, 0, none⟩) 4 cap] 23))) := HB1.out.alloc HB1.out.size _; clear hrw)
    | (go_at_call 95; refine (r_any HRW.out 1 (x := b) (by rw [HWS.out]; rfl)).mono ?_; rintro e w4 ⟨rfl, hw⟩; subst w4)
    | (go_at_call 95; refine (r_any HRW.out 2 (x := c) (by rw [HWS.out]; rfl)).mono ?_; rintro e w4 ⟨rfl, hw⟩; subst w4)
    | (go_at_call 46; with_reducible refine (HN3.out _).mono ?_; rintro e w4 ⟨rfl, hw⟩; subst w4)
    | go_in)
  go_ret
  exact ⟨rfl, HBA.out⟩

set_option maxHeartbeats 4000000 in
set_option maxRecDepth 100000 in
theorem RL_less_3 (lines : Nat) (s : ByteArray) (w : World) (hs : s.size ≤ 100000) {b c d : List UInt8} (hws : wdL [] s.data.toList = [[108, 101, 115, 115], b, c, d]) (h0 : okP lines 0 b = true) (h1 : okP lines 1 c = true) (h2 : okP lines 4 d = true) :
    Calls Tryz.prog 44 #[.string s, .int .i64 (lines : Int)] w fun e w' => e = .returned (.bool (rigF lines s.data.toList)) ∧ Below w.heap.size w w' := by
  have hrig : rigF lines s.data.toList = true := by
    rw [rig_of hws rfl (f := [0, 1, 4]) rfl (by decide)]
    simp [allP, h0, h1, h2]
  rw [hrig]
  obtain ⟨ws, hwe⟩ : ∃ ws, [[108, 101, 115, 115], b, c, d] = ws := ⟨_, rfl⟩
  have hn1 : ws.length = 4 := by rw [← hwe]; rfl
  have HWS : Hid (ws = [[108, 101, 115, 115], b, c, d]) := hwe.symm
  rw [hwe] at hws
  have HW := words_front s w hs hws hn1
  have HW : Hid (Calls Tryz.prog 17 #[.string s] w fun e w1 => ∃ g cap, e = .returned (.slice (some ⟨g, 0, none⟩) 4 cap) ∧ Hid (Below w.heap.size w w1) ∧ RW (w1.alloc (.cells #[.slice (some ⟨g, 0, none⟩) 4 cap] 23)) w1.heap.size g 4 cap ws) := HW
  obtain ⟨wd, hwd⟩ : ∃ wd, wd = bA [108, 101, 115, 115] := ⟨_, rfl⟩
  obtain ⟨k0, k1, k2, k3, k4, k5, k6, k7, k8, k9, k10, k11, k12⟩ := kf_less hwd
  have HWD : Hid (wd = bA [108, 101, 115, 115]) := hwd
  clear hwd
  have r1 : (regF b).isSome = true := h0
  have r2 : (regF c).isSome = true := h1
  rw [okP_num lines 4 d lines (.inr (.inr (.inl ⟨rfl, rfl⟩)))] at h2
  obtain ⟨z3, hz3⟩ : ∃ z, nmbF (bA d).data.toList ((lines : Nat) : Int) = z := ⟨_, rfl⟩
  rw [hz3] at h2
  have HZ3 : Hid (nmbF (bA d).data.toList ((lines : Nat) : Int) = z3) := hz3
  clear hz3
  have g3 : (0 : Int) ≤ z3 := by simpa using h2
  have HN3 : Hid (∀ W, Calls Tryz.prog 46 #[.string (bA d), .int .i64 (lines : Int)] W fun e w' => e = .returned (.int .i64 z3) ∧ w' = W) := fun W => by
    have h := NumberOf_any (bA d) lines W (wd_size hs hws (by rw [HWS.out]; simp))
    rw [HZ3.out] at h
    exact h
  obtain ⟨x3, hx3⟩ : ∃ x, x = bA d := ⟨_, rfl⟩
  rw [← hx3] at HN3
  have HX3 : Hid (x3 = bA d) := hx3
  clear hx3
  clear hrig hws hwe hn1 hs h0 h1 h2
  go_enter Tryz.func44, Tryz.ntmps44
  go_wp2_with (first
    | (go_at_call 17; refine HW.out.mono ?_; rintro e w1 ⟨g, cap, rfl, HB1, hrw⟩; have HRW : Hid (RW (w1.alloc (.cells #[.slice (some ⟨g, 0, none⟩) 4 cap] 23)) w1.heap.size g 4 cap ws) := hrw; have q0 := (hrw.cells 0 [108, 101, 115, 115] (by rw [HWS.out]; rfl)).1; rw [← HWD.out] at q0; have yc := hrw.y; have p3 := (hrw.cells 3 d (by rw [HWS.out]; rfl)).1; rw [← HX3.out] at p3; have HBA : Hid (Below w.heap.size w (w1.alloc (.cells #[.slice (some ⟨g, 0, none⟩) 4 cap] 23))) := HB1.out.alloc HB1.out.size _; clear hrw)
    | (go_at_call 95; refine (r_any HRW.out 1 (x := b) (by rw [HWS.out]; rfl)).mono ?_; rintro e w4 ⟨rfl, hw⟩; subst w4)
    | (go_at_call 95; refine (r_any HRW.out 2 (x := c) (by rw [HWS.out]; rfl)).mono ?_; rintro e w4 ⟨rfl, hw⟩; subst w4)
    | (go_at_call 46; with_reducible refine (HN3.out _).mono ?_; rintro e w4 ⟨rfl, hw⟩; subst w4)
    | go_in)
  go_ret
  exact ⟨rfl, HBA.out⟩
end Go.Proofs.YtapiedeekbfpnaaGreatDoor

/- The document's RightLine, by a line's first word. -/
namespace Go.Proofs.YtapiedeekbfpnaaGreatDoor
open Go.RowKit Go.Shelf

theorem kf_cut {wd : ByteArray} (hwd : wd = bA [99, 117, 116]) : (wd.toList == [115, 101, 116]) = false ∧ (wd.toList == [114, 101, 97, 100]) = false ∧ (wd.toList == [108, 105, 115, 116]) = false ∧ (wd.toList == [106, 111, 105, 110]) = false ∧ (wd.toList == [99, 117, 116]) = true ∧ (wd.toList == [115, 105, 122, 101]) = false ∧ (wd.toList == [115, 117, 109]) = false ∧ (wd.toList == [109, 97, 107, 101]) = false ∧ (wd.toList == [114, 117, 110]) = false ∧ (wd.toList == [115, 97, 109, 101]) = false ∧ (wd.toList == [108, 101, 115, 115]) = false ∧ (wd.toList == [103, 111, 116, 111]) = false ∧ (wd.toList == [101, 120, 105, 116]) = false := by
  rw [hwd, Lib.toList_data]
  decide

set_option maxHeartbeats 4000000 in
set_option maxRecDepth 100000 in
theorem RL_cut_no (lines : Nat) (s : ByteArray) (w : World) (hs : s.size ≤ 100000) {rest : List (List UInt8)} (hws : wdL [] s.data.toList = [99, 117, 116] :: rest) (hn : ¬ ([99, 117, 116] :: rest).length = 4) :
    Calls Tryz.prog 44 #[.string s, .int .i64 (lines : Int)] w fun e w' => e = .returned (.bool (rigF lines s.data.toList)) ∧ Below w.heap.size w w' := by
  have hrig : rigF lines s.data.toList = false := by
    rw [rig_of hws rfl (f := [0, 2, 3]) rfl (by decide), decide_eq_false (by simpa using hn), Bool.false_and]
  rw [hrig]
  obtain ⟨ws, hwe⟩ : ∃ ws, [99, 117, 116] :: rest = ws := ⟨_, rfl⟩
  obtain ⟨n, hn1⟩ : ∃ n, ws.length = n := ⟨_, rfl⟩
  have HWS : Hid (ws = [99, 117, 116] :: rest) := hwe.symm
  rw [hwe] at hws hn
  rw [hn1] at hn
  have hnp : 1 ≤ n := by rw [← hn1, ← hwe]; simp
  have hnb : n ≤ 1000000 := by
    have h1 := wdL_len s.data.toList []
    have h2 : s.size = s.data.toList.length := size_of rfl
    rw [hws, hn1] at h1
    omega
  have HW := words_front s w hs hws hn1
  have HW : Hid (Calls Tryz.prog 17 #[.string s] w fun e w1 => ∃ g cap, e = .returned (.slice (some ⟨g, 0, none⟩) n cap) ∧ Hid (Below w.heap.size w w1) ∧ RW (w1.alloc (.cells #[.slice (some ⟨g, 0, none⟩) n cap] 23)) w1.heap.size g n cap ws) := HW
  obtain ⟨m, hm⟩ : ∃ m : Nat, n = m + 1 := ⟨n - 1, by omega⟩
  subst hm
  have e1 : IntKind.i64.wrap (m : Int) = (m : Int) := by rw [IntKind.wrap_i64]; omega
  have e2 : (0 : Int) < (m : Int) + 1 := by omega
  have e3 : ((m : Int) == 3) = false := by simp; omega
  obtain ⟨wd, hwd⟩ : ∃ wd, wd = bA [99, 117, 116] := ⟨_, rfl⟩
  obtain ⟨k0, k1, k2, k3, k4, k5, k6, k7, k8, k9, k10, k11, k12⟩ := kf_cut hwd
  have HWD : Hid (wd = bA [99, 117, 116]) := hwd
  clear hwd
  clear hrig hws hwe hn hn1 hnp hnb hs
  go_enter Tryz.func44, Tryz.ntmps44
  go_wp2_with (first
    | (go_at_call 17; refine HW.out.mono ?_; rintro e w1 ⟨g, cap, rfl, HB1, hrw⟩; have HRW : Hid (RW (w1.alloc (.cells #[.slice (some ⟨g, 0, none⟩) (m + 1) cap] 23)) w1.heap.size g (m + 1) cap ws) := hrw; have q0 := (hrw.cells 0 [99, 117, 116] (by rw [HWS.out]; rfl)).1; rw [← HWD.out] at q0; have yc := hrw.y; have HBA : Hid (Below w.heap.size w (w1.alloc (.cells #[.slice (some ⟨g, 0, none⟩) (m + 1) cap] 23))) := HB1.out.alloc HB1.out.size _; clear hrw)
    | go_in)
  go_ret
  exact ⟨rfl, HBA.out⟩

set_option maxHeartbeats 4000000 in
set_option maxRecDepth 100000 in
theorem RL_cut_0 (lines : Nat) (s : ByteArray) (w : World) (hs : s.size ≤ 100000) {b c d : List UInt8} (hws : wdL [] s.data.toList = [[99, 117, 116], b, c, d]) (h0 : okP lines 0 b = false) :
    Calls Tryz.prog 44 #[.string s, .int .i64 (lines : Int)] w fun e w' => e = .returned (.bool (rigF lines s.data.toList)) ∧ Below w.heap.size w w' := by
  have hrig : rigF lines s.data.toList = false := by
    rw [rig_of hws rfl (f := [0, 2, 3]) rfl (by decide)]
    simp [allP, h0]
  rw [hrig]
  obtain ⟨ws, hwe⟩ : ∃ ws, [[99, 117, 116], b, c, d] = ws := ⟨_, rfl⟩
  have hn1 : ws.length = 4 := by rw [← hwe]; rfl
  have HWS : Hid (ws = [[99, 117, 116], b, c, d]) := hwe.symm
  rw [hwe] at hws
  have HW := words_front s w hs hws hn1
  have HW : Hid (Calls Tryz.prog 17 #[.string s] w fun e w1 => ∃ g cap, e = .returned (.slice (some ⟨g, 0, none⟩) 4 cap) ∧ Hid (Below w.heap.size w w1) ∧ RW (w1.alloc (.cells #[.slice (some ⟨g, 0, none⟩) 4 cap] 23)) w1.heap.size g 4 cap ws) := HW
  obtain ⟨wd, hwd⟩ : ∃ wd, wd = bA [99, 117, 116] := ⟨_, rfl⟩
  obtain ⟨k0, k1, k2, k3, k4, k5, k6, k7, k8, k9, k10, k11, k12⟩ := kf_cut hwd
  have HWD : Hid (wd = bA [99, 117, 116]) := hwd
  clear hwd
  have r1 : (regF b).isSome = false := h0
  clear hrig hws hwe hn1 hs h0
  go_enter Tryz.func44, Tryz.ntmps44
  go_wp2_with (first
    | (go_at_call 17; refine HW.out.mono ?_; rintro e w1 ⟨g, cap, rfl, HB1, hrw⟩; have HRW : Hid (RW (w1.alloc (.cells #[.slice (some ⟨g, 0, none⟩) 4 cap] 23)) w1.heap.size g 4 cap ws) := hrw; have q0 := (hrw.cells 0 [99, 117, 116] (by rw [HWS.out]; rfl)).1; rw [← HWD.out] at q0; have yc := hrw.y; have HBA : Hid (Below w.heap.size w (w1.alloc (.cells #[.slice (some ⟨g, 0, none⟩) 4 cap] 23))) := HB1.out.alloc HB1.out.size _; clear hrw)
    | (go_at_call 95; refine (r_any HRW.out 1 (x := b) (by rw [HWS.out]; rfl)).mono ?_; rintro e w4 ⟨rfl, hw⟩; subst w4)
    | go_in)
  go_ret
  exact ⟨rfl, HBA.out⟩

set_option maxHeartbeats 4000000 in
set_option maxRecDepth 100000 in
theorem RL_cut_1 (lines : Nat) (s : ByteArray) (w : World) (hs : s.size ≤ 100000) {b c d : List UInt8} (hws : wdL [] s.data.toList = [[99, 117, 116], b, c, d]) (h0 : okP lines 0 b = true) (h1 : okP lines 2 c = false) :
    Calls Tryz.prog 44 #[.string s, .int .i64 (lines : Int)] w fun e w' => e = .returned (.bool (rigF lines s.data.toList)) ∧ Below w.heap.size w w' := by
  have hrig : rigF lines s.data.toList = false := by
    rw [rig_of hws rfl (f := [0, 2, 3]) rfl (by decide)]
    simp [allP, h0, h1]
  rw [hrig]
  obtain ⟨ws, hwe⟩ : ∃ ws, [[99, 117, 116], b, c, d] = ws := ⟨_, rfl⟩
  have hn1 : ws.length = 4 := by rw [← hwe]; rfl
  have HWS : Hid (ws = [[99, 117, 116], b, c, d]) := hwe.symm
  rw [hwe] at hws
  have HW := words_front s w hs hws hn1
  have HW : Hid (Calls Tryz.prog 17 #[.string s] w fun e w1 => ∃ g cap, e = .returned (.slice (some ⟨g, 0, none⟩) 4 cap) ∧ Hid (Below w.heap.size w w1) ∧ RW (w1.alloc (.cells #[.slice (some ⟨g, 0, none⟩) 4 cap] 23)) w1.heap.size g 4 cap ws) := HW
  obtain ⟨wd, hwd⟩ : ∃ wd, wd = bA [99, 117, 116] := ⟨_, rfl⟩
  obtain ⟨k0, k1, k2, k3, k4, k5, k6, k7, k8, k9, k10, k11, k12⟩ := kf_cut hwd
  have HWD : Hid (wd = bA [99, 117, 116]) := hwd
  clear hwd
  have r1 : (regF b).isSome = true := h0
  rw [okP_num lines 2 c 999999 (.inl ⟨rfl, rfl⟩)] at h1
  have HZ2 : Hid (nmbF (bA c).data.toList ((999999 : Nat) : Int) = -1) := nmb_neg (by simpa using h1)
  have HN2 : Hid (∀ W, Calls Tryz.prog 46 #[.string (bA c), .int .i64 999999] W fun e w' => e = .returned (.int .i64 (-1)) ∧ w' = W) := fun W => by
    have h := NumberOf_any (bA c) 999999 W (wd_size hs hws (by rw [HWS.out]; simp))
    rw [HZ2.out] at h
    exact h
  obtain ⟨x2, hx2⟩ : ∃ x, x = bA c := ⟨_, rfl⟩
  rw [← hx2] at HN2
  have HX2 : Hid (x2 = bA c) := hx2
  clear hx2
  clear hrig hws hwe hn1 hs h0 h1
  go_enter Tryz.func44, Tryz.ntmps44
  go_wp2_with (first
    | (go_at_call 17; refine HW.out.mono ?_; rintro e w1 ⟨g, cap, rfl, HB1, hrw⟩; have HRW : Hid (RW (w1.alloc (.cells #[.slice (some ⟨g, 0, none⟩) 4 cap] 23)) w1.heap.size g 4 cap ws) := hrw; have q0 := (hrw.cells 0 [99, 117, 116] (by rw [HWS.out]; rfl)).1; rw [← HWD.out] at q0; have yc := hrw.y; have p2 := (hrw.cells 2 c (by rw [HWS.out]; rfl)).1; rw [← HX2.out] at p2; have HBA : Hid (Below w.heap.size w (w1.alloc (.cells #[.slice (some ⟨g, 0, none⟩) 4 cap] 23))) := HB1.out.alloc HB1.out.size _; clear hrw)
    | (go_at_call 95; refine (r_any HRW.out 1 (x := b) (by rw [HWS.out]; rfl)).mono ?_; rintro e w4 ⟨rfl, hw⟩; subst w4)
    | (go_at_call 46; with_reducible refine (HN2.out _).mono ?_; rintro e w4 ⟨rfl, hw⟩; subst w4)
    | go_in)
  go_ret
  exact ⟨rfl, HBA.out⟩

set_option maxHeartbeats 4000000 in
set_option maxRecDepth 100000 in
theorem RL_cut_2 (lines : Nat) (s : ByteArray) (w : World) (hs : s.size ≤ 100000) {b c d : List UInt8} (hws : wdL [] s.data.toList = [[99, 117, 116], b, c, d]) (h0 : okP lines 0 b = true) (h1 : okP lines 2 c = true) (h2 : okP lines 3 d = false) :
    Calls Tryz.prog 44 #[.string s, .int .i64 (lines : Int)] w fun e w' => e = .returned (.bool (rigF lines s.data.toList)) ∧ Below w.heap.size w w' := by
  have hrig : rigF lines s.data.toList = false := by
    rw [rig_of hws rfl (f := [0, 2, 3]) rfl (by decide)]
    simp [allP, h0, h1, h2]
  rw [hrig]
  obtain ⟨ws, hwe⟩ : ∃ ws, [[99, 117, 116], b, c, d] = ws := ⟨_, rfl⟩
  have hn1 : ws.length = 4 := by rw [← hwe]; rfl
  have HWS : Hid (ws = [[99, 117, 116], b, c, d]) := hwe.symm
  rw [hwe] at hws
  have HW := words_front s w hs hws hn1
  have HW : Hid (Calls Tryz.prog 17 #[.string s] w fun e w1 => ∃ g cap, e = .returned (.slice (some ⟨g, 0, none⟩) 4 cap) ∧ Hid (Below w.heap.size w w1) ∧ RW (w1.alloc (.cells #[.slice (some ⟨g, 0, none⟩) 4 cap] 23)) w1.heap.size g 4 cap ws) := HW
  obtain ⟨wd, hwd⟩ : ∃ wd, wd = bA [99, 117, 116] := ⟨_, rfl⟩
  obtain ⟨k0, k1, k2, k3, k4, k5, k6, k7, k8, k9, k10, k11, k12⟩ := kf_cut hwd
  have HWD : Hid (wd = bA [99, 117, 116]) := hwd
  clear hwd
  have r1 : (regF b).isSome = true := h0
  rw [okP_num lines 2 c 999999 (.inl ⟨rfl, rfl⟩)] at h1
  obtain ⟨z2, hz2⟩ : ∃ z, nmbF (bA c).data.toList ((999999 : Nat) : Int) = z := ⟨_, rfl⟩
  rw [hz2] at h1
  have HZ2 : Hid (nmbF (bA c).data.toList ((999999 : Nat) : Int) = z2) := hz2
  clear hz2
  have g2 : (0 : Int) ≤ z2 := by simpa using h1
  have HN2 : Hid (∀ W, Calls Tryz.prog 46 #[.string (bA c), .int .i64 999999] W fun e w' => e = .returned (.int .i64 z2) ∧ w' = W) := fun W => by
    have h := NumberOf_any (bA c) 999999 W (wd_size hs hws (by rw [HWS.out]; simp))
    rw [HZ2.out] at h
    exact h
  obtain ⟨x2, hx2⟩ : ∃ x, x = bA c := ⟨_, rfl⟩
  rw [← hx2] at HN2
  have HX2 : Hid (x2 = bA c) := hx2
  clear hx2
  rw [okP_num lines 3 d 999999 (.inr (.inl ⟨rfl, rfl⟩))] at h2
  have HZ3 : Hid (nmbF (bA d).data.toList ((999999 : Nat) : Int) = -1) := nmb_neg (by simpa using h2)
  have HN3 : Hid (∀ W, Calls Tryz.prog 46 #[.string (bA d), .int .i64 999999] W fun e w' => e = .returned (.int .i64 (-1)) ∧ w' = W) := fun W => by
    have h := NumberOf_any (bA d) 999999 W (wd_size hs hws (by rw [HWS.out]; simp))
    rw [HZ3.out] at h
    exact h
  obtain ⟨x3, hx3⟩ : ∃ x, x = bA d := ⟨_, rfl⟩
  rw [← hx3] at HN3
  have HX3 : Hid (x3 = bA d) := hx3
  clear hx3
  clear hrig hws hwe hn1 hs h0 h1 h2
  go_enter Tryz.func44, Tryz.ntmps44
  go_wp2_with (first
    | (go_at_call 17; refine HW.out.mono ?_; rintro e w1 ⟨g, cap, rfl, HB1, hrw⟩; have HRW : Hid (RW (w1.alloc (.cells #[.slice (some ⟨g, 0, none⟩) 4 cap] 23)) w1.heap.size g 4 cap ws) := hrw; have q0 := (hrw.cells 0 [99, 117, 116] (by rw [HWS.out]; rfl)).1; rw [← HWD.out] at q0; have yc := hrw.y; have p2 := (hrw.cells 2 c (by rw [HWS.out]; rfl)).1; rw [← HX2.out] at p2; have p3 := (hrw.cells 3 d (by rw [HWS.out]; rfl)).1; rw [← HX3.out] at p3; have HBA : Hid (Below w.heap.size w (w1.alloc (.cells #[.slice (some ⟨g, 0, none⟩) 4 cap] 23))) := HB1.out.alloc HB1.out.size _; clear hrw)
    | (go_at_call 95; refine (r_any HRW.out 1 (x := b) (by rw [HWS.out]; rfl)).mono ?_; rintro e w4 ⟨rfl, hw⟩; subst w4)
    | (go_at_call 46; with_reducible refine (HN2.out _).mono ?_; rintro e w4 ⟨rfl, hw⟩; subst w4)
    | (go_at_call 46; with_reducible refine (HN3.out _).mono ?_; rintro e w4 ⟨rfl, hw⟩; subst w4)
    | go_in)
  go_ret
  exact ⟨rfl, HBA.out⟩

set_option maxHeartbeats 4000000 in
set_option maxRecDepth 100000 in
theorem RL_cut_3 (lines : Nat) (s : ByteArray) (w : World) (hs : s.size ≤ 100000) {b c d : List UInt8} (hws : wdL [] s.data.toList = [[99, 117, 116], b, c, d]) (h0 : okP lines 0 b = true) (h1 : okP lines 2 c = true) (h2 : okP lines 3 d = true) :
    Calls Tryz.prog 44 #[.string s, .int .i64 (lines : Int)] w fun e w' => e = .returned (.bool (rigF lines s.data.toList)) ∧ Below w.heap.size w w' := by
  have hrig : rigF lines s.data.toList = true := by
    rw [rig_of hws rfl (f := [0, 2, 3]) rfl (by decide)]
    simp [allP, h0, h1, h2]
  rw [hrig]
  obtain ⟨ws, hwe⟩ : ∃ ws, [[99, 117, 116], b, c, d] = ws := ⟨_, rfl⟩
  have hn1 : ws.length = 4 := by rw [← hwe]; rfl
  have HWS : Hid (ws = [[99, 117, 116], b, c, d]) := hwe.symm
  rw [hwe] at hws
  have HW := words_front s w hs hws hn1
  have HW : Hid (Calls Tryz.prog 17 #[.string s] w fun e w1 => ∃ g cap, e = .returned (.slice (some ⟨g, 0, none⟩) 4 cap) ∧ Hid (Below w.heap.size w w1) ∧ RW (w1.alloc (.cells #[.slice (some ⟨g, 0, none⟩) 4 cap] 23)) w1.heap.size g 4 cap ws) := HW
  obtain ⟨wd, hwd⟩ : ∃ wd, wd = bA [99, 117, 116] := ⟨_, rfl⟩
  obtain ⟨k0, k1, k2, k3, k4, k5, k6, k7, k8, k9, k10, k11, k12⟩ := kf_cut hwd
  have HWD : Hid (wd = bA [99, 117, 116]) := hwd
  clear hwd
  have r1 : (regF b).isSome = true := h0
  rw [okP_num lines 2 c 999999 (.inl ⟨rfl, rfl⟩)] at h1
  obtain ⟨z2, hz2⟩ : ∃ z, nmbF (bA c).data.toList ((999999 : Nat) : Int) = z := ⟨_, rfl⟩
  rw [hz2] at h1
  have HZ2 : Hid (nmbF (bA c).data.toList ((999999 : Nat) : Int) = z2) := hz2
  clear hz2
  have g2 : (0 : Int) ≤ z2 := by simpa using h1
  have HN2 : Hid (∀ W, Calls Tryz.prog 46 #[.string (bA c), .int .i64 999999] W fun e w' => e = .returned (.int .i64 z2) ∧ w' = W) := fun W => by
    have h := NumberOf_any (bA c) 999999 W (wd_size hs hws (by rw [HWS.out]; simp))
    rw [HZ2.out] at h
    exact h
  obtain ⟨x2, hx2⟩ : ∃ x, x = bA c := ⟨_, rfl⟩
  rw [← hx2] at HN2
  have HX2 : Hid (x2 = bA c) := hx2
  clear hx2
  rw [okP_num lines 3 d 999999 (.inr (.inl ⟨rfl, rfl⟩))] at h2
  obtain ⟨z3, hz3⟩ : ∃ z, nmbF (bA d).data.toList ((999999 : Nat) : Int) = z := ⟨_, rfl⟩
  rw [hz3] at h2
  have HZ3 : Hid (nmbF (bA d).data.toList ((999999 : Nat) : Int) = z3) := hz3
  clear hz3
  have g3 : (0 : Int) ≤ z3 := by simpa using h2
  have HN3 : Hid (∀ W, Calls Tryz.prog 46 #[.string (bA d), .int .i64 999999] W fun e w' => e = .returned (.int .i64 z3) ∧ w' = W) := fun W => by
    have h := NumberOf_any (bA d) 999999 W (wd_size hs hws (by rw [HWS.out]; simp))
    rw [HZ3.out] at h
    exact h
  obtain ⟨x3, hx3⟩ : ∃ x, x = bA d := ⟨_, rfl⟩
  rw [← hx3] at HN3
  have HX3 : Hid (x3 = bA d) := hx3
  clear hx3
  clear hrig hws hwe hn1 hs h0 h1 h2
  go_enter Tryz.func44, Tryz.ntmps44
  go_wp2_with (first
    | (go_at_call 17; refine HW.out.mono ?_; rintro e w1 ⟨g, cap, rfl, HB1, hrw⟩; have HRW : Hid (RW (w1.alloc (.cells #[.slice (some ⟨g, 0, none⟩) 4 cap] 23)) w1.heap.size g 4 cap ws) := hrw; have q0 := (hrw.cells 0 [99, 117, 116] (by rw [HWS.out]; rfl)).1; rw [← HWD.out] at q0; have yc := hrw.y; have p2 := (hrw.cells 2 c (by rw [HWS.out]; rfl)).1; rw [← HX2.out] at p2; have p3 := (hrw.cells 3 d (by rw [HWS.out]; rfl)).1; rw [← HX3.out] at p3; have HBA : Hid (Below w.heap.size w (w1.alloc (.cells #[.slice (some ⟨g, 0, none⟩) 4 cap] 23))) := HB1.out.alloc HB1.out.size _; clear hrw)
    | (go_at_call 95; refine (r_any HRW.out 1 (x := b) (by rw [HWS.out]; rfl)).mono ?_; rintro e w4 ⟨rfl, hw⟩; subst w4)
    | (go_at_call 46; with_reducible refine (HN2.out _).mono ?_; rintro e w4 ⟨rfl, hw⟩; subst w4)
    | (go_at_call 46; with_reducible refine (HN3.out _).mono ?_; rintro e w4 ⟨rfl, hw⟩; subst w4)
    | go_in)
  go_ret
  exact ⟨rfl, HBA.out⟩
end Go.Proofs.YtapiedeekbfpnaaGreatDoor

/- The document's RightLine, whole. -/
namespace Go.Proofs.YtapiedeekbfpnaaGreatDoor
open Go.RowKit Go.Shelf

theorem len2 {α : Type} {l : List α} (h : l.length = 2) : ∃ a b, l = [a, b] := by
  match l, h with
  | [a, b], _ => exact ⟨a, b, rfl⟩
theorem len3 {α : Type} {l : List α} (h : l.length = 3) : ∃ a b c, l = [a, b, c] := by
  match l, h with
  | [a, b, c], _ => exact ⟨a, b, c, rfl⟩

set_option maxHeartbeats 4000000 in
set_option maxRecDepth 100000 in
theorem RL_other (lines : Nat) (s : ByteArray) (w : World) (hs : s.size ≤ 100000) {x : List UInt8} {rest : List (List UInt8)} (hws : wdL [] s.data.toList = x :: rest) (d0 : ¬ x = [115, 101, 116]) (d1 : ¬ x = [114, 101, 97, 100]) (d2 : ¬ x = [108, 105, 115, 116]) (d3 : ¬ x = [106, 111, 105, 110]) (d4 : ¬ x = [99, 117, 116]) (d5 : ¬ x = [115, 105, 122, 101]) (d6 : ¬ x = [115, 117, 109]) (d7 : ¬ x = [109, 97, 107, 101]) (d8 : ¬ x = [114, 117, 110]) (d9 : ¬ x = [115, 97, 109, 101]) (d10 : ¬ x = [108, 101, 115, 115]) (d11 : ¬ x = [103, 111, 116, 111]) (d12 : ¬ x = [101, 120, 105, 116]) :
    Calls Tryz.prog 44 #[.string s, .int .i64 (lines : Int)] w fun e w' => e = .returned (.bool (rigF lines s.data.toList)) ∧ Below w.heap.size w w' := by
  have hf : frmF x = none := by
    unfold frmF frmL
    simp only [List.lookup_cons, List.lookup_nil, beq_eq_false_iff_ne.2 d0, beq_eq_false_iff_ne.2 d1, beq_eq_false_iff_ne.2 d2, beq_eq_false_iff_ne.2 d3, beq_eq_false_iff_ne.2 d4, beq_eq_false_iff_ne.2 d5, beq_eq_false_iff_ne.2 d6, beq_eq_false_iff_ne.2 d7, beq_eq_false_iff_ne.2 d8, beq_eq_false_iff_ne.2 d9, beq_eq_false_iff_ne.2 d10, beq_eq_false_iff_ne.2 d11, beq_eq_false_iff_ne.2 d12]
  rw [rig_no hws rfl hf]
  obtain ⟨ws, hwe⟩ : ∃ ws, x :: rest = ws := ⟨_, rfl⟩
  obtain ⟨n, hn1⟩ : ∃ n, ws.length = n := ⟨_, rfl⟩
  have HWS : Hid (ws = x :: rest) := hwe.symm
  rw [hwe] at hws
  have hnp : 1 ≤ n := by rw [← hn1, ← hwe]; simp
  have hnb : n ≤ 1000000 := by
    have h1 := wdL_len s.data.toList []
    have h2 : s.size = s.data.toList.length := size_of rfl
    rw [hws, hn1] at h1
    omega
  have HW := words_front s w hs hws hn1
  have HW : Hid (Calls Tryz.prog 17 #[.string s] w fun e w1 => ∃ g cap, e = .returned (.slice (some ⟨g, 0, none⟩) n cap) ∧ Hid (Below w.heap.size w w1) ∧ RW (w1.alloc (.cells #[.slice (some ⟨g, 0, none⟩) n cap] 23)) w1.heap.size g n cap ws) := HW
  obtain ⟨m, hm⟩ : ∃ m : Nat, n = m + 1 := ⟨n - 1, by omega⟩
  subst hm
  have e1 : IntKind.i64.wrap (m : Int) = (m : Int) := by rw [IntKind.wrap_i64]; omega
  have e2 : (0 : Int) < (m : Int) + 1 := by omega
  obtain ⟨wd, hwd⟩ : ∃ wd, wd = bA x := ⟨_, rfl⟩
  have hbx : (bA x).toList = x := by rw [Lib.toList_data]; unfold bA; simp
  have k0 : (wd.toList == [115, 101, 116]) = false := by rw [hwd, hbx]; exact beq_eq_false_iff_ne.2 d0
  have k1 : (wd.toList == [114, 101, 97, 100]) = false := by rw [hwd, hbx]; exact beq_eq_false_iff_ne.2 d1
  have k2 : (wd.toList == [108, 105, 115, 116]) = false := by rw [hwd, hbx]; exact beq_eq_false_iff_ne.2 d2
  have k3 : (wd.toList == [106, 111, 105, 110]) = false := by rw [hwd, hbx]; exact beq_eq_false_iff_ne.2 d3
  have k4 : (wd.toList == [99, 117, 116]) = false := by rw [hwd, hbx]; exact beq_eq_false_iff_ne.2 d4
  have k5 : (wd.toList == [115, 105, 122, 101]) = false := by rw [hwd, hbx]; exact beq_eq_false_iff_ne.2 d5
  have k6 : (wd.toList == [115, 117, 109]) = false := by rw [hwd, hbx]; exact beq_eq_false_iff_ne.2 d6
  have k7 : (wd.toList == [109, 97, 107, 101]) = false := by rw [hwd, hbx]; exact beq_eq_false_iff_ne.2 d7
  have k8 : (wd.toList == [114, 117, 110]) = false := by rw [hwd, hbx]; exact beq_eq_false_iff_ne.2 d8
  have k9 : (wd.toList == [115, 97, 109, 101]) = false := by rw [hwd, hbx]; exact beq_eq_false_iff_ne.2 d9
  have k10 : (wd.toList == [108, 101, 115, 115]) = false := by rw [hwd, hbx]; exact beq_eq_false_iff_ne.2 d10
  have k11 : (wd.toList == [103, 111, 116, 111]) = false := by rw [hwd, hbx]; exact beq_eq_false_iff_ne.2 d11
  have k12 : (wd.toList == [101, 120, 105, 116]) = false := by rw [hwd, hbx]; exact beq_eq_false_iff_ne.2 d12
  have HWD : Hid (wd = bA x) := hwd
  clear hws hwe hn1 hnp hnb hs hwd hbx hf d0 d1 d2 d3 d4 d5 d6 d7 d8 d9 d10 d11 d12
  go_enter Tryz.func44, Tryz.ntmps44
  go_wp2_with (first
    | (go_at_call 17; refine HW.out.mono ?_; rintro e w1 ⟨g, cap, rfl, HB1, hrw⟩; have q0 := (hrw.cells 0 x (by rw [HWS.out]; rfl)).1; rw [← HWD.out] at q0; have yc := hrw.y; have HBA : Hid (Below w.heap.size w (w1.alloc (.cells #[.slice (some ⟨g, 0, none⟩) (m + 1) cap] 23))) := HB1.out.alloc HB1.out.size _; clear hrw)
    | go_in)
  go_ret
  exact ⟨rfl, HBA.out⟩

theorem RightLine_any (lines : Nat) (s : ByteArray) (w : World) (hs : s.size ≤ 100000) :
    Calls Tryz.prog 44 #[.string s, .int .i64 (lines : Int)] w fun e w' => e = .returned (.bool (rigF lines s.data.toList)) ∧ Below w.heap.size w w' := by
  cases hws : wdL [] s.data.toList with
  | nil => exact absurd hws (wdL_ne _ _)
  | cons x rest =>
    by_cases d0 : x = [115, 101, 116]
    · subst d0
      by_cases hn : 3 ≤ ([115, 101, 116] :: rest).length
      · cases rest with
        | nil => exact absurd hn (by simp)
        | cons b rest => cases rest with
          | nil => exact absurd hn (by simp)
          | cons c rest => cases h0 : okP lines 0 b with
            | false => exact RL_set_0 lines s w hs hws h0
            | true => exact RL_set_1 lines s w hs hws h0
      · exact RL_set_no lines s w hs hws hn
    by_cases d1 : x = [114, 101, 97, 100]
    · subst d1
      by_cases hn : ([114, 101, 97, 100] :: rest).length = 3
      · obtain ⟨b, c, rfl⟩ := len2 (show rest.length = 2 by simpa using hn)
        cases h0 : okP lines 0 b with
        | false => exact RL_read_0 lines s w hs hws h0
        | true =>
          cases h1 : okP lines 7 c with
          | false => exact RL_read_1 lines s w hs hws h0 h1
          | true =>
            exact RL_read_2 lines s w hs hws h0 h1
      · exact RL_read_no lines s w hs hws hn
    by_cases d2 : x = [108, 105, 115, 116]
    · subst d2
      by_cases hn : ([108, 105, 115, 116] :: rest).length = 3
      · obtain ⟨b, c, rfl⟩ := len2 (show rest.length = 2 by simpa using hn)
        cases h0 : okP lines 0 b with
        | false => exact RL_list_0 lines s w hs hws h0
        | true =>
          cases h1 : okP lines 8 c with
          | false => exact RL_list_1 lines s w hs hws h0 h1
          | true =>
            exact RL_list_2 lines s w hs hws h0 h1
      · exact RL_list_no lines s w hs hws hn
    by_cases d3 : x = [106, 111, 105, 110]
    · subst d3
      by_cases hn : ([106, 111, 105, 110] :: rest).length = 3
      · obtain ⟨b, c, rfl⟩ := len2 (show rest.length = 2 by simpa using hn)
        cases h0 : okP lines 0 b with
        | false => exact RL_join_0 lines s w hs hws h0
        | true =>
          cases h1 : okP lines 1 c with
          | false => exact RL_join_1 lines s w hs hws h0 h1
          | true =>
            exact RL_join_2 lines s w hs hws h0 h1
      · exact RL_join_no lines s w hs hws hn
    by_cases d4 : x = [99, 117, 116]
    · subst d4
      by_cases hn : ([99, 117, 116] :: rest).length = 4
      · obtain ⟨b, c, d, rfl⟩ := len3 (show rest.length = 3 by simpa using hn)
        cases h0 : okP lines 0 b with
        | false => exact RL_cut_0 lines s w hs hws h0
        | true =>
          cases h1 : okP lines 2 c with
          | false => exact RL_cut_1 lines s w hs hws h0 h1
          | true =>
            cases h2 : okP lines 3 d with
            | false => exact RL_cut_2 lines s w hs hws h0 h1 h2
            | true =>
              exact RL_cut_3 lines s w hs hws h0 h1 h2
      · exact RL_cut_no lines s w hs hws hn
    by_cases d5 : x = [115, 105, 122, 101]
    · subst d5
      by_cases hn : ([115, 105, 122, 101] :: rest).length = 3
      · obtain ⟨b, c, rfl⟩ := len2 (show rest.length = 2 by simpa using hn)
        cases h0 : okP lines 0 b with
        | false => exact RL_size_0 lines s w hs hws h0
        | true =>
          cases h1 : okP lines 1 c with
          | false => exact RL_size_1 lines s w hs hws h0 h1
          | true =>
            exact RL_size_2 lines s w hs hws h0 h1
      · exact RL_size_no lines s w hs hws hn
    by_cases d6 : x = [115, 117, 109]
    · subst d6
      by_cases hn : ([115, 117, 109] :: rest).length = 2
      · obtain ⟨b, rfl⟩ := List.length_eq_one_iff.1 (show rest.length = 1 by simpa using hn)
        cases h0 : okP lines 0 b with
        | false => exact RL_sum_0 lines s w hs hws h0
        | true =>
          exact RL_sum_1 lines s w hs hws h0
      · exact RL_sum_no lines s w hs hws hn
    by_cases d7 : x = [109, 97, 107, 101]
    · subst d7
      by_cases hn : ([109, 97, 107, 101] :: rest).length = 3
      · obtain ⟨b, c, rfl⟩ := len2 (show rest.length = 2 by simpa using hn)
        cases h0 : okP lines 7 b with
        | false => exact RL_make_0 lines s w hs hws h0
        | true =>
          cases h1 : okP lines 0 c with
          | false => exact RL_make_1 lines s w hs hws h0 h1
          | true =>
            exact RL_make_2 lines s w hs hws h0 h1
      · exact RL_make_no lines s w hs hws hn
    by_cases d8 : x = [114, 117, 110]
    · subst d8
      by_cases hn : ([114, 117, 110] :: rest).length = 3
      · obtain ⟨b, c, rfl⟩ := len2 (show rest.length = 2 by simpa using hn)
        cases h0 : okP lines 7 b with
        | false => exact RL_run_0 lines s w hs hws h0
        | true =>
          cases h1 : okP lines 0 c with
          | false => exact RL_run_1 lines s w hs hws h0 h1
          | true =>
            exact RL_run_2 lines s w hs hws h0 h1
      · exact RL_run_no lines s w hs hws hn
    by_cases d9 : x = [115, 97, 109, 101]
    · subst d9
      by_cases hn : ([115, 97, 109, 101] :: rest).length = 4
      · obtain ⟨b, c, d, rfl⟩ := len3 (show rest.length = 3 by simpa using hn)
        cases h0 : okP lines 0 b with
        | false => exact RL_same_0 lines s w hs hws h0
        | true =>
          cases h1 : okP lines 1 c with
          | false => exact RL_same_1 lines s w hs hws h0 h1
          | true =>
            cases h2 : okP lines 4 d with
            | false => exact RL_same_2 lines s w hs hws h0 h1 h2
            | true =>
              exact RL_same_3 lines s w hs hws h0 h1 h2
      · exact RL_same_no lines s w hs hws hn
    by_cases d10 : x = [108, 101, 115, 115]
    · subst d10
      by_cases hn : ([108, 101, 115, 115] :: rest).length = 4
      · obtain ⟨b, c, d, rfl⟩ := len3 (show rest.length = 3 by simpa using hn)
        cases h0 : okP lines 0 b with
        | false => exact RL_less_0 lines s w hs hws h0
        | true =>
          cases h1 : okP lines 1 c with
          | false => exact RL_less_1 lines s w hs hws h0 h1
          | true =>
            cases h2 : okP lines 4 d with
            | false => exact RL_less_2 lines s w hs hws h0 h1 h2
            | true =>
              exact RL_less_3 lines s w hs hws h0 h1 h2
      · exact RL_less_no lines s w hs hws hn
    by_cases d11 : x = [103, 111, 116, 111]
    · subst d11
      by_cases hn : ([103, 111, 116, 111] :: rest).length = 2
      · obtain ⟨b, rfl⟩ := List.length_eq_one_iff.1 (show rest.length = 1 by simpa using hn)
        cases h0 : okP lines 4 b with
        | false => exact RL_goto_0 lines s w hs hws h0
        | true =>
          exact RL_goto_1 lines s w hs hws h0
      · exact RL_goto_no lines s w hs hws hn
    by_cases d12 : x = [101, 120, 105, 116]
    · subst d12
      by_cases hn : ([101, 120, 105, 116] :: rest).length = 2
      · obtain ⟨b, rfl⟩ := List.length_eq_one_iff.1 (show rest.length = 1 by simpa using hn)
        cases h0 : okP lines 5 b with
        | false => exact RL_exit_0 lines s w hs hws h0
        | true =>
          exact RL_exit_1 lines s w hs hws h0
      · exact RL_exit_no lines s w hs hws hn
    exact RL_other lines s w hs hws d0 d1 d2 d3 d4 d5 d6 d7 d8 d9 d10 d11 d12
end Go.Proofs.YtapiedeekbfpnaaGreatDoor

/- The document's CheckCommand. -/
namespace Go.Proofs.YtapiedeekbfpnaaGreatDoor
open Go.RowKit Go.Shelf

theorem rig_lin (n : Nat) (s : List UInt8) : (linF n s).isSome = rigF n s := linF_rig n s
theorem TxAt.texts {w : World} {ao : Option Addr} {ss : List ByteArray} (h : TxAt w ao ss) (cap : Nat) (hn : ss.length ≤ 4611686018427387904) : IsTexts w (.slice ao ss.length cap) ss := by
  refine ⟨hn, ao, cap, rfl, ?_⟩
  rcases h with h | ⟨g, o, e, _, hc⟩
  · exact .inl h
  · exact .inr ⟨g, o, e, hc⟩

set_option maxHeartbeats 2000000 in
set_option maxRecDepth 100000 in
theorem CheckCommand_any (ao : Option Addr) (cap : Nat) (ss : List ByteArray) (w : World) (h : TxAt w ao ss) (hlen : ss.length ≤ 4611686018427387904) :
    Calls Tryz.prog 24 #[.slice ao ss.length cap] w fun e w' => e = .returned (.tuple #[.int .i64 ((chkF ss).1 : Int), .int .i64 ((chkF ss).2 : Int)]) ∧ Below w.heap.size w w' := by
  by_cases hok : okList 60 ss
  · have HCL : Hid (Calls Tryz.prog 43 #[.slice ao ss.length cap, .int .i64 (60 : Int)] w fun e w' => e = .returned (.int .i64 0) ∧ w' = w) := (cl_any 60 _ ss w (h.texts cap hlen)).1 hok
    have HE : Hid (chkF ss = match badF ss.length ss with | some i => (i, 1) | none => (0, 0)) := by
      have hno : ¬ (60 < ss.length ∨ ∃ s ∈ ss, 100000 < s.size) := by
        rintro (h1 | ⟨s, h1, h2⟩)
        · have := hok.1; omega
        · have := hok.2 s h1; omega
      show _ = _
      unfold chkF
      rw [if_neg hno]
      rfl
    have HS : Hid (∀ s ∈ ss, s.size ≤ 100000) := hok.2
    have HT : Hid (TxAt w ao ss) := h
    have HN : Hid (ss.length ≤ 60) := hok.1
    obtain ⟨c1, c2, hch⟩ : ∃ c1 c2 : Nat, chkF ss = (c1, c2) := ⟨_, _, rfl⟩
    have HCH : Hid (chkF ss = (c1, c2)) := hch
    have hli : (ss.length : Int) ≤ 9223372036854775807 := by have := hok.1; omega
    rw [hch]
    simp only
    clear hok h hlen hch
    go_enter Tryz.func24, Tryz.ntmps24
    go_wp2_with (first
      | (go_at_call 43; refine HCL.out.mono ?_; rintro e w1 ⟨rfl, hw⟩; subst w1)
      | go_in)
    go_loopw [5] (fun v wr => ∃ k : Nat, k ≤ ss.length ∧ v = .int .i64 (k : Int) ∧ Hid (Below w.heap.size w wr ∧ ∀ j (hj : j < ss.length), j < k → (linF ss.length ss[j].data.toList).isSome = true)) (fun v _ => ss.length - (intOf v).toNat)
    case atStart => exact ⟨0, by omega, rfl, Below.refl _ _, fun j _ hj => absurd hj (by omega)⟩
    case round =>
      obtain ⟨k, hk, rfl, HI⟩ := hrel
      by_cases hkl : k < ss.length
      · rcases HT.out.below HI.out.1 with h0 | ⟨g, o, rfl, hg, hc⟩
        · exfalso; rw [h0] at hkl; exact absurd hkl (by simp)
        have cs := hc k hkl
        obtain ⟨s, hs⟩ : ∃ s, ss[k] = s := ⟨_, rfl⟩
        rw [hs] at cs
        have hki : (k : Int) < (ss.length : Int) := by omega
        have hR := RightLine_any ss.length s wr (by rw [← hs]; exact HS.out _ (List.getElem_mem hkl))
        cases hr : rigF ss.length s.data.toList with
        | false =>
          rw [hr] at hR
          have HR : Hid (Calls Tryz.prog 44 #[.string s, .int .i64 (ss.length : Int)] wr fun e w' => e = .returned (.bool false) ∧ Hid (Below wr.heap.size wr w')) := hR
          have HB2 : Hid (c1 = k ∧ c2 = 1) := by
            have hnone : linF ss.length ss[k].data.toList = none := by
              have h1 := rig_lin ss.length s.data.toList
              rw [hr] at h1
              rw [hs]
              cases h2 : linF ss.length s.data.toList with
              | none => rfl
              | some l => rw [h2] at h1; cases h1
            have h1 := bad_some hkl HI.out.2 hnone
            have h2 := HE.out
            rw [h1, HCH.out] at h2
            injection h2 with h2 h3
            exact ⟨h2, h3⟩
          obtain ⟨rfl, rfl⟩ := HB2.out
          clear hR hr hs hc
          go_wp2_with (first
            | (go_at_call 44; refine HR.out.mono ?_; rintro e w3 ⟨rfl, HB3⟩)
            | go_in)
          go_ret2
          exact ⟨rfl, below_low HI.out.1 HB3.out HI.out.1.size⟩
        | true =>
          rw [hr] at hR
          have HR : Hid (Calls Tryz.prog 44 #[.string s, .int .i64 (ss.length : Int)] wr fun e w' => e = .returned (.bool true) ∧ Hid (Below wr.heap.size wr w')) := hR
          have HSO : Hid (∀ j (hj : j < ss.length), j < k + 1 → (linF ss.length ss[j].data.toList).isSome = true) := by
            intro j hj hjk
            by_cases e : j = k
            · subst e
              rw [hs, rig_lin, hr]
            · exact HI.out.2 j hj (by omega)
          clear hR hr hs hc
          go_wp2_with (first
            | (go_at_call 44; refine HR.out.mono ?_; rintro e w3 ⟨rfl, HB3⟩)
            | go_in)
          refine ⟨⟨k + 1, by omega, by go_num, below_low HI.out.1 HB3.out HI.out.1.size, HSO.out⟩, by simp [intOf]; omega⟩
      · obtain rfl : k = ss.length := by omega
        have hki : ¬ (ss.length : Int) < (ss.length : Int) := by omega
        have HB2 : Hid (c1 = 0 ∧ c2 = 0) := by
          have h1 := bad_none (fun j hj => HI.out.2 j hj hj)
          have h2 := HE.out
          rw [h1, HCH.out] at h2
          injection h2 with h2 h3
          exact ⟨h2, h3⟩
        obtain ⟨rfl, rfl⟩ := HB2.out
        go_wp2
        go_ret2
        exact ⟨rfl, HI.out.1⟩
  · have HCL : Hid (Calls Tryz.prog 43 #[.slice ao ss.length cap, .int .i64 (60 : Int)] w fun e w' => e = .returned (.int .i64 2) ∧ w' = w) := (cl_any 60 _ ss w (h.texts cap hlen)).2 hok
    have he : chkF ss = (0, 2) := by
      have hyes : 60 < ss.length ∨ ∃ s ∈ ss, 100000 < s.size := by
        by_cases h1 : 60 < ss.length
        · exact .inl h1
        · refine .inr (Classical.byContradiction fun hne => hok ⟨by omega, fun s hs => Nat.le_of_not_lt fun h2 => hne ⟨s, hs, h2⟩⟩)
      unfold chkF
      rw [if_pos hyes]
    rw [he]
    clear he hok h hlen
    generalize ss.length = n at *
    go_enter Tryz.func24, Tryz.ntmps24
    go_wp2_with (first
      | (go_at_call 43; refine HCL.out.mono ?_; rintro e w1 ⟨rfl, hw⟩; subst w1)
      | go_in)
    go_ret2
    exact ⟨rfl, Below.refl _ _⟩
end Go.Proofs.YtapiedeekbfpnaaGreatDoor

/- The document's CheckTree. -/
namespace Go.Proofs.YtapiedeekbfpnaaGreatDoor
open Go.RowKit Go.Shelf Go.Maps Go.WideMaps

/-- Two files may be in one tree, the one ahead of the other. -/
def fit2 (f g : Fl) : Prop := pth f < pth g ∧ inB g.pa f.pa = false ∧ inB f.pa g.pa = false
theorem inB_selfD (p : ByteArray) : inB p p = false := by unfold inB; simp
theorem fit_iff (L : List Fl) : (L.Pairwise fit2) ↔ (upF L && !thruF L L) = true := by
  rw [Bool.and_eq_true, Bool.not_eq_true']
  constructor
  · intro h
    refine ⟨decide_eq_true (h.imp fun hh => hh.1), ?_⟩
    unfold thruF
    rw [List.any_eq_false]
    intro f hf
    rw [Bool.not_eq_true, List.any_eq_false]
    intro g hg
    obtain ⟨i, hi, rfl⟩ := List.getElem_of_mem hf
    obtain ⟨j, hj, rfl⟩ := List.getElem_of_mem hg
    have hp := List.pairwise_iff_getElem.1 h
    rcases Nat.lt_trichotomy i j with hij | hij | hij
    · rw [(hp i j hi hj hij).2.2]; decide
    · subst hij; rw [inB_selfD]; decide
    · rw [(hp j i hj hi hij).2.1]; decide
  · rintro ⟨h1, h2⟩
    have h3 := up_pw h1
    unfold thruF at h2
    rw [List.any_eq_false] at h2
    rw [List.pairwise_iff_getElem] at h3 ⊢
    intro i j hi hj hij
    refine ⟨h3 i j hi hj hij, ?_, ?_⟩
    · have := h2 L[j] (List.getElem_mem hj)
      rw [Bool.not_eq_true, List.any_eq_false] at this
      simpa using this L[i] (List.getElem_mem hi)
    · have := h2 L[i] (List.getElem_mem hi)
      rw [Bool.not_eq_true, List.any_eq_false] at this
      simpa using this L[j] (List.getElem_mem hj)

set_option maxHeartbeats 2000000 in
set_option maxRecDepth 100000 in
theorem RCheck_many (ao : Option Addr) (n cap : Nat) (w : World) (hn : 60 < n) :
    Calls Tryz.prog 23 #[.slice ao n cap] w fun e w' => e = .returned (.int .i64 2) ∧ Below w.heap.size w w' := by
  have hn1 : 60 < (n : Int) := by omega
  clear hn
  go_enter Tryz.func23, Tryz.ntmps23
  go_wp2
  go_ret
  exact ⟨rfl, Below.refl _ _⟩

set_option maxHeartbeats 8000000 in
set_option maxRecDepth 100000 in
theorem RCheck_few (ao : Option Addr) (cap : Nat) (L : List Fl) (w : World) (hn : L.length ≤ 60) (hl : IsFl w ao L) :
    Calls Tryz.prog 23 #[.slice ao L.length cap] w fun e w' => e = .returned (.int .i64 (chF L)) ∧ Below w.heap.size w w' := by
  have HL : Hid (IsFl w ao L) := hl
  have HN : Hid (L.length ≤ 60) := hn
  have hn1 : (L.length : Int) ≤ 60 := by omega
  clear hl hn
  go_enter Tryz.func23, Tryz.ntmps23
  go_wp2
  go_loopw [3] (fun i wr => ∃ k : Nat, k ≤ L.length ∧ i = .int .i64 k ∧ (∀ j, (hj : j < L.length) → j < k → flE L[j] = 0) ∧ Below w.heap.size w wr) (fun i _ => L.length - (intOf i).toNat)
  case atStart => exact ⟨0, by omega, rfl, by omega, Below.refl _ _⟩
  case round =>
    obtain ⟨k, hk, rfl, hlo, hb⟩ := hrel
    have HO : Hid (∀ j, (hj : j < L.length) → j < k → flE L[j] = 0) := hlo
    have HB : Hid (Below w.heap.size w wr) := hb
    have hsz := hb.size
    have HLB : Hid (IsFl wr ao L) := HL.out.below hb (Nat.le_refl _)
    clear hlo
    by_cases hlt : k < L.length
    · rcases HLB.out with h | ⟨g, o, rfl, hgr, hc⟩
      · exfalso; rw [h] at hlt; exact absurd hlt (by simp)
      obtain ⟨c0, c1, c2⟩ := hc k hlt
      have HQ : Hid (flE L[k] ≠ 0 → chF L = flE L[k]) := fun hne => by
        have h1 := flEs_no L k hlt (fun j hj hjk => HO.out j hj hjk) hne
        unfold chF
        have := HN.out
        rw [if_neg (by omega), h1, if_neg hne]
      clear hc hb HLB
      generalize hx : L[k] = x at c0 c1 c2 HQ
      have HK : Hid (L[k] = x) := hx
      clear hx
      obtain ⟨p, t, r⟩ := x
      simp only at c0 c1 c2
      have HP : Hid (∀ W, Calls Tryz.prog 41 #[.string p] W fun e w' => e = .returned (.bool (pathOk p)) ∧ Below W.heap.size W w') := fun W => RIsPath_any p W
      by_cases hp : pathOk p = true
      · rw [hp] at HP
        by_cases h2 : 100000 < t.size
        · have HE : Hid (flE ⟨p, t, r⟩ = 2) := by
            show _ = _
            unfold flE
            rw [if_neg (by rw [hp]; decide), if_pos h2]
          have h3 : (100000 : Int) < (t.size : Int) := by omega
          clear hp h2
          go_wp2_with fail
          refine (HP.out _).mono ?_
          rintro e w1 ⟨rfl, hb1⟩
          have d1 := (hb1.cell (p := ⟨g, o + k * 3 + 1, none⟩) (by show g < _; omega)).trans c1
          have HB1 : Hid (Below w.heap.size w w1) := HB.out.trans (hb1.mono hsz)
          clear hb1
          go_wp2
          go_ret
          exact ⟨by rw [HQ.out (by rw [HE.out]; decide), HE.out]; rfl, HB1.out⟩
        · have HE : Hid (flE ⟨p, t, r⟩ = 0) := by
            show _ = _
            unfold flE
            rw [if_neg (by rw [hp]; decide), if_neg h2]
          have h3 : ¬ (100000 : Int) < (t.size : Int) := by omega
          clear hp h2
          go_wp2_with fail
          refine (HP.out _).mono ?_
          rintro e w1 ⟨rfl, hb1⟩
          have d1 := (hb1.cell (p := ⟨g, o + k * 3 + 1, none⟩) (by show g < _; omega)).trans c1
          have HB1 : Hid (Below w.heap.size w w1) := HB.out.trans (hb1.mono hsz)
          clear hb1
          go_wp2
          refine ⟨⟨k + 1, by omega, by go_num, fun j hj hjk => ?_, HB1.out⟩, by simp [intOf]; omega⟩
          by_cases h : j < k
          · exact HO.out j hj h
          · obtain rfl : j = k := by omega
            rw [HK.out]
            exact HE.out
      · have hp' : pathOk p = false := by simpa using hp
        rw [hp'] at HP
        have HE : Hid (flE ⟨p, t, r⟩ = 1) := by
          show _ = _
          unfold flE
          rw [if_pos hp']
        clear hp hp'
        go_wp2_with fail
        refine (HP.out _).mono ?_
        rintro e w1 ⟨rfl, hb1⟩
        have HB1 : Hid (Below w.heap.size w w1) := HB.out.trans (hb1.mono hsz)
        clear hb1
        go_wp2
        go_ret
        exact ⟨by rw [HQ.out (by rw [HE.out]; decide), HE.out]; rfl, HB1.out⟩
    · have h0 : flEs L = 0 := flEs_yes L fun j hj => HO.out j hj (by omega)
      have hN := HN.out
      have hki : ¬ (k : Int) < (L.length : Int) := by omega
      have HV : Hid (chF L = if (upF L && !thruF L L) = true then 0 else 6) := by
        show _ = _
        unfold chF
        rw [if_neg (by omega), if_pos h0]
      have HI : Hid (∀ (x y : ByteArray) (W : World), Calls Tryz.prog 42 #[.string x, .string y] W fun e w' => e = .returned (.bool (inB y x)) ∧ w' = W) := fun x y W => RIsInside_any y x W
      have HS : Hid (∀ i j, (hi : i < L.length) → (hj : j < L.length) → j < i → ¬ fit2 L[j] L[i] → chF L = 6) := fun i j hi hj hij hno => by
        rw [HV.out, if_neg]
        intro h
        exact hno (List.pairwise_iff_getElem.1 ((fit_iff L).2 h) j i hj hi hij)
      have HT : Hid ((∀ i j, (hi : i < L.length) → (hj : j < L.length) → j < i → fit2 L[j] L[i]) → chF L = 0) := fun h => by
        rw [HV.out, if_pos]
        exact (fit_iff L).1 (List.pairwise_iff_getElem.2 fun i j hi hj hij => h j i hj hi hij)
      clear hb h0 HO HL HV
      obtain ⟨w1, rfl⟩ : ∃ w1, w1 = wr := ⟨wr, rfl⟩
      go_wp2
      go_loopw [4] (fun i ws => ∃ a : Nat, a ≤ L.length ∧ i = .int .i64 a ∧ (∀ i j, (hi : i < L.length) → (hj : j < L.length) → i < a → j < i → fit2 L[j] L[i]) ∧ Below w1.heap.size w1 ws) (fun i _ => L.length - (intOf i).toNat)
      case atStart => exact ⟨0, by omega, rfl, by omega, Below.refl _ _⟩
      case round =>
        obtain ⟨ws, rfl⟩ : ∃ ws, ws = wr := ⟨wr, rfl⟩
        obtain ⟨a, ha, rfl, hgood, hb⟩ := hrel
        have HG : Hid (∀ i j, (hi : i < L.length) → (hj : j < L.length) → i < a → j < i → fit2 L[j] L[i]) := hgood
        have HBs : Hid (Below w1.heap.size w1 ws) := hb
        have hszs := hb.size
        clear hgood hb
        by_cases hla : a < L.length
        · rcases HLB.out with h | ⟨g, o, rfl, hgr, hc⟩
          · exfalso; rw [h] at hla; exact absurd hla (by simp)
          have HC : Hid (FlAt g o L w1) := hc
          have hla2 : (a : Int) < (L.length : Int) := by omega
          clear hc
          go_wp2
          go_loopw [5] (fun i wt => ∃ b : Nat, b ≤ a ∧ i = .int .i64 b ∧ (∀ j, (hj : j < L.length) → j < b → fit2 L[j] L[a]) ∧ Below w1.heap.size w1 wt) (fun i _ => a - (intOf i).toNat)
          case atStart => exact ⟨0, by omega, rfl, by omega, HBs.out⟩
          case round =>
            obtain ⟨wt, rfl⟩ : ∃ wt, wt = wr := ⟨wr, rfl⟩
            obtain ⟨b, hba, rfl, hgb, hbt⟩ := hrel
            have HGB : Hid (∀ j, (hj : j < L.length) → j < b → fit2 L[j] L[a]) := hgb
            have HBt : Hid (Below w1.heap.size w1 wt) := hbt
            have HBw : Hid (∀ q, Below w.heap.size w (wt.drewN q)) := fun q => below_drewN (HB.out.trans (hbt.mono hsz)) q
            clear hgb
            by_cases hlb : b < a
            · have hbL : b < L.length := by omega
              obtain ⟨a0, _, _⟩ := HC.out.below hbt hgr a hla
              obtain ⟨b0, _, _⟩ := HC.out.below hbt hgr b hbL
              have HS2 : Hid (¬ fit2 L[b] L[a] → chF L = 6) := fun h => HS.out a b hla hbL hlb h
              have HF : Hid (pth L[b] = L[b].pa.data.toList ∧ pth L[a] = L[a].pa.data.toList) := ⟨rfl, rfl⟩
              generalize hx : L[b].pa = x at b0
              generalize hy : L[a].pa = y at a0
              have HX : Hid (L[b].pa = x) := hx
              have HY : Hid (L[a].pa = y) := hy
              have hlb2 : (b : Int) < (a : Int) := by omega
              have hbL2 : (b : Int) < (L.length : Int) := by omega
              clear hx hy hbt
              cases hless : Op.bytesLess x.toList y.toList with
              | false =>
                have HZ : Hid (chF L = 6) := HS2.out fun h => by
                  have h1 := h.1
                  rw [HF.out.1, HF.out.2, HX.out, HY.out] at h1
                  rw [Lib.toList_data, Lib.toList_data, tlt, decide_eq_true h1] at hless
                  exact absurd hless (by decide)
                go_wp2
                go_quiet (fail)
                go_wp2
                go_ret
                exact ⟨by rw [HZ.out]; rfl, HBw.out _⟩
              | true =>
                have HLT : Hid (pth L[b] < pth L[a]) := by
                  show _ < _
                  rw [HF.out.1, HF.out.2, HX.out, HY.out]
                  rw [Lib.toList_data, Lib.toList_data, tlt] at hless
                  exact of_decide_eq_true hless
                have HI1 : Hid (∀ W, Calls Tryz.prog 42 #[.string x, .string y] W fun e w' => e = .returned (.bool (inB y x)) ∧ w' = W) := HI.out x y
                have HI2 : Hid (∀ W, Calls Tryz.prog 42 #[.string y, .string x] W fun e w' => e = .returned (.bool (inB x y)) ∧ w' = W) := HI.out y x
                cases h1 : inB y x with
                | true =>
                  rw [h1] at HI1
                  have HZ : Hid (chF L = 6) := HS2.out fun h => by
                    have h2 := h.2.1
                    rw [HX.out, HY.out, h1] at h2
                    exact absurd h2 (by decide)
                  clear h1 HI
                  go_wp2
                  go_quiet ((go_at_call 42; exact Calls.quiet_of_same (HI1.out _)))
                  go_wp2
                  go_ret
                  exact ⟨by rw [HZ.out]; rfl, HBw.out _⟩
                | false =>
                  rw [h1] at HI1
                  cases h2 : inB x y with
                  | true =>
                    rw [h2] at HI2
                    have HZ : Hid (chF L = 6) := HS2.out fun h => by
                      have h3 := h.2.2
                      rw [HX.out, HY.out, h2] at h3
                      exact absurd h3 (by decide)
                    clear h1 h2 HI
                    go_wp2
                    go_quiet (first | (go_at_call 42; with_reducible exact Calls.quiet_of_same (HI1.out _)) | (go_at_call 42; with_reducible exact Calls.quiet_of_same (HI2.out _)))
                    go_wp2
                    go_ret
                    exact ⟨by rw [HZ.out]; rfl, HBw.out _⟩
                  | false =>
                    rw [h2] at HI2
                    have HOK : Hid (fit2 L[b] L[a]) := ⟨HLT.out, by rw [HX.out, HY.out]; exact h1, by rw [HX.out, HY.out]; exact h2⟩
                    clear h1 h2 HI
                    go_wp2
                    go_quiet (first | (go_at_call 42; with_reducible exact Calls.quiet_of_same (HI1.out _)) | (go_at_call 42; with_reducible exact Calls.quiet_of_same (HI2.out _)))
                    go_wp2
                    refine ⟨⟨b + 1, by omega, by go_num, fun j hj hjk => ?_, below_drewN HBt.out _⟩, by simp [intOf]; omega⟩
                    by_cases h : j < b
                    · exact HGB.out j hj h
                    · obtain rfl : j = b := by omega
                      exact HOK.out
            · have hlb2 : ¬ (b : Int) < (a : Int) := by omega
              clear hbt
              go_wp2
              refine ⟨⟨a + 1, by omega, by go_num, fun i j hi hj hia hji => ?_, HBt.out⟩, by simp [intOf]; omega⟩
              by_cases h : i < a
              · exact HG.out i j hi hj h hji
              · obtain rfl : i = a := by omega
                exact HGB.out j hj (by omega)
        · have hla2 : ¬ (a : Int) < (L.length : Int) := by omega
          have HZ : Hid (chF L = 0) := HT.out fun i j hi hj hij => HG.out i j hi hj (by omega) hij
          go_wp2
          go_ret
          exact ⟨by rw [HZ.out]; rfl, HB.out.trans (HBs.out.mono hsz)⟩

theorem RCheck_any (ao : Option Addr) (cap : Nat) (L : List Fl) (w : World) (hl : IsFl w ao L) :
    Calls Tryz.prog 23 #[.slice ao L.length cap] w fun e w' => e = .returned (.int .i64 (chF L)) ∧ Below w.heap.size w w' := by
  by_cases h : 60 < L.length
  · have e : chF L = 2 := by unfold chF; rw [if_pos h]
    rw [e]
    exact RCheck_many ao _ cap w h
  · exact RCheck_few ao cap L w (by omega) hl
end Go.Proofs.YtapiedeekbfpnaaGreatDoor

/- The document's SandboxRun, whole; files that are as they are to be. -/
namespace Go.Proofs.YtapiedeekbfpnaaGreatDoor
open Go.RowKit Go.Shelf Go.Maps Go.WideMaps Go.Sort

/-- How the document's Run ends. -/
def SrP (F : List Fl) (ss : List ByteArray) (fuel : Int) (w : World) (e : Ending) (w' : World) : Prop :=
  ∃ ra rc, e = .returned (.tuple #[.slice ra (rnL F ss fuel).length rc, .int .i64 (rnC F ss fuel : Int), .int .i64 (rnS F ss fuel : Int), .int .i64 (rnE F ss fuel)]) ∧ Hid (IsFl w' ra (rnL F ss fuel)) ∧ Hid (Below w.heap.size w w')
theorem rn_not {F : List Fl} {ss : List ByteArray} {fuel : Int} (h : rnE F ss fuel ≠ 0) : rnL F ss fuel = [] ∧ rnC F ss fuel = 0 ∧ rnS F ss fuel = 0 := by
  unfold rnL rnC rnS
  rw [if_neg h, if_neg h, if_neg h]
  exact ⟨rfl, rfl, rfl⟩
theorem srp_no {F : List Fl} {ss : List ByteArray} {fuel : Int} {w w' : World} (h : rnE F ss fuel ≠ 0) (hb : Below w.heap.size w w') (E : Int) (hE : E = rnE F ss fuel) : SrP F ss fuel w (.returned (.tuple #[.slice none 0 0, .int .i64 0, .int .i64 0, .int .i64 E])) w' := by
  obtain ⟨h1, h2, h3⟩ := rn_not h
  subst hE
  exact ⟨none, 0, by rw [h1, h2, h3]; rfl, by rw [h1]; exact .inl rfl, hb⟩

set_option maxHeartbeats 4000000 in
set_option maxRecDepth 100000 in
theorem SandboxRun_any (ao co : Option Addr) (ac cc : Nat) (F : List Fl) (ss : List ByteArray) (fuel : Int) (w : World) (hF : IsFl w ao F) (ht : TxAt w co ss) (hlen : ss.length ≤ 4611686018427387904) :
    Calls Tryz.prog 10 #[.slice ao F.length ac, .slice co ss.length cc, .int .i64 fuel] w (SrP F ss fuel w) := by
  have HC : Hid (Calls Tryz.prog 23 #[.slice ao F.length ac] w fun e w' => e = .returned (.int .i64 (chF F)) ∧ Hid (Below w.heap.size w w')) := RCheck_any ao ac F w hF
  have HK : Hid (∀ W, Hid (Below w.heap.size w W) → Calls Tryz.prog 24 #[.slice co ss.length cc] W fun e w' => e = .returned (.tuple #[.int .i64 ((chkF ss).1 : Int), .int .i64 ((chkF ss).2 : Int)]) ∧ Hid (Below w.heap.size w w')) := fun W hW => (CheckCommand_any co cc ss W (ht.below hW.out) hlen).mono fun e w' q => ⟨q.1, below_low hW.out q.2 hW.out.size⟩
  have HE : Hid (rnE F ss fuel = if chF F ≠ 0 then chF F else if (chkF ss).2 ≠ 0 then ((chkF ss).2 : Int) else if fuel < 0 ∨ 100000 < fuel then 3 else 0) := rfl
  by_cases h1 : chF F = 0
  · by_cases h2 : (chkF ss).2 = 0
    · by_cases h3 : fuel < 0 ∨ 100000 < fuel
      · have hne : rnE F ss fuel ≠ 0 := by rw [HE.out, if_neg (by simp [h1]), if_neg (by simp [h2]), if_pos h3]; decide
        have HZ : Hid (∀ W, Below w.heap.size w W → SrP F ss fuel w (.returned (.tuple #[.slice none 0 0, .int .i64 0, .int .i64 0, .int .i64 3])) W) := fun W hW => srp_no hne hW 3 (by rw [HE.out, if_neg (by simp [h1]), if_neg (by simp [h2]), if_pos h3])
        rw [h1] at HC
        rw [h2] at HK
        generalize (chkF ss).1 = c1 at *
        clear hF ht hlen h1 h2 hne HE
        rcases h3 with h3 | h3
        · go_enter Tryz.func10, Tryz.ntmps10
          go_wp2_with (first
            | (go_at_call 23; refine HC.out.mono ?_; rintro e w1 ⟨rfl, H1⟩)
            | (go_at_call 24; refine (HK.out _ H1).mono ?_; rintro e w2 ⟨rfl, H2⟩)
            | go_in)
          refine bodyPost_ret (v := .tuple #[.slice none 0 0, .int .i64 0, .int .i64 0, .int .i64 3]) (by simp [results, Tryz.results10, go_sem]) rfl (HZ.out _ H2.out)
        · have h4 : ¬ fuel < 0 := by omega
          go_enter Tryz.func10, Tryz.ntmps10
          go_wp2_with (first
            | (go_at_call 23; refine HC.out.mono ?_; rintro e w1 ⟨rfl, H1⟩)
            | (go_at_call 24; refine (HK.out _ H1).mono ?_; rintro e w2 ⟨rfl, H2⟩)
            | go_in)
          refine bodyPost_ret (v := .tuple #[.slice none 0 0, .int .i64 0, .int .i64 0, .int .i64 3]) (by simp [results, Tryz.results10, go_sem]) rfl (HZ.out _ H2.out)
      · obtain ⟨fu, rfl⟩ : ∃ fu : Nat, fuel = (fu : Int) := ⟨fuel.toNat, by omega⟩
        have hE0 : rnE F ss (fu : Int) = 0 := rnE_of h1 h2 (by omega)
        obtain ⟨v1, v2, v3⟩ := rn_val hE0
        have HR : Hid (∀ W, Hid (Below w.heap.size w W) → Calls Tryz.prog 25 #[.slice ao F.length ac, .slice co ss.length cc, .int .i64 (fu : Int)] W fun e w' => ∃ ra rc, e = .returned (.tuple #[.slice ra (rnL F ss (fu : Int)).length rc, .int .i64 (rnC F ss (fu : Int) : Int), .int .i64 (rnS F ss (fu : Int) : Int)]) ∧ Hid (IsFl w' ra (rnL F ss (fu : Int)) ∧ Below w.heap.size w w')) := fun W hW => (RunCommand_any ao co ac cc F ss fu W (hF.below hW.out (Nat.le_refl _)) (TrOk.of h1) (ht.below hW.out) h2 (by omega)).mono fun e w' ⟨ra, rc, q1, q2, q3⟩ => ⟨ra, rc, by rw [q1, v1, v2, v3], by rw [v1]; exact q2, below_low hW.out q3 hW.out.size⟩
        have HZ : Hid (∀ W (ra : Option Addr) (rc : Nat), IsFl W ra (rnL F ss (fu : Int)) → Below w.heap.size w W → SrP F ss (fu : Int) w (.returned (.tuple #[.slice ra (rnL F ss (fu : Int)).length rc, .int .i64 (rnC F ss (fu : Int) : Int), .int .i64 (rnS F ss (fu : Int) : Int), .int .i64 0])) W) := fun W ra rc hx hW => ⟨ra, rc, by rw [hE0], hx, hW⟩
        rw [h1] at HC
        rw [h2] at HK
        have k1 : ¬ (fu : Int) < 0 := by omega
        have k2 : ¬ (100000 : Int) < (fu : Int) := by omega
        generalize (chkF ss).1 = c1 at *
        generalize rnL F ss (fu : Int) = X at *
        generalize rnC F ss (fu : Int) = C at *
        generalize rnS F ss (fu : Int) = S at *
        clear hF ht hlen h1 h2 HE hE0 v1 v2 v3 h3
        go_enter Tryz.func10, Tryz.ntmps10
        go_wp2_with (first
          | (go_at_call 23; refine HC.out.mono ?_; rintro e w1 ⟨rfl, H1⟩)
          | (go_at_call 24; refine (HK.out _ H1).mono ?_; rintro e w2 ⟨rfl, H2⟩)
          | (go_at_call 25; refine (HR.out _ H2).mono ?_; rintro e w3 ⟨ra, rc, rfl, H3⟩)
          | go_in)
        refine bodyPost_ret (v := .tuple #[.slice ra X.length rc, .int .i64 (C : Int), .int .i64 (S : Int), .int .i64 0]) (by simp [results, Tryz.results10, go_sem]) rfl (HZ.out _ _ _ H3.out.1 H3.out.2)
    · have hne : rnE F ss fuel ≠ 0 := by rw [HE.out, if_neg (by simp [h1]), if_pos h2]; omega
      have HZ : Hid (∀ W, Below w.heap.size w W → SrP F ss fuel w (.returned (.tuple #[.slice none 0 0, .int .i64 0, .int .i64 0, .int .i64 ((chkF ss).2 : Int)])) W) := fun W hW => srp_no hne hW _ (by rw [HE.out, if_neg (by simp [h1]), if_pos h2])
      have k1 : (((chkF ss).2 : Int) == 0) = false := by simp; omega
      have k2 : ¬ ((chkF ss).2 : Int) = 0 := by omega
      rw [h1] at HC
      generalize (chkF ss).1 = c1 at *
      generalize (chkF ss).2 = c2 at *
      clear hF ht hlen h1 hne HE h2
      go_enter Tryz.func10, Tryz.ntmps10
      go_wp2_with (first
        | (go_at_call 23; refine HC.out.mono ?_; rintro e w1 ⟨rfl, H1⟩)
        | (go_at_call 24; refine (HK.out _ H1).mono ?_; rintro e w2 ⟨rfl, H2⟩)
        | go_in)
      refine bodyPost_ret (v := .tuple #[.slice none 0 0, .int .i64 0, .int .i64 0, .int .i64 (c2 : Int)]) (by simp [results, Tryz.results10, go_sem]) rfl (HZ.out _ H2.out)
  · have hne : rnE F ss fuel ≠ 0 := by rw [HE.out, if_pos h1]; exact h1
    have HZ : Hid (∀ W, Below w.heap.size w W → SrP F ss fuel w (.returned (.tuple #[.slice none 0 0, .int .i64 0, .int .i64 0, .int .i64 (chF F)])) W) := fun W hW => srp_no hne hW _ (by rw [HE.out, if_pos h1])
    have k1 : (chF F == 0) = false := by simpa using h1
    generalize chF F = c2 at *
    clear hF ht hlen hne HE HK
    go_enter Tryz.func10, Tryz.ntmps10
    go_wp2_with (first
      | (go_at_call 23; refine HC.out.mono ?_; rintro e w1 ⟨rfl, H1⟩)
      | go_in)
    refine bodyPost_ret (v := .tuple #[.slice none 0 0, .int .i64 0, .int .i64 0, .int .i64 c2]) (by simp [results, Tryz.results10, go_sem]) rfl (HZ.out _ H1.out)
end Go.Proofs.YtapiedeekbfpnaaGreatDoor
