/- WireBackAction holds, its two listed variables tied to the program's text: for all two actions that can be read, what Action packs is read by ReadAction as it was, and two that can be packed are packed alike just if they are the same; both read behind the call as they read before; no condition of ours. -/
import Derived.Test.YtclfaadncgkecaaDoorActUse
namespace Go.Proofs.YtclfaadncgkecaaDoor
open Go.ChangeShapes Go.WideShapes Go.ChangeAt Go.RowKit Go.Shelf
open Go.ChangeMaps (open_string shut_string)

set_option maxHeartbeats 4000000 in
set_option maxRecDepth 100000 in
theorem ba_no (f : Int) (c o c' o' : Value) (cs os cs' os' : List ByteArray) (i i' : ByteArray) (f' : Int) (w : World) (hc : IsTexts w c cs) (ho : IsTexts w o os) (hc' : IsTexts w c' cs') (ho' : IsTexts w o' os') (hm : MaxIs w) (hok : aeC cs i os f ≠ 0) :
    Calls Tryd.prog 6 #[Av c i o f, Av c' i' o' f'] w fun e w' => e = .returned (.bool true) ∧ Below w.heap.size w w' := by
  have hb0 : Below w.heap.size w ((w.alloc (.cells #[c, .string i, o, .int .i64 f] 26)).alloc (.cells #[c', .string i', o', .int .i64 f'] 26)) := ((Below.refl _ _).alloc (Nat.le_refl _) _).alloc (by simp) _
  have P0 : Hid (ActAt ((w.alloc (.cells #[c, .string i, o, .int .i64 f] 26)).alloc (.cells #[c', .string i', o', .int .i64 f'] 26)) w.heap.size c i o f) := (ActAt.new w c i o f).up ((Below.refl (w.heap.size + 1) _).alloc (by simp) _) (Nat.lt_succ_self _)
  have Q0 : Hid (ActAt ((w.alloc (.cells #[c, .string i, o, .int .i64 f] 26)).alloc (.cells #[c', .string i', o', .int .i64 f'] 26)) (w.heap.size + 1) c' i' o' f') := by
    have := ActAt.new (w.alloc (.cells #[c, .string i, o, .int .i64 f] 26)) c' i' o' f'
    show ActAt _ _ _ _ _ _
    simpa using this
  have HC : Hid _ := hc
  have HO : Hid _ := ho
  have HC' : Hid _ := hc'
  have HO' : Hid _ := ho'
  have HM : Hid _ := hm
  have HB0 : Hid _ := hb0
  clear hb0 hm
  obtain ⟨_, ac, cc, rfl, _⟩ := hc
  obtain ⟨_, ao, co, rfl, _⟩ := ho
  obtain ⟨_, ac', cc', rfl, _⟩ := hc'
  obtain ⟨_, ao', co', rfl, _⟩ := ho'
  have HK : Hid _ := hok
  clear hok
  go_enter Tryd.func6, Tryd.ntmps6
  go_wp2_with fail
  refine (wireBegun_any _).mono ?_
  rintro e w1 ⟨rfl, hb1⟩
  have B1 : Hid (Below w.heap.size w w1) := Below.trans HB0.out (hb1.mono (by simp; omega))
  have z1 : w.heap.size + 1 < w1.heap.size := by have := hb1.size; simp at this; omega
  have P1 : Hid (ActAt w1 w.heap.size (.slice ac cs.length cc) i (.slice ao os.length co) f) := ActAt.up P0.out hb1 (by simp; omega)
  have Q1 : Hid (ActAt w1 (w.heap.size + 1) (.slice ac' cs'.length cc') i' (.slice ao' os'.length co') f') := ActAt.up Q0.out hb1 (by simp)
  clear hb1
  obtain ⟨p0, p1, p2, p3⟩ := P1.out
  obtain ⟨q0, q1, q2, q3⟩ := Q1.out
  go_wp2_with fail
  refine (Action_no f _ _ cs os i w1 (IsTexts.up HC.out B1.out) (IsTexts.up HO.out B1.out) (MaxIs.up HM.out B1.out) HK.out).mono ?_
  rintro e w2 ⟨rfl, hb2⟩
  have B2 : Hid (Below w.heap.size w w2) := B1.out.trans (hb2.mono B1.out.size)
  have z2 : w.heap.size + 1 < w2.heap.size := by have := hb2.size; omega
  have P2 : Hid (ActAt w2 w.heap.size (.slice ac cs.length cc) i (.slice ao os.length co) f) := P1.out.up hb2 (by omega)
  have Q2 : Hid (ActAt w2 (w.heap.size + 1) (.slice ac' cs'.length cc') i' (.slice ao' os'.length co') f') := Q1.out.up hb2 (by omega)
  clear hb2
  obtain ⟨p0, p1, p2, p3⟩ := P2.out
  obtain ⟨q0, q1, q2, q3⟩ := Q2.out
  have hne : (aeC cs i os f != 0) = true := by rw [bne_iff_ne]; exact HK.out
  generalize aeC cs i os f = r at hne ⊢
  go_wp2
  go_ret
  exact ⟨rfl, B2.out⟩

set_option maxHeartbeats 4000000 in
set_option maxRecDepth 100000 in
theorem ba_yes_no (f : Nat) (c o c' o' : Value) (cs os cs' os' : List ByteArray) (i i' : ByteArray) (f' : Int) (w : World) (hc : IsTexts w c cs) (ho : IsTexts w o os) (hc' : IsTexts w c' cs') (ho' : IsTexts w o' os') (hm : MaxIs w) (hok : aeC cs i os f = 0) (hok' : aeC cs' i' os' f' ≠ 0) :
    Calls Tryd.prog 6 #[Av c i o f, Av c' i' o' f'] w fun e w' => e = .returned (.bool true) ∧ Below w.heap.size w w' := by
  have hb0 : Below w.heap.size w ((w.alloc (.cells #[c, .string i, o, .int .i64 (f : Int)] 26)).alloc (.cells #[c', .string i', o', .int .i64 f'] 26)) := ((Below.refl _ _).alloc (Nat.le_refl _) _).alloc (by simp) _
  have P0 : Hid (ActAt ((w.alloc (.cells #[c, .string i, o, .int .i64 (f : Int)] 26)).alloc (.cells #[c', .string i', o', .int .i64 f'] 26)) w.heap.size c i o f) := (ActAt.new w c i o f).up ((Below.refl (w.heap.size + 1) _).alloc (by simp) _) (Nat.lt_succ_self _)
  have Q0 : Hid (ActAt ((w.alloc (.cells #[c, .string i, o, .int .i64 (f : Int)] 26)).alloc (.cells #[c', .string i', o', .int .i64 f'] 26)) (w.heap.size + 1) c' i' o' f') := by
    have := ActAt.new (w.alloc (.cells #[c, .string i, o, .int .i64 (f : Int)] 26)) c' i' o' f'
    show ActAt _ _ _ _ _ _
    simpa using this
  have HC : Hid _ := hc
  have HO : Hid _ := ho
  have HC' : Hid _ := hc'
  have HO' : Hid _ := ho'
  have HM : Hid _ := hm
  have HB0 : Hid _ := hb0
  clear hb0 hm
  obtain ⟨_, ac, cc, rfl, _⟩ := hc
  obtain ⟨_, ao, co, rfl, _⟩ := ho
  obtain ⟨_, ac', cc', rfl, _⟩ := hc'
  obtain ⟨_, ao', co', rfl, _⟩ := ho'
  have HK : Hid _ := hok
  clear hok
  go_enter Tryd.func6, Tryd.ntmps6
  go_wp2_with fail
  refine (wireBegun_any _).mono ?_
  rintro e w1 ⟨rfl, hb1⟩
  have B1 : Hid (Below w.heap.size w w1) := Below.trans HB0.out (hb1.mono (by simp; omega))
  have z1 : w.heap.size + 1 < w1.heap.size := by have := hb1.size; simp at this; omega
  have P1 : Hid (ActAt w1 w.heap.size (.slice ac cs.length cc) i (.slice ao os.length co) f) := ActAt.up P0.out hb1 (by simp; omega)
  have Q1 : Hid (ActAt w1 (w.heap.size + 1) (.slice ac' cs'.length cc') i' (.slice ao' os'.length co') f') := ActAt.up Q0.out hb1 (by simp)
  clear hb1
  obtain ⟨p0, p1, p2, p3⟩ := P1.out
  obtain ⟨q0, q1, q2, q3⟩ := Q1.out
  go_wp2_with fail
  refine (Action_yes f _ _ cs os i w1 (IsTexts.up HC.out B1.out) (IsTexts.up HO.out B1.out) (MaxIs.up HM.out B1.out) HK.out).mono ?_
  rintro e w2 ⟨rfl, hb2⟩
  clear p0 p1 p2 p3 q0 q1 q2 q3
  have B2 : Hid (Below w.heap.size w w2) := B1.out.trans (hb2.mono B1.out.size)
  have z2 : w.heap.size + 1 < w2.heap.size := by have := hb2.size; omega
  have P2 : Hid (ActAt w2 w.heap.size (.slice ac cs.length cc) i (.slice ao os.length co) f) := P1.out.up hb2 (by omega)
  have Q2 : Hid (ActAt w2 (w.heap.size + 1) (.slice ac' cs'.length cc') i' (.slice ao' os'.length co') f') := Q1.out.up hb2 (by omega)
  clear hb2
  obtain ⟨p0, p1, p2, p3⟩ := P2.out
  obtain ⟨q0, q1, q2, q3⟩ := Q2.out
  go_wp2_with fail
  refine (ReadAction_cs f i cs os w2 (MaxIs.up HM.out B2.out) HK.out).mono ?_
  rintro e w3 ⟨xc, xcc, xo, xco, rfl, hxc, hxo, hb3⟩
  clear p0 p1 p2 p3 q0 q1 q2 q3
  have B3 : Hid (Below w.heap.size w w3) := B2.out.trans (hb3.mono B2.out.size)
  have z3 : w.heap.size + 1 < w3.heap.size := by have := hb3.size; omega
  have P3 : Hid (ActAt w3 w.heap.size (.slice ac cs.length cc) i (.slice ao os.length co) f) := P2.out.up hb3 (by omega)
  have Q3 : Hid (ActAt w3 (w.heap.size + 1) (.slice ac' cs'.length cc') i' (.slice ao' os'.length co') f') := Q2.out.up hb3 (by omega)
  clear hb3
  obtain ⟨p0, p1, p2, p3⟩ := P3.out
  obtain ⟨q0, q1, q2, q3⟩ := Q3.out
  have bx : Below w3.heap.size w3 (w3.alloc (.cells #[.slice xc cs.length xcc, .string i, .slice xo os.length xco, .int .i64 f] 26)) := (Below.refl _ _).alloc (Nat.le_refl _) _
  have XC : Hid _ := IsTexts.up hxc bx
  have XO : Hid _ := IsTexts.up hxo bx
  have X3 : Hid _ := ActAt.new w3 (.slice xc cs.length xcc) i (.slice xo os.length xco) f
  have BX : Hid (Below w.heap.size w (w3.alloc (.cells #[.slice xc cs.length xcc, .string i, .slice xo os.length xco, .int .i64 f] 26))) := B3.out.trans (bx.mono B3.out.size)
  have PX : Hid _ := P3.out.up bx (by omega)
  have QX : Hid _ := Q3.out.up bx (by omega)
  have zx : w3.heap.size < (w3.alloc (.cells #[.slice xc cs.length xcc, .string i, .slice xo os.length xco, .int .i64 f] 26)).heap.size := by simp
  clear hxc hxo bx
  have HK2 : Hid (aeC cs' i' os' f' ≠ 0) := hok'
  clear hok'
  go_wp2_with fail
  refine (Action_no f' _ _ cs' os' i' _ (IsTexts.up HC'.out BX.out) (IsTexts.up HO'.out BX.out) (MaxIs.up HM.out BX.out) HK2.out).mono ?_
  rintro e w4 ⟨rfl, hb4⟩
  clear p0 p1 p2 p3 q0 q1 q2 q3
  have B4 : Hid (Below w.heap.size w w4) := BX.out.trans (hb4.mono BX.out.size)
  have XC4 : Hid (IsTexts w4 (.slice xc cs.length xcc) cs) := IsTexts.up XC.out hb4
  have XO4 : Hid (IsTexts w4 (.slice xo os.length xco) os) := IsTexts.up XO.out hb4
  have X4 : Hid (ActAt w4 w3.heap.size (.slice xc cs.length xcc) i (.slice xo os.length xco) f) := ActAt.up X3.out hb4 zx
  have P4 : Hid (ActAt w4 w.heap.size (.slice ac cs.length cc) i (.slice ao os.length co) f) := ActAt.up PX.out hb4 (by omega)
  have Q4 : Hid (ActAt w4 (w.heap.size + 1) (.slice ac' cs'.length cc') i' (.slice ao' os'.length co') f') := ActAt.up QX.out hb4 (by omega)
  have z4 : w3.heap.size < w4.heap.size := Nat.lt_of_lt_of_le zx hb4.size
  clear hb4
  obtain ⟨p0, p1, p2, p3⟩ := P4.out
  obtain ⟨q0, q1, q2, q3⟩ := Q4.out
  obtain ⟨x0, x1, x2, x3⟩ := X4.out
  go_wp2_with fail
  refine (sa_any _ _ _ _ cs os cs os i i f f w4 (IsTexts.up HC.out B4.out) (IsTexts.up HO.out B4.out) XC4.out XO4.out).mono ?_
  rintro e w5 ⟨rfl, hb5⟩
  clear p0 p1 p2 p3 q0 q1 q2 q3 x0 x1 x2 x3
  rw [show decide (cs = cs ∧ i = i ∧ os = os ∧ (f : Int) = f) = true from by simp]
  have B5 : Hid (Below w.heap.size w w5) := B4.out.trans (hb5.mono B4.out.size)
  have P5 : Hid (ActAt w5 w.heap.size (.slice ac cs.length cc) i (.slice ao os.length co) f) := ActAt.up P4.out hb5 (by omega)
  have Q5 : Hid (ActAt w5 (w.heap.size + 1) (.slice ac' cs'.length cc') i' (.slice ao' os'.length co') f') := ActAt.up Q4.out hb5 (by omega)
  clear hb5
  obtain ⟨p0, p1, p2, p3⟩ := P5.out
  obtain ⟨q0, q1, q2, q3⟩ := Q5.out
  have hne : (aeC cs' i' os' f' != 0) = true := by rw [bne_iff_ne]; exact HK2.out
  generalize aeC cs' i' os' f' = r at hne ⊢
  go_wp2
  go_ret
  exact ⟨rfl, B5.out⟩

set_option maxHeartbeats 4000000 in
set_option maxRecDepth 100000 in
theorem ba_yes (f f2 : Nat) (c o c' o' : Value) (cs os cs' os' : List ByteArray) (i i' : ByteArray) (w : World) (hc : IsTexts w c cs) (ho : IsTexts w o os) (hc' : IsTexts w c' cs') (ho' : IsTexts w o' os') (hm : MaxIs w) (hok : aeC cs i os f = 0) (hok' : aeC cs' i' os' f2 = 0) :
    Calls Tryd.prog 6 #[Av c i o f, Av c' i' o' f2] w fun e w' => e = .returned (.bool true) ∧ Below w.heap.size w w' := by
  have hb0 : Below w.heap.size w ((w.alloc (.cells #[c, .string i, o, .int .i64 f] 26)).alloc (.cells #[c', .string i', o', .int .i64 f2] 26)) := ((Below.refl _ _).alloc (Nat.le_refl _) _).alloc (by simp) _
  have P0 : Hid (ActAt ((w.alloc (.cells #[c, .string i, o, .int .i64 f] 26)).alloc (.cells #[c', .string i', o', .int .i64 f2] 26)) w.heap.size c i o f) := (ActAt.new w c i o f).up ((Below.refl (w.heap.size + 1) _).alloc (by simp) _) (Nat.lt_succ_self _)
  have Q0 : Hid (ActAt ((w.alloc (.cells #[c, .string i, o, .int .i64 f] 26)).alloc (.cells #[c', .string i', o', .int .i64 f2] 26)) (w.heap.size + 1) c' i' o' f2) := by
    have := ActAt.new (w.alloc (.cells #[c, .string i, o, .int .i64 f] 26)) c' i' o' f2
    show ActAt _ _ _ _ _ _
    simpa using this
  have HC : Hid _ := hc
  have HO : Hid _ := ho
  have HC' : Hid _ := hc'
  have HO' : Hid _ := ho'
  have HM : Hid _ := hm
  have HB0 : Hid _ := hb0
  clear hb0 hm
  obtain ⟨_, ac, cc, rfl, _⟩ := hc
  obtain ⟨_, ao, co, rfl, _⟩ := ho
  obtain ⟨_, ac', cc', rfl, _⟩ := hc'
  obtain ⟨_, ao', co', rfl, _⟩ := ho'
  have HK : Hid _ := hok
  clear hok
  go_enter Tryd.func6, Tryd.ntmps6
  go_wp2_with fail
  refine (wireBegun_any _).mono ?_
  rintro e w1 ⟨rfl, hb1⟩
  have B1 : Hid (Below w.heap.size w w1) := Below.trans HB0.out (hb1.mono (by simp; omega))
  have z1 : w.heap.size + 1 < w1.heap.size := by have := hb1.size; simp at this; omega
  have P1 : Hid (ActAt w1 w.heap.size (.slice ac cs.length cc) i (.slice ao os.length co) f) := ActAt.up P0.out hb1 (by simp; omega)
  have Q1 : Hid (ActAt w1 (w.heap.size + 1) (.slice ac' cs'.length cc') i' (.slice ao' os'.length co') f2) := ActAt.up Q0.out hb1 (by simp)
  clear hb1
  obtain ⟨p0, p1, p2, p3⟩ := P1.out
  obtain ⟨q0, q1, q2, q3⟩ := Q1.out
  go_wp2_with fail
  refine (Action_yes f _ _ cs os i w1 (IsTexts.up HC.out B1.out) (IsTexts.up HO.out B1.out) (MaxIs.up HM.out B1.out) HK.out).mono ?_
  rintro e w2 ⟨rfl, hb2⟩
  clear p0 p1 p2 p3 q0 q1 q2 q3
  have B2 : Hid (Below w.heap.size w w2) := B1.out.trans (hb2.mono B1.out.size)
  have z2 : w.heap.size + 1 < w2.heap.size := by have := hb2.size; omega
  have P2 : Hid (ActAt w2 w.heap.size (.slice ac cs.length cc) i (.slice ao os.length co) f) := P1.out.up hb2 (by omega)
  have Q2 : Hid (ActAt w2 (w.heap.size + 1) (.slice ac' cs'.length cc') i' (.slice ao' os'.length co') f2) := Q1.out.up hb2 (by omega)
  clear hb2
  obtain ⟨p0, p1, p2, p3⟩ := P2.out
  obtain ⟨q0, q1, q2, q3⟩ := Q2.out
  go_wp2_with fail
  refine (ReadAction_cs f i cs os w2 (MaxIs.up HM.out B2.out) HK.out).mono ?_
  rintro e w3 ⟨xc, xcc, xo, xco, rfl, hxc, hxo, hb3⟩
  clear p0 p1 p2 p3 q0 q1 q2 q3
  have B3 : Hid (Below w.heap.size w w3) := B2.out.trans (hb3.mono B2.out.size)
  have z3 : w.heap.size + 1 < w3.heap.size := by have := hb3.size; omega
  have P3 : Hid (ActAt w3 w.heap.size (.slice ac cs.length cc) i (.slice ao os.length co) f) := P2.out.up hb3 (by omega)
  have Q3 : Hid (ActAt w3 (w.heap.size + 1) (.slice ac' cs'.length cc') i' (.slice ao' os'.length co') f2) := Q2.out.up hb3 (by omega)
  clear hb3
  obtain ⟨p0, p1, p2, p3⟩ := P3.out
  obtain ⟨q0, q1, q2, q3⟩ := Q3.out
  have bx : Below w3.heap.size w3 (w3.alloc (.cells #[.slice xc cs.length xcc, .string i, .slice xo os.length xco, .int .i64 f] 26)) := (Below.refl _ _).alloc (Nat.le_refl _) _
  have XC : Hid _ := IsTexts.up hxc bx
  have XO : Hid _ := IsTexts.up hxo bx
  have X3 : Hid _ := ActAt.new w3 (.slice xc cs.length xcc) i (.slice xo os.length xco) f
  have BX : Hid (Below w.heap.size w (w3.alloc (.cells #[.slice xc cs.length xcc, .string i, .slice xo os.length xco, .int .i64 f] 26))) := B3.out.trans (bx.mono B3.out.size)
  have PX : Hid _ := P3.out.up bx (by omega)
  have QX : Hid _ := Q3.out.up bx (by omega)
  have zx : w3.heap.size < (w3.alloc (.cells #[.slice xc cs.length xcc, .string i, .slice xo os.length xco, .int .i64 f] 26)).heap.size := by simp
  clear hxc hxo bx
  have HK2 : Hid (aeC cs' i' os' f2 = 0) := hok'
  clear hok'
  go_wp2_with fail
  refine (Action_yes f2 _ _ cs' os' i' _ (IsTexts.up HC'.out BX.out) (IsTexts.up HO'.out BX.out) (MaxIs.up HM.out BX.out) HK2.out).mono ?_
  rintro e w4 ⟨rfl, hb4⟩
  clear p0 p1 p2 p3 q0 q1 q2 q3
  have B4 : Hid (Below w.heap.size w w4) := BX.out.trans (hb4.mono BX.out.size)
  have XC4 : Hid (IsTexts w4 (.slice xc cs.length xcc) cs) := IsTexts.up XC.out hb4
  have XO4 : Hid (IsTexts w4 (.slice xo os.length xco) os) := IsTexts.up XO.out hb4
  have X4 : Hid (ActAt w4 w3.heap.size (.slice xc cs.length xcc) i (.slice xo os.length xco) f) := ActAt.up X3.out hb4 zx
  have P4 : Hid (ActAt w4 w.heap.size (.slice ac cs.length cc) i (.slice ao os.length co) f) := ActAt.up PX.out hb4 (by omega)
  have Q4 : Hid (ActAt w4 (w.heap.size + 1) (.slice ac' cs'.length cc') i' (.slice ao' os'.length co') (f2 : Int)) := ActAt.up QX.out hb4 (by omega)
  have z4 : w3.heap.size < w4.heap.size := Nat.lt_of_lt_of_le zx hb4.size
  clear hb4
  obtain ⟨p0, p1, p2, p3⟩ := P4.out
  obtain ⟨q0, q1, q2, q3⟩ := Q4.out
  obtain ⟨x0, x1, x2, x3⟩ := X4.out
  go_wp2_with fail
  refine (sa_any _ _ _ _ cs os cs os i i f f w4 (IsTexts.up HC.out B4.out) (IsTexts.up HO.out B4.out) XC4.out XO4.out).mono ?_
  rintro e w5 ⟨rfl, hb5⟩
  clear p0 p1 p2 p3 q0 q1 q2 q3 x0 x1 x2 x3
  rw [show decide (cs = cs ∧ i = i ∧ os = os ∧ (f : Int) = f) = true from by simp]
  have B5 : Hid (Below w.heap.size w w5) := B4.out.trans (hb5.mono B4.out.size)
  have P5 : Hid (ActAt w5 w.heap.size (.slice ac cs.length cc) i (.slice ao os.length co) f) := ActAt.up P4.out hb5 (by omega)
  have Q5 : Hid (ActAt w5 (w.heap.size + 1) (.slice ac' cs'.length cc') i' (.slice ao' os'.length co') (f2 : Int)) := ActAt.up Q4.out hb5 (by omega)
  clear hb5
  obtain ⟨p0, p1, p2, p3⟩ := P5.out
  obtain ⟨q0, q1, q2, q3⟩ := Q5.out
  have hse : ((pkA cs i os f) == (pkA cs' i' os' f2)) = decide (cs = cs' ∧ i = i' ∧ os = os' ∧ (f : Int) = f2) := by
    by_cases heq : cs = cs' ∧ i = i' ∧ os = os' ∧ (f : Int) = f2
    · rw [decide_eq_true heq]
      obtain ⟨rfl, rfl, rfl, h⟩ := heq
      obtain rfl : f = f2 := by omega
      simp
    · rw [decide_eq_false heq, beq_eq_false_iff_ne]
      intro h
      obtain ⟨e1, e2, e3, e4⟩ := pkA_inj h
      exact heq ⟨e1, e2, e3, by omega⟩
  have SE : Hid _ := hse
  clear hse
  go_wp2_with fail
  refine (sa_any _ _ _ _ cs os cs' os' i i' f f2 w5 (IsTexts.up HC.out B5.out) (IsTexts.up HO.out B5.out) (IsTexts.up HC'.out B5.out) (IsTexts.up HO'.out B5.out)).mono ?_
  rintro e w6 ⟨rfl, hb6⟩
  have B6 : Hid (Below w.heap.size w w6) := B5.out.trans (hb6.mono B5.out.size)
  clear hb6 p0 p1 p2 p3 q0 q1 q2 q3
  go_wp2
  go_ret
  exact ⟨by simp [SE.out], B6.out⟩

theorem ba_walk (f : Int) (c o c' o' : Value) (cs os cs' os' : List ByteArray) (i i' : ByteArray) (f' : Int) (w : World) (hc : IsTexts w c cs) (ho : IsTexts w o os) (hc' : IsTexts w c' cs') (ho' : IsTexts w o' os') (hm : MaxIs w) :
    Calls Tryd.prog 6 #[Av c i o f, Av c' i' o' f'] w fun e w' => e = .returned (.bool true) ∧ Below w.heap.size w w' := by
  by_cases hok : aeC cs i os f = 0
  · obtain ⟨_, _, _, k4, _⟩ := aeC_fit hok
    obtain ⟨n, rfl⟩ : ∃ n : Nat, f = n := ⟨f.toNat, by omega⟩
    by_cases hok' : aeC cs' i' os' f' = 0
    · obtain ⟨_, _, _, k4', _⟩ := aeC_fit hok'
      obtain ⟨n', rfl⟩ : ∃ n : Nat, f' = n := ⟨f'.toNat, by omega⟩
      exact ba_yes n n' c o c' o' cs os cs' os' i i' w hc ho hc' ho' hm hok hok'
    · exact ba_yes_no n c o c' o' cs os cs' os' i i' f' w hc ho hc' ho' hm hok hok'
  · exact ba_no f c o c' o' cs os cs' os' i i' f' w hc ho hc' ho' hm hok

set_option maxRecDepth 100000 in
theorem ba_lifted (os : Os) (started : os.Started) (H : Type) (enc : TypeId × Value → H) :
    ReturnsInHanded {} Tryd.checked os 6 .any (fun w args => (Rows.wireBackActionSpec.pre enc Tryd.prog Tryd.f6 Rows.wireBackActionRow.domain false w args ∧ laidMetH Tryd.prog Rows.wireBackActionRow.laid w) ∧ sizedMet enc Tryd.prog Tryd.f6 (OpenSpec.ofChange Rows.wireBackActionSpec) false w args)
      (Rows.wireBackActionSpec.post enc Tryd.prog Tryd.f6 false true false false) := by
  refine returns_laid own started (by kernel_rfl) Tryd.func6
    (ChangeSpec.witness_shaped (enc := enc) (C := Tryd.checked) (os := os) (X := fun w _ => laidMetH Tryd.prog Rows.wireBackActionRow.laid w) false (World.laidAll Tryd.prog os Rows.wireBackActionRow.laid) #[.agg #[.slice none 0 0, .string ByteArray.empty, .slice none 0 0, .int .i64 0], .agg #[.slice none 0 0, .string ByteArray.empty, .slice none 0 0, .int .i64 0]] 8 (World.laidAll_os _ _ _)
      (World.shaped_of_ZipB (by kernel_rfl) (by kernel_rfl)) (by kernel_rfl) (by kernel_rfl) (by kernel_rfl)
      (by rw [MakeChecks.laidMetH_plain _ _ _ (by kernel_rfl)]; exact laidMet_laidAll _ (by kernel_rfl) (by kernel_rfl))) ?_
  intro W base args ds gs before hval0 hW hsz0 _ shape
  have hval : ∀ (j : Nat) t v, Tryd.f6.params[j]? = some t → args[j]? = some v → Value.okWide Tryd.prog W .any base t v := hval0
  have hW' := hW
  obtain ⟨p, q, hA0, hV, rfl, hfz, hnd⟩ := hW
  have hA : DataW.TrodAll enc Tryd.prog W 0 (fun _ => true) true Tryd.f6.params.toList args.toList ds p := hA0
  have hsz : (DataW.weightsEach Tryd.prog (Tryd.f6.params.toList ++ Rows.wireBackActionSpec.plain.varTypes Tryd.prog) (ds ++ gs)).all (· ≤ reachBytes) = true := hsz0
  rw [Tryd.params6] at hA hval hsz
  obtain ⟨v0, v1, d0, d1, p0, p1, rfl, rfl, rfl, h0, h1⟩ := trodAll_two hA
  obtain ⟨rfl, rfl⟩ := trodVars_none hV
  obtain ⟨c, i, o, f, cs, os', rfl, i0, i1, _⟩ := arg_action (hval 0 26 v0 rfl rfl) h0 (fun n hn => of_decide_eq_true (List.all_eq_true.1 hsz n (DataW.weights_mem_each (j := 0) rfl rfl n hn)))
  obtain ⟨c', i', o', f', cs', os'', rfl, j0, j1, _⟩ := arg_action (hval 1 26 v1 rfl rfl) h1 (fun n hn => of_decide_eq_true (List.all_eq_true.1 hsz n (DataW.weights_mem_each (j := 1) rfl rfl n hn)))
  have lt0 : ∀ x ∈ p0, x.block < W.heap.size := by obtain ⟨m, hm⟩ := h0; exact DataW.trod_lt m _ _ _ hm
  have lt1 : ∀ x ∈ p1, x.block < W.heap.size := by obtain ⟨m, hm⟩ := h1; exact DataW.trod_lt m _ _ _ hm
  clear hA0 hval0
  refine (ba_walk f c o c' o' cs os' cs' os'' i i' f' W i0 i1 j0 j1 (max_of_shaped shape)).mono fun e W' ⟨he, bel⟩ => ?_
  subst he
  exact ⟨_, rfl, _, _, _, [], _, [], hW', trodAll_mk1 (shut_bool Tryd.underlying4 _), trodAll_mk2 (Below.trod laidOut (by kernel_rfl) (of_decide_eq_true (by kernel_rfl)) h0 bel lt0) (Below.trod laidOut (by kernel_rfl) (of_decide_eq_true (by kernel_rfl)) h1 bel lt1), rfl, bel.frame _, fun h => by cases h⟩

theorem wireBackAction_row : Rows.WireBackActionSaid :=
  OpenClaim.holds_of_wide 6 Tryd.f6 rfl rfl rfl rfl rfl rfl rfl ⟨rfl, rfl, rfl, rfl, rfl⟩ rfl rfl rfl rfl rfl (by kernel_rfl) Tryd.func6 (by kernel_rfl)
    (of_decide_eq_true (by kernel_rfl)) (by unfold Func.isWrapper; first | (rw [if_pos (by decide +kernel)]; kernel_rfl) | (rw [if_neg (by decide +kernel)]; exact ⟨rfl, rfl⟩))
    (fun os started H enc _ => ba_lifted os started H enc)

theorem wireBackAction_holds : Rows.WireBackActionCardSaid :=
  Claim7.holds_tied_plain_at .later [] Rows.wireBackActionCard.laidKinds true Rows.wireBackActionCard.stood.harness false
    wireBackAction_row (fun _ h => by cases h) (by kernel_rfl) (fun _ h => by cases h) wireBackAction_row_tie rfl ⟨rfl, rfl⟩ (by kernel_rfl) rfl
    (fun f fn hf hfn => by
      obtain rfl : f = 6 := Option.some.inj ((show Tryd.prog.funcNamed Rows.wireBackActionRow.func = some 6 by kernel_rfl).symm.trans hf) |>.symm
      obtain rfl : fn = Tryd.f6 := (Option.some.inj (Tryd.func6.symm.trans hfn)).symm
      exact ⟨by kernel_rfl, fun j t ht => by
        rw [Tryd.params6] at ht
        have hm : t ∈ [26] := by simpa using Array.mem_of_getElem? ht
        have hall : ([26].all fun u => !Tryd.prog.wantsStandIn u) = true := by kernel_rfl
        exact (show Tryd.prog.wantsStandIn t = false by simpa using List.all_eq_true.1 hall t hm)⟩)
    (by kernel_rfl)
#print axioms wireBackAction_holds
end Go.Proofs.YtclfaadncgkecaaDoor
