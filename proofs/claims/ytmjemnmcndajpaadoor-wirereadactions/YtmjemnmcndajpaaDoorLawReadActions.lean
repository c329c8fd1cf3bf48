/- WireReadActions holds, its two listed variables tied to the program's text: for every text and every action that can be read, what ReadAction answers is packed as the text that was handed in, else it is ErrForm, and the action is not packed so; both read behind the call as they read before; no condition of ours. -/
import Derived.Test.YtmjemnmcndajpaaDoorActUse
import Derived.Test.YtmjemnmcndajpaaDoorRdANo
namespace Go.Proofs.YtmjemnmcndajpaaDoor
open Go.ChangeShapes Go.WideShapes Go.ChangeAt Go.RowKit Go.Shelf
open Go.ChangeMaps (open_string shut_string)

theorem no_as {s : ByteArray} (h : NoAction s) {cs os : List ByteArray} {i : ByteArray} {f : Nat} (hok : aeC cs i os f = 0) : pkA cs i os f ≠ s.data.toList := fun he => h ⟨cs, os, i, f, hok, he.symm⟩
theorem nil_texts (w : World) : IsTexts w (.slice none 0 0) [] := ⟨by decide, none, 0, rfl, Or.inl rfl⟩

set_option maxHeartbeats 4000000 in
set_option maxRecDepth 100000 in
theorem ra_yes (f0 : Nat) (i0 : ByteArray) (cs0 os0 : List ByteArray) (f : Int) (c o : Value) (cs os : List ByteArray) (i : ByteArray) (w : World) (hc : IsTexts w c cs) (ho : IsTexts w o os) (hm : MaxIs w) (hok : aeC cs0 i0 os0 f0 = 0) :
    Calls Tryd.prog 5 #[.string ⟨(pkA cs0 i0 os0 f0).toArray⟩, Av c i o f] w fun e w' => e = .returned (.bool true) ∧ Below w.heap.size w w' := by
  have hb0 : Below w.heap.size w (w.alloc (.cells #[c, .string i, o, .int .i64 f] 26)) := (Below.refl _ _).alloc (Nat.le_refl _) _
  have M1 : Hid (MaxIs (w.alloc (.cells #[c, .string i, o, .int .i64 f] 26))) := hm.up hb0
  have HB0 : Hid (Below w.heap.size w (w.alloc (.cells #[c, .string i, o, .int .i64 f] 26))) := hb0
  have HK : Hid (aeC cs0 i0 os0 f0 = 0) := hok
  obtain ⟨k1, k2, k3, k4, k5⟩ := aeC_fit hok
  have F1 : Hid (okTexts cs0 ∧ okTexts os0) := ⟨k1, k2⟩
  have k6 : f0 ≤ 9007199254740991 := by omega
  have k7 : i0.size ≤ maxLen := by unfold maxLen; omega
  obtain ⟨_, ac, cc, rfl, _⟩ := hc
  obtain ⟨_, ao, co, rfl, _⟩ := ho
  clear hb0 hm hok k1 k2 k4 k5
  go_enter Tryd.func5, Tryd.ntmps5
  go_wp2_with fail
  refine (ReadAction_cs f0 i0 cs0 os0 _ M1.out HK.out).mono ?_
  rintro e w1 ⟨xc, xcc, xo, xco, rfl, hxc, hxo, hb1⟩
  have bx : Below w1.heap.size w1 (w1.alloc (.cells #[.slice xc cs0.length xcc, .string i0, .slice xo os0.length xco, .int .i64 f0] 26)) := (Below.refl _ _).alloc (Nat.le_refl _) _
  have B1 : Hid (Below w.heap.size w (w1.alloc (.cells #[.slice xc cs0.length xcc, .string i0, .slice xo os0.length xco, .int .i64 f0] 26))) := by
    have h1 := HB0.out.trans (hb1.mono HB0.out.size)
    exact h1.trans (bx.mono h1.size)
  have XC : Hid _ := IsTexts.up hxc bx
  have XO : Hid _ := IsTexts.up hxo bx
  have X1 : Hid _ := ActAt.new w1 (.slice xc cs0.length xcc) i0 (.slice xo os0.length xco) f0
  have z1 : w1.heap.size < (w1.alloc (.cells #[.slice xc cs0.length xcc, .string i0, .slice xo os0.length xco, .int .i64 f0] 26)).heap.size := by simp
  clear hb1 hxc hxo bx
  go_wp2_with fail
  refine (wireBegun_any _).mono ?_
  rintro e w2 ⟨rfl, hb2⟩
  have B2 : Hid (Below w.heap.size w w2) := B1.out.trans (hb2.mono B1.out.size)
  have XC2 : Hid (IsTexts w2 (.slice xc cs0.length xcc) cs0) := IsTexts.up XC.out hb2
  have XO2 : Hid (IsTexts w2 (.slice xo os0.length xco) os0) := IsTexts.up XO.out hb2
  have X2 : Hid (ActAt w2 w1.heap.size (.slice xc cs0.length xcc) i0 (.slice xo os0.length xco) f0) := ActAt.up X1.out hb2 z1
  have z2 : w1.heap.size < w2.heap.size := Nat.lt_of_lt_of_le z1 hb2.size
  clear hb2
  obtain ⟨x0, x1, x2, x3⟩ := X2.out
  go_wp2_with fail
  refine (wireBegun_any _).mono ?_
  rintro e w3 ⟨rfl, hb3⟩
  clear x0 x1 x2 x3
  have B3 : Hid (Below w.heap.size w w3) := B2.out.trans (hb3.mono B2.out.size)
  have XC3 : Hid (IsTexts w3 (.slice xc cs0.length xcc) cs0) := IsTexts.up XC2.out hb3
  have XO3 : Hid (IsTexts w3 (.slice xo os0.length xco) os0) := IsTexts.up XO2.out hb3
  have X3 : Hid (ActAt w3 w1.heap.size (.slice xc cs0.length xcc) i0 (.slice xo os0.length xco) f0) := ActAt.up X2.out hb3 z2
  have z3 : w1.heap.size < w3.heap.size := Nat.lt_of_lt_of_le z2 hb3.size
  clear hb3
  obtain ⟨x0, x1, x2, x3⟩ := X3.out
  go_wp2_with fail
  refine (ca_any _ _ cs0 os0 i0 f0 w3 XC3.out XO3.out k7).mono ?_
  rintro e w4 ⟨rfl, hb4⟩
  clear x0 x1 x2 x3
  rw [HK.out]
  have B4 : Hid (Below w.heap.size w w4) := B3.out.trans (hb4.mono B3.out.size)
  have XC4 : Hid (IsTexts w4 (.slice xc cs0.length xcc) cs0) := IsTexts.up XC3.out hb4
  have XO4 : Hid (IsTexts w4 (.slice xo os0.length xco) os0) := IsTexts.up XO3.out hb4
  have X4 : Hid (ActAt w4 w1.heap.size (.slice xc cs0.length xcc) i0 (.slice xo os0.length xco) f0) := ActAt.up X3.out hb4 z3
  clear hb4
  obtain ⟨x0, x1, x2, x3⟩ := X4.out
  go_wp2_with fail
  refine (packaction_any f0 _ _ cs0 os0 i0 w4 XC4.out XO4.out F1.out.1 F1.out.2 k3 k6).mono ?_
  rintro e w5 ⟨rfl, hb5⟩
  have B5 : Hid (Below w.heap.size w w5) := B4.out.trans (hb5.mono B4.out.size)
  clear hb5 x0 x1 x2 x3
  go_wp2
  go_ret
  exact ⟨by simp, B5.out⟩

set_option maxHeartbeats 4000000 in
set_option maxRecDepth 100000 in
theorem ra_no (s : ByteArray) (f : Int) (c o : Value) (cs os : List ByteArray) (i : ByteArray) (w : World) (hs : s.size ≤ 140737488355328) (hc : IsTexts w c cs) (ho : IsTexts w o os) (hi : i.size ≤ maxLen) (hm : MaxIs w) (hno : NoAction s) :
    Calls Tryd.prog 5 #[.string s, Av c i o f] w fun e w' => e = .returned (.bool true) ∧ Below w.heap.size w w' := by
  have hb0 : Below w.heap.size w (w.alloc (.cells #[c, .string i, o, .int .i64 f] 26)) := (Below.refl _ _).alloc (Nat.le_refl _) _
  have M1 : Hid (MaxIs (w.alloc (.cells #[c, .string i, o, .int .i64 f] 26))) := hm.up hb0
  have HB0 : Hid (Below w.heap.size w (w.alloc (.cells #[c, .string i, o, .int .i64 f] 26))) := hb0
  have P0 : Hid (ActAt (w.alloc (.cells #[c, .string i, o, .int .i64 f] 26)) w.heap.size c i o f) := ActAt.new w c i o f
  have HC : Hid _ := hc
  have HO : Hid _ := ho
  have HN : Hid (NoAction s) := hno
  obtain ⟨_, ac, cc, rfl, _⟩ := hc
  obtain ⟨_, ao, co, rfl, _⟩ := ho
  clear hb0 hm hno
  go_enter Tryd.func5, Tryd.ntmps5
  go_wp2_with fail
  refine (ReadAction_no s _ hs M1.out HN.out).mono ?_
  rintro e w1 ⟨rfl, hb1⟩
  have bx : Below w1.heap.size w1 (w1.alloc (.cells #[.slice none 0 0, .string ⟨#[]⟩, .slice none 0 0, .int .i64 0] 26)) := (Below.refl _ _).alloc (Nat.le_refl _) _
  have h01 : Below w.heap.size w w1 := HB0.out.trans (hb1.mono HB0.out.size)
  have B1 : Hid (Below w.heap.size w (w1.alloc (.cells #[.slice none 0 0, .string ⟨#[]⟩, .slice none 0 0, .int .i64 0] 26))) := h01.trans (bx.mono h01.size)
  have hz0 : w.heap.size < w1.heap.size := by have := hb1.size; simp at this; omega
  have P1 : Hid (ActAt (w1.alloc (.cells #[.slice none 0 0, .string ⟨#[]⟩, .slice none 0 0, .int .i64 0] 26)) w.heap.size (.slice ac cs.length cc) i (.slice ao os.length co) f) := (P0.out.up hb1 (by simp)).up bx hz0
  have X1 : Hid _ := ActAt.new w1 (.slice none 0 0) ⟨#[]⟩ (.slice none 0 0) 0
  have z1 : w1.heap.size < (w1.alloc (.cells #[.slice none 0 0, .string ⟨#[]⟩, .slice none 0 0, .int .i64 0] 26)).heap.size := by simp
  clear hb1 bx h01
  go_wp2_with fail
  refine (wireBegun_any _).mono ?_
  rintro e w2 ⟨rfl, hb2⟩
  have B2 : Hid (Below w.heap.size w w2) := B1.out.trans (hb2.mono B1.out.size)
  have P2 : Hid (ActAt w2 w.heap.size (.slice ac cs.length cc) i (.slice ao os.length co) f) := P1.out.up hb2 (by omega)
  have X2 : Hid (ActAt w2 w1.heap.size (.slice none 0 0) ⟨#[]⟩ (.slice none 0 0) 0) := ActAt.up X1.out hb2 z1
  have z2 : w1.heap.size < w2.heap.size := Nat.lt_of_lt_of_le z1 hb2.size
  clear hb2
  obtain ⟨p0, p1, p2, p3⟩ := P2.out
  obtain ⟨x0, x1, x2, x3⟩ := X2.out
  go_wp2_with fail
  refine (sa_any _ _ _ _ [] [] [] [] ⟨#[]⟩ ⟨#[]⟩ 0 0 _ (nil_texts _) (nil_texts _) (nil_texts _) (nil_texts _)).mono ?_
  rintro e w3 ⟨rfl, hb3⟩
  rw [show decide (([] : List ByteArray) = [] ∧ (⟨#[]⟩ : ByteArray) = ⟨#[]⟩ ∧ ([] : List ByteArray) = [] ∧ (0 : Int) = 0) = true from by simp]
  clear p0 p1 p2 p3 x0 x1 x2 x3
  have B3 : Hid (Below w.heap.size w w3) := B2.out.trans (hb3.mono B2.out.size)
  have P3 : Hid (ActAt w3 w.heap.size (.slice ac cs.length cc) i (.slice ao os.length co) f) := P2.out.up hb3 (by omega)
  have z3 : w.heap.size < w3.heap.size := by have := hb3.size; omega
  clear hb3
  obtain ⟨p0, p1, p2, p3⟩ := P3.out
  go_wp2_with fail
  refine (ca_any _ _ cs os i f w3 (IsTexts.up HC.out B3.out) (IsTexts.up HO.out B3.out) hi).mono ?_
  rintro e w4 ⟨rfl, hb4⟩
  clear p0 p1 p2 p3
  have B4 : Hid (Below w.heap.size w w4) := B3.out.trans (hb4.mono B3.out.size)
  have P4 : Hid (ActAt w4 w.heap.size (.slice ac cs.length cc) i (.slice ao os.length co) f) := P3.out.up hb4 z3
  clear hb4
  by_cases hok : aeC cs i os f = 0
  · obtain ⟨k1, k2, k3, k4, k5⟩ := aeC_fit hok
    obtain ⟨fn, rfl⟩ : ∃ n : Nat, f = n := ⟨f.toNat, by omega⟩
    have F1 : Hid (okTexts cs ∧ okTexts os) := ⟨k1, k2⟩
    have k6 : fn ≤ 9007199254740991 := by omega
    have hne : (pkA cs i os fn == s.toList) = false := by
      rw [beq_eq_false_iff_ne, Lib.toList_data]
      exact no_as HN.out hok
    rw [hok]
    clear hok k1 k2 k4 k5
    obtain ⟨p0, p1, p2, p3⟩ := P4.out
    go_wp2_with fail
    refine (packaction_any fn _ _ cs os i w4 (IsTexts.up HC.out B4.out) (IsTexts.up HO.out B4.out) F1.out.1 F1.out.2 k3 k6).mono ?_
    rintro e w5 ⟨rfl, hb5⟩
    have B5 : Hid (Below w.heap.size w w5) := B4.out.trans (hb5.mono B4.out.size)
    clear hb5 p0 p1 p2 p3
    go_wp2
    go_ret
    exact ⟨rfl, B5.out⟩
  · have hne : (aeC cs i os f != 0) = true := by rw [bne_iff_ne]; exact hok
    clear hok
    generalize aeC cs i os f = r at hne ⊢
    go_wp2
    go_ret
    exact ⟨rfl, B4.out⟩

theorem ra_walk (s : ByteArray) (f : Int) (c o : Value) (cs os : List ByteArray) (i : ByteArray) (w : World) (hs : s.size ≤ 140737488355328) (hc : IsTexts w c cs) (ho : IsTexts w o os) (hi : i.size ≤ maxLen) (hm : MaxIs w) :
    Calls Tryd.prog 5 #[.string s, Av c i o f] w fun e w' => e = .returned (.bool true) ∧ Below w.heap.size w w' := by
  by_cases hno : NoAction s
  · exact ra_no s f c o cs os i w hs hc ho hi hm hno
  · obtain ⟨cs0, os0, i0, f0, hok, he⟩ := Classical.not_not.1 hno
    obtain rfl : s = ⟨(pkA cs0 i0 os0 f0).toArray⟩ := bytes_eq he
    exact ra_yes f0 i0 cs0 os0 f c o cs os i w hc ho hm hok

set_option maxRecDepth 100000 in
theorem ra_lifted (os : Os) (started : os.Started) (H : Type) (enc : TypeId × Value → H) :
    ReturnsInHanded {} Tryd.checked os 5 .any (fun w args => (Rows.wireReadActionsSpec.pre enc Tryd.prog Tryd.f5 Rows.wireReadActionsRow.domain false w args ∧ laidMetH Tryd.prog Rows.wireReadActionsRow.laid w) ∧ sizedMet enc Tryd.prog Tryd.f5 (OpenSpec.ofChange Rows.wireReadActionsSpec) false w args)
      (Rows.wireReadActionsSpec.post enc Tryd.prog Tryd.f5 false true false false) := by
  refine returns_laid own started (by kernel_rfl) Tryd.func5
    (ChangeSpec.witness_shaped (enc := enc) (C := Tryd.checked) (os := os) (X := fun w _ => laidMetH Tryd.prog Rows.wireReadActionsRow.laid w) false (World.laidAll Tryd.prog os Rows.wireReadActionsRow.laid) #[.string ByteArray.empty, .agg #[.slice none 0 0, .string ByteArray.empty, .slice none 0 0, .int .i64 0]] 8 (World.laidAll_os _ _ _)
      (World.shaped_of_ZipB (by kernel_rfl) (by kernel_rfl)) (by kernel_rfl) (by kernel_rfl) (by kernel_rfl)
      (by rw [MakeChecks.laidMetH_plain _ _ _ (by kernel_rfl)]; exact laidMet_laidAll _ (by kernel_rfl) (by kernel_rfl))) ?_
  intro W base args ds gs before hval0 hW hsz0 _ shape
  have hval : ∀ (j : Nat) t v, Tryd.f5.params[j]? = some t → args[j]? = some v → Value.okWide Tryd.prog W .any base t v := hval0
  have hW' := hW
  obtain ⟨p, q, hA0, hV, rfl, hfz, hnd⟩ := hW
  have hA : DataW.TrodAll enc Tryd.prog W 0 (fun _ => true) true Tryd.f5.params.toList args.toList ds p := hA0
  have hsz : (DataW.weightsEach Tryd.prog (Tryd.f5.params.toList ++ Rows.wireReadActionsSpec.plain.varTypes Tryd.prog) (ds ++ gs)).all (· ≤ reachBytes) = true := hsz0
  rw [Tryd.params5] at hA hval hsz
  obtain ⟨v0, v1, d0, d1, p0, p1, rfl, rfl, rfl, h0, h1⟩ := trodAll_two hA
  obtain ⟨rfl, rfl⟩ := trodVars_none hV
  obtain ⟨a0, rfl, rfl, rfl, w0⟩ := open_string Tryd.underlying9 (hval 0 9 v0 rfl rfl) h0
  have hr : a0.size ≤ 140737488355328 := by
    have h2 := sized_string hsz (j := 0) (t := 9) rfl rfl
    have h3 := reachBytes_lt
    rw [← size_of (s := a0) rfl] at h2
    omega
  obtain ⟨c, i, o, f, cs, os', rfl, j0, j1, j2⟩ := arg_action (hval 1 26 v1 rfl rfl) h1 (fun n hn => of_decide_eq_true (List.all_eq_true.1 hsz n (DataW.weights_mem_each (j := 1) rfl rfl n hn)))
  have lt1 : ∀ x ∈ p1, x.block < W.heap.size := by obtain ⟨m, hm⟩ := h1; exact DataW.trod_lt m _ _ _ hm
  clear hA0 hval0
  refine (ra_walk a0 f c o cs os' i W hr j0 j1 j2 (max_of_shaped shape)).mono fun e W' ⟨he, bel⟩ => ?_
  subst he
  exact ⟨_, rfl, _, _, _, [], _, [], hW', trodAll_mk1 (shut_bool Tryd.underlying4 _), trodAll_mk2 (shut_string Tryd.underlying9 w0) (Below.trod laidOut (by kernel_rfl) (of_decide_eq_true (by kernel_rfl)) h1 bel lt1), rfl, bel.frame _, fun h => by cases h⟩

theorem wireReadActions_row : Rows.WireReadActionsSaid :=
  OpenClaim.holds_of_wide 5 Tryd.f5 rfl rfl rfl rfl rfl rfl rfl ⟨rfl, rfl, rfl, rfl, rfl⟩ rfl rfl rfl rfl rfl (by kernel_rfl) Tryd.func5 (by kernel_rfl)
    (of_decide_eq_true (by kernel_rfl)) (by unfold Func.isWrapper; first | (rw [if_pos (by decide +kernel)]; kernel_rfl) | (rw [if_neg (by decide +kernel)]; exact ⟨rfl, rfl⟩))
    (fun os started H enc _ => ra_lifted os started H enc)

theorem wireReadActions_holds : Rows.WireReadActionsCardSaid :=
  Claim7.holds_tied_plain_at .later [] Rows.wireReadActionsCard.laidKinds true Rows.wireReadActionsCard.stood.harness false
    wireReadActions_row (fun _ h => by cases h) (by kernel_rfl) (fun _ h => by cases h) wireReadActions_row_tie rfl ⟨rfl, rfl⟩ (by kernel_rfl) rfl
    (fun f fn hf hfn => by
      obtain rfl : f = 5 := Option.some.inj ((show Tryd.prog.funcNamed Rows.wireReadActionsRow.func = some 5 by kernel_rfl).symm.trans hf) |>.symm
      obtain rfl : fn = Tryd.f5 := (Option.some.inj (Tryd.func5.symm.trans hfn)).symm
      exact ⟨by kernel_rfl, fun j t ht => by
        rw [Tryd.params5] at ht
        have hm : t ∈ [9, 26] := by simpa using Array.mem_of_getElem? ht
        have hall : ([9, 26].all fun u => !Tryd.prog.wantsStandIn u) = true := by kernel_rfl
        exact (show Tryd.prog.wantsStandIn t = false by simpa using List.all_eq_true.1 hall t hm)⟩)
    (by kernel_rfl)
#print axioms wireReadActions_holds
end Go.Proofs.YtmjemnmcndajpaaDoor
