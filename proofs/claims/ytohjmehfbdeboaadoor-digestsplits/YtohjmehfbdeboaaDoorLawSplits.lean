/- DigestSplits holds, its two listed variables tied to the program's text: for every list of texts that can be read a root is the pair of the roots of what it is split into; the list reads behind the call as it read before; no condition of ours. -/
import Derived.Test.YtohjmehfbdeboaaDoorDgFind
import Derived.Test.YtohjmehfbdeboaaDoorShaDoor
import Derived.OpenShut
import Derived.ShutString
import Derived.ChangeOld
import Derived.SliceStrings
namespace Go.Proofs.YtohjmehfbdeboaaDoor
open Go.ChangeShapes Go.WideShapes Go.ChangeAt Go.RowKit
open Go.ChangeMaps (open_string shut_string)

theorem own : ownKnob Tryd.prog.godebug = none := by kernel_rfl
theorem laidOut : laidOutB Tryd.prog = true := by kernel_rfl
theorem bytesS : Tryd.prog.bytesOf 9 = 16 := by kernel_rfl

/-- A slice of these texts. -/
def Tx (w : World) (v : Value) (ss : List ByteArray) : Prop :=
  ss.length ≤ 4611686018427387904 ∧ ((ss = [] ∧ ∃ a cap, v = .slice a 0 cap) ∨ (0 < ss.length ∧ ∃ g o cap, v = .slice (some ⟨g, o, none⟩) ss.length cap ∧ ss.length ≤ cap ∧ Row w g o ss))
def okD (ss : List ByteArray) : Prop := ss.length ≤ 2000 ∧ ∀ s ∈ ss, s.size ≤ 100000
theorem Tx.up {w w' : World} {v : Value} {ss : List ByteArray} (h : Tx w v ss) (hb : Below w.heap.size w w') : Tx w' v ss := by
  refine ⟨h.1, ?_⟩
  rcases h.2 with h1 | ⟨h0, g, o, cap, hv, hc, hr⟩
  · exact Or.inl h1
  · exact Or.inr ⟨h0, g, o, cap, hv, hc, hr.up hb (World.block_lt_of_cell? w ⟨g, o + 0, none⟩ (hr 0 h0))⟩
theorem Tx.shape {w : World} {v : Value} {ss : List ByteArray} (h : Tx w v ss) : ∃ a cap, v = .slice a ss.length cap := by
  rcases h.2 with ⟨rfl, a, cap, hv⟩ | ⟨_, g, o, cap, hv, _⟩
  · exact ⟨a, cap, hv⟩
  · exact ⟨_, cap, hv⟩
theorem Tx.cf {w : World} {v : Value} {ss : List ByteArray} (h : Tx w v ss) (b : Bool) (hb : b = true ↔ ∃ s ∈ ss, 100000 < s.size) :
    Calls Tryd.prog 39 #[v, .func (.func 40) #[] #[]] w fun e w' => e = .returned (.bool b) ∧ w' = w := by
  rcases h.2 with ⟨rfl, a, cap, rfl⟩ | ⟨h0, g, o, cap, rfl, hc, hr⟩
  · cases b with
    | true => obtain ⟨s, hs, _⟩ := hb.1 rfl; cases hs
    | false => exact dcf_zero a cap w
  · cases b with
    | true => exact dcf_some g o cap ss w h.1 hr (hb.1 rfl)
    | false =>
      refine dcf_none g o cap ss w h.1 hr fun s hs => ?_
      rcases Nat.lt_or_ge 100000 s.size with h2 | h2
      · exact absurd (hb.2 ⟨s, hs, h2⟩) (by simp)
      · exact h2

set_option maxHeartbeats 1000000 in
theorem tooMany_any (v : Value) (ss : List ByteArray) (w : World) (h : Tx w v ss) (b : Bool) (hb : b = true ↔ ¬ okD ss) :
    Calls Tryd.prog 30 #[v] w fun e w' => e = .returned (.bool b) ∧ w' = w := by
  have H : Hid (Tx w v ss) := h
  obtain ⟨a, cap, rfl⟩ := h.shape
  by_cases hl : ss.length ≤ 2000
  · have hli : (ss.length : Int) ≤ 2000 := by omega
    have HC : Hid (Calls Tryd.prog 39 #[.slice a ss.length cap, .func (.func 40) #[] #[]] w fun e w' => e = .returned (.bool b) ∧ w' = w) := H.out.cf b ⟨fun hbt => by
        have := hb.1 hbt
        refine Classical.byContradiction fun hne => this ⟨hl, fun s hs => Nat.le_of_not_lt fun h2 => hne ⟨s, hs, h2⟩⟩,
      fun ⟨s, hs, h2⟩ => hb.2 fun hok => by have := hok.2 s hs; omega⟩
    clear hb h
    go_enter Tryd.func30, Tryd.ntmps30
    go_wp2_with fail
    refine HC.out.mono ?_
    rintro e w' ⟨rfl, rfl⟩
    go_wp2
    go_ret
    refine ⟨?_, rfl⟩
    simp
    omega
  · have hli : (2000 : Int) < (ss.length : Int) := by omega
    have hbt : b = true := hb.2 fun hok => hl hok.1
    subst hbt
    clear hb h
    go_enter Tryd.func30, Tryd.ntmps30
    go_wp2
    go_ret
    exact ⟨rfl, rfl⟩

set_option maxHeartbeats 1000000 in
theorem Root_no (v : Value) (ss : List ByteArray) (w : World) (h : Tx w v ss) (hno : ¬ okD ss) :
    Calls Tryd.prog 13 #[v] w fun e w' => e = .returned (.tuple #[.string ⟨#[]⟩, .int .i64 2]) ∧ w' = w := by
  have HT : Hid (Calls Tryd.prog 30 #[v] w fun e w' => e = .returned (.bool true) ∧ w' = w) := tooMany_any v ss w h true (by simp [hno])
  obtain ⟨a, cap, rfl⟩ := h.shape
  clear h hno
  go_enter Tryd.func13, Tryd.ntmps13
  go_wp2_with fail
  refine HT.out.mono ?_
  rintro e w' ⟨rfl, rfl⟩
  go_wp2
  go_ret2
  exact ⟨rfl, rfl⟩

theorem root_tx (v : Value) (ss : List ByteArray) (w : World) (h : Tx w v ss) (hok : okD ss) (hr : Roots w) :
    Calls Tryd.prog 31 #[v] w fun e w' => e = .returned (.string (rootB ss)) ∧ Below w.heap.size w w' := by
  rcases h.2 with ⟨rfl, a, cap, rfl⟩ | ⟨h0, g, o, cap, rfl, hc, hrow⟩
  · exact root_zero a cap w hr
  · exact root_any ss.length g o cap ss w (Nat.le_refl _) h0 hok.1 hc hok.2 hrow hr

set_option maxHeartbeats 1000000 in
theorem Root_yes (v : Value) (ss : List ByteArray) (w : World) (h : Tx w v ss) (hok : okD ss) (hr : Roots w) :
    Calls Tryd.prog 13 #[v] w fun e w' => e = .returned (.tuple #[.string (rootB ss), .int .i64 0]) ∧ Below w.heap.size w w' := by
  have HT : Hid (Calls Tryd.prog 30 #[v] w fun e w' => e = .returned (.bool false) ∧ w' = w) := tooMany_any v ss w h false (by simp [hok])
  have HR : Hid (Calls Tryd.prog 31 #[v] w fun e w' => e = .returned (.string (rootB ss)) ∧ Below w.heap.size w w') := root_tx v ss w h hok hr
  obtain ⟨a, cap, rfl⟩ := h.shape
  generalize rootB ss = y at HR
  clear h hok hr
  go_enter Tryd.func13, Tryd.ntmps13
  go_wp2_with fail
  refine HT.out.mono ?_
  rintro e w' ⟨rfl, rfl⟩
  go_wp2_with fail
  refine HR.out.mono ?_
  rintro e w1 ⟨rfl, hb1⟩
  have B1 : Hid (Below _ _ w1) := hb1
  clear hb1
  go_wp2
  go_ret2
  exact ⟨rfl, B1.out⟩

set_option maxHeartbeats 2000000 in
set_option maxRecDepth 100000 in
theorem spl_walk (v : Value) (ss : List ByteArray) (w : World) (h : Tx w v ss) (hm : Roots w) :
    Calls Tryd.prog 5 #[v] w fun e w' => e = .returned (.bool true) ∧ Below w.heap.size w w' := by
  have HM : Hid (Roots w) := hm
  have H : Hid (Tx w v ss) := h
  clear hm
  by_cases hok : okD ss
  · have HOK : Hid (okD ss) := hok
    have hli : (ss.length : Int) ≤ 2000 := by have := hok.1; omega
    have HR : Hid (∀ w', Below w.heap.size w w' → Calls Tryd.prog 13 #[v] w' fun e w'' => e = .returned (.tuple #[.string (rootB ss), .int .i64 0]) ∧ Below w'.heap.size w' w'') := fun w' hb => Root_yes v ss w' (H.out.up hb) HOK.out (HM.out.up hb)
    have HI : Hid (∀ w, Calls Tryd.prog 15 #[.string (rootB ss)] w fun e w' => e = .returned (.bool true) ∧ w' = w) := fun w => by
      have := Is_any (rootB ss) w
      rwa [show digOk (rootB ss) = true from rootF_dig _ _] at this
    by_cases h2 : 2 ≤ ss.length
    · have h2i : (2 : Int) ≤ (ss.length : Int) := by omega
      rcases h.2 with ⟨h0, _⟩ | ⟨_, g, o, cap, rfl, hc, hrow⟩
      · rw [h0] at h2; simp at h2
      have hl := side_lt ss.length h2
      have hp := side_pos ss.length
      have hsp := rootB_split ss h2
      have HH : Hid (∀ w, Calls Tryd.prog 14 #[.int .i64 ss.length] w fun e w' => e = .returned (.int .i64 (side ss.length : Nat)) ∧ w' = w) := fun w => Half_any ss.length w (by have := hok.1; omega)
      generalize side ss.length = k at hl hp hsp HH
      have e1 : (ss.take k).length = k := by rw [List.length_take]; omega
      have e2 : (ss.drop k).length = ss.length - k := List.length_drop ..
      have o1 : okD (ss.take k) := ⟨by have := hok.1; omega, fun s hs => hok.2 s (List.mem_of_mem_take hs)⟩
      have o2 : okD (ss.drop k) := ⟨by have := hok.1; omega, fun s hs => hok.2 s (List.mem_of_mem_drop hs)⟩
      have hl0 := h.1
      have T1 : Tx w (.slice (some ⟨g, o, none⟩) k cap) (ss.take k) := ⟨by omega, Or.inr ⟨by omega, g, o, cap, by rw [e1], by omega, hrow.take k⟩⟩
      have T2 : Tx w (.slice (some ⟨g, o + k, none⟩) (ss.length - k) (cap - k)) (ss.drop k) := ⟨by omega, Or.inr ⟨by omega, g, o + k, cap - k, by rw [e2], by omega, hrow.drop k⟩⟩
      have HR1 : Hid (∀ w', Below w.heap.size w w' → Calls Tryd.prog 13 #[.slice (some ⟨g, o, none⟩) k cap] w' fun e w'' => e = .returned (.tuple #[.string (rootB (ss.take k)), .int .i64 0]) ∧ Below w'.heap.size w' w'') := fun w' hb => Root_yes _ _ w' (T1.up hb) o1 (HM.out.up hb)
      have HR2 : Hid (∀ w', Below w.heap.size w w' → Calls Tryd.prog 13 #[.slice (some ⟨g, o + k, none⟩) (ss.length - k) (cap - k)] w' fun e w'' => e = .returned (.tuple #[.string (rootB (ss.drop k)), .int .i64 0]) ∧ Below w'.heap.size w' w'') := fun w' hb => Root_yes _ _ w' (T2.up hb) o2 (HM.out.up hb)
      have HP : Hid (∀ w', Below w.heap.size w w' → Calls Tryd.prog 9 #[.string (rootB (ss.take k)), .string (rootB (ss.drop k))] w' fun e w'' => e = .returned (.tuple #[.string (rootB ss), .int .i64 0]) ∧ Below w'.heap.size w' w'') := fun w' hb => by
        rw [hsp]
        exact Pair_yes _ _ w' (rootF_dig _ _) (rootF_dig _ _) (HM.out.up hb)
      have hs1 := cut_front g o ss.length cap k (by omega) hc
      have hs2 := cut_back g o ss.length cap k hl hc
      generalize rootB (ss.take k) = r1 at HR1 HP
      generalize rootB (ss.drop k) = r2 at HR2 HP
      generalize rootB ss = r at HP HR HI
      clear hsp e1 e2 o1 o2 T1 T2 hrow hok h hl0
      go_enter Tryd.func5, Tryd.ntmps5
      go_wp2_with fail
      refine (digestBegun_any w HM.out).mono ?_
      rintro e w1 ⟨rfl, hb1⟩
      have B1 : Hid (Below w.heap.size w w1) := hb1
      clear hb1
      go_wp2_with fail
      refine (HR.out w1 B1.out).mono ?_
      rintro e w2 ⟨rfl, hb2⟩
      have B2 : Hid (Below w.heap.size w w2) := B1.out.trans (hb2.mono B1.out.size)
      clear hb2
      go_wp2_with fail
      refine (HH.out w2).mono ?_
      rintro e w2' ⟨rfl, rfl⟩
      go_wp2_with fail
      refine (HR1.out _ B2.out).mono ?_
      rintro e w3 ⟨rfl, hb3⟩
      have B3 : Hid (Below w.heap.size w w3) := B2.out.trans (hb3.mono B2.out.size)
      clear hb3
      go_wp2_with fail
      refine (HR2.out _ B3.out).mono ?_
      rintro e w4 ⟨rfl, hb4⟩
      have B4 : Hid (Below w.heap.size w w4) := B3.out.trans (hb4.mono B3.out.size)
      clear hb4
      go_wp2_with fail
      refine (HP.out _ B4.out).mono ?_
      rintro e w5 ⟨rfl, hb5⟩
      have B5 : Hid (Below w.heap.size w w5) := B4.out.trans (hb5.mono B4.out.size)
      clear hb5
      go_wp2_with fail
      refine (HI.out w5).mono ?_
      rintro e w6 ⟨rfl, rfl⟩
      go_wp2
      go_ret
      exact ⟨by simp, B5.out⟩
    · have h2i : (ss.length : Int) < 2 := by omega
      obtain ⟨a, cap, rfl⟩ := h.shape
      generalize rootB ss = r at HR HI
      clear hok h h2
      go_enter Tryd.func5, Tryd.ntmps5
      go_wp2_with fail
      refine (digestBegun_any w HM.out).mono ?_
      rintro e w1 ⟨rfl, hb1⟩
      have B1 : Hid (Below w.heap.size w w1) := hb1
      clear hb1
      go_wp2_with fail
      refine (HR.out w1 B1.out).mono ?_
      rintro e w2 ⟨rfl, hb2⟩
      have B2 : Hid (Below w.heap.size w w2) := B1.out.trans (hb2.mono B1.out.size)
      clear hb2
      go_wp2
      go_ret
      exact ⟨rfl, B2.out⟩
  · have HR : Hid (∀ w', Below w.heap.size w w' → Calls Tryd.prog 13 #[v] w' fun e w'' => e = .returned (.tuple #[.string ⟨#[]⟩, .int .i64 2]) ∧ w'' = w') := fun w' hb => Root_no v ss w' (H.out.up hb) hok
    obtain ⟨a, cap, rfl⟩ := h.shape
    clear hok h
    go_enter Tryd.func5, Tryd.ntmps5
    go_wp2_with fail
    refine (digestBegun_any w HM.out).mono ?_
    rintro e w1 ⟨rfl, hb1⟩
    have B1 : Hid (Below w.heap.size w w1) := hb1
    clear hb1
    go_wp2_with fail
    refine (HR.out w1 B1.out).mono ?_
    rintro e w2 ⟨rfl, rfl⟩
    go_wp2
    go_ret
    exact ⟨rfl, B1.out⟩

set_option maxRecDepth 100000 in
/-- A slice of texts that came in. -/
theorem arg_tx {H : Type} {enc : TypeId × Value → H} {W : World} {v : Value} {d : DataW H} {p : List MemPlace} {base : Nat}
    (hv : Value.okWide Tryd.prog W .any base 31 v) (h : DataW.Trod enc Tryd.prog W 0 (fun _ => true) true 31 v d p) (hr : ∀ elems sp, d = .slice elems sp → elems.length ≤ 4611686018427387904) : ∃ ss, Tx W v ss := by
  obtain ⟨a, len, cap, rfl⟩ := okWide_slice Tryd.underlying31 hv
  obtain ⟨fuel, hf⟩ := h
  rcases open_strings Tryd.underlying31 Tryd.underlying9 (by kernel_rfl) hf with ⟨hcs, _⟩ | ⟨x, l, c, ss, hcs, _, hl, hm, hz, hx, hcell, hws⟩
  · simp [Value.cells] at hcs
    obtain ⟨rfl, rfl, rfl⟩ := hcs
    exact ⟨[], by decide, Or.inl ⟨rfl, none, 0, rfl⟩⟩
  · simp [Value.cells] at hcs
    obtain ⟨rfl, rfl, rfl⟩ := hcs
    have hz' : ss.length = cap := by simpa using hz
    have hlen : (ss.take len).length = len := by rw [List.length_take]; omega
    have hb : len ≤ 4611686018427387904 := by
      have := hr _ _ (congrArg Prod.fst hx)
      simp [Go.ChangeShapes.strs] at this
      omega
    by_cases h0 : len = 0
    · exact ⟨[], by decide, Or.inl ⟨rfl, some x, cap, by rw [h0]⟩⟩
    · refine ⟨ss.take len, by rw [hlen]; exact hb, Or.inr ⟨by omega, ?_⟩⟩
      obtain ⟨b, off, spot⟩ := x
      have hspot : spot = none := by simpa [Addr.add] using World.cell?_spot (hcell 0 (by omega))
      subst hspot
      refine ⟨b, off, cap, by rw [hlen], by omega, fun j hj => ?_⟩
      rw [hlen] at hj
      rw [← Go.WideShapes.add_plain, hcell j (by omega)]
      simp [List.getD, List.getElem?_eq_getElem (show j < ss.length by omega)]
theorem arg_len {H : Type} {ts : List TypeId} {ds : List (DataW H)} (hsz : (DataW.weightsEach Tryd.prog ts ds).all (· ≤ reachBytes) = true) (j : Nat) (d : DataW H) (ht : ts[j]? = some 31) (hd : ds[j]? = some d) :
    ∀ elems sp, d = .slice elems sp → elems.length ≤ 4611686018427387904 := fun elems sp he => by
  have h1 := sized_slice hsz (j := j) (t := 31) ht (by rw [hd, he]) Tryd.underlying31
  have h2 := reachBytes_lt
  rw [bytesS] at h1
  omega

set_option maxRecDepth 100000 in
theorem spl_lifted (os : Os) (started : os.Started) (H : Type) (enc : TypeId × Value → H) :
    ReturnsInHanded {} Tryd.checked os 5 .any (fun w args => (Rows.digestSplitsSpec.pre enc Tryd.prog Tryd.f5 Rows.digestSplitsRow.domain false w args ∧ laidMetH Tryd.prog Rows.digestSplitsRow.laid w) ∧ sizedMet enc Tryd.prog Tryd.f5 (OpenSpec.ofChange Rows.digestSplitsSpec) false w args)
      (Rows.digestSplitsSpec.post enc Tryd.prog Tryd.f5 false true false false) := by
  refine returns_laid own started (by kernel_rfl) Tryd.func5
    (ChangeSpec.witness_shaped (enc := enc) (C := Tryd.checked) (os := os) (X := fun w _ => laidMetH Tryd.prog Rows.digestSplitsRow.laid w) false (World.laidAll Tryd.prog os Rows.digestSplitsRow.laid) #[.slice none 0 0] 8 (World.laidAll_os _ _ _)
      (World.shaped_of_ZipB (by kernel_rfl) (by kernel_rfl)) (by kernel_rfl) (by kernel_rfl) (by kernel_rfl)
      (by rw [MakeChecks.laidMetH_plain _ _ _ (by kernel_rfl)]; exact laidMet_laidAll _ (by kernel_rfl) (by kernel_rfl))) ?_
  intro W base args ds gs before hval0 hW hsz0 lies _
  have hval : ∀ (j : Nat) t v, Tryd.f5.params[j]? = some t → args[j]? = some v → Value.okWide Tryd.prog W .any base t v := hval0
  have hW' := hW
  obtain ⟨p, q, hA0, hV, rfl, hfz, hnd⟩ := hW
  have hA : DataW.TrodAll enc Tryd.prog W 0 (fun _ => true) true Tryd.f5.params.toList args.toList ds p := hA0
  have hsz : (DataW.weightsEach Tryd.prog (Tryd.f5.params.toList ++ Rows.digestSplitsSpec.plain.varTypes Tryd.prog) (ds ++ gs)).all (· ≤ reachBytes) = true := hsz0
  rw [Tryd.params5] at hA hval hsz
  obtain ⟨v0, d0, rfl, rfl, h0⟩ := trodAll_one hA
  obtain ⟨rfl, rfl⟩ := trodVars_none hV
  obtain ⟨ss, ht⟩ := arg_tx (hval 0 31 v0 rfl rfl) h0 (arg_len hsz 0 d0 rfl rfl)
  have lt0 : ∀ x ∈ p, x.block < W.heap.size := by obtain ⟨m, hm⟩ := h0; exact DataW.trod_lt m _ _ _ hm
  clear hA0 hval0
  refine (spl_walk v0 ss W ht (roots_of_laid lies)).mono fun e W' ⟨he, bel⟩ => ?_
  subst he
  exact ⟨_, rfl, _, _, _, [], _, [], hW', trodAll_mk1 (shut_bool Tryd.underlying4 _), trodAll_mk1 (Below.trod laidOut (by kernel_rfl) (of_decide_eq_true (by kernel_rfl)) h0 bel lt0), rfl, bel.frame _, fun h => by cases h⟩

theorem digestSplits_row : Rows.DigestSplitsSaid :=
  OpenClaim.holds_of_wide 5 Tryd.f5 rfl rfl rfl rfl rfl rfl rfl ⟨rfl, rfl, rfl, rfl, rfl⟩ rfl rfl rfl rfl rfl (by kernel_rfl) Tryd.func5 (by kernel_rfl)
    (of_decide_eq_true (by kernel_rfl)) (by unfold Func.isWrapper; first | (rw [if_pos (by decide +kernel)]; kernel_rfl) | (rw [if_neg (by decide +kernel)]; exact ⟨rfl, rfl⟩))
    (fun os started H enc _ => spl_lifted os started H enc)

theorem digestSplits_holds : Rows.DigestSplitsCardSaid :=
  Claim7.holds_tied_plain_at .later [] Rows.digestSplitsCard.laidKinds true Rows.digestSplitsCard.stood.harness false
    digestSplits_row (fun _ h => by cases h) (by kernel_rfl) (fun _ h => by cases h) digestSplits_row_tie rfl ⟨rfl, rfl⟩ (by kernel_rfl) rfl
    (fun f fn hf hfn => by
      obtain rfl : f = 5 := Option.some.inj ((show Tryd.prog.funcNamed Rows.digestSplitsRow.func = some 5 by kernel_rfl).symm.trans hf) |>.symm
      obtain rfl : fn = Tryd.f5 := (Option.some.inj (Tryd.func5.symm.trans hfn)).symm
      exact ⟨by kernel_rfl, fun j t ht => by
        rw [Tryd.params5] at ht
        have hm : t ∈ [31] := by simpa using Array.mem_of_getElem? ht
        have hall : ([31].all fun u => !Tryd.prog.wantsStandIn u) = true := by kernel_rfl
        exact (show Tryd.prog.wantsStandIn t = false by simpa using List.all_eq_true.1 hall t hm)⟩)
    (by kernel_rfl)
#print axioms digestSplits_holds
end Go.Proofs.YtohjmehfbdeboaaDoor
