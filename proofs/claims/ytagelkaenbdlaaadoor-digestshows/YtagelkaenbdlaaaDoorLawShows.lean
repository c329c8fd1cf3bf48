/- DigestShows holds, its two listed variables tied to the program's text: for all texts and numbers and every list of texts that can be read Shows answers just as the document's own function does, errors too, and the list reads behind the call as it read before; no condition of ours. -/
import Derived.Test.YtagelkaenbdlaaaDoorShS
import Derived.Test.YtagelkaenbdlaaaDoorShR
namespace Go.Proofs.YtagelkaenbdlaaaDoor
open Go.ChangeShapes Go.WideShapes Go.ChangeAt Go.RowKit
open Go.ChangeMaps (open_string shut_string)

theorem fiveAll {H : Type} {enc : TypeId × Value → H} {P : Program} {w : World} {base : Nat} {spare : Nat → Bool} {held : Bool} {t t' t'' t3 t4 : TypeId} {args : Array Value} {ds : List (DataW H)} {ps : List MemPlace} (h : DataW.TrodAll enc P w base spare held [t, t', t'', t3, t4] args.toList ds ps) :
    ∃ v v' v'' v3 v4 d d' d'' d3 d4 p p' p'' p3 p4, args = #[v, v', v'', v3, v4] ∧ ds = [d, d', d'', d3, d4] ∧ ps = p ++ p' ++ p'' ++ p3 ++ p4 ∧ DataW.Trod enc P w base spare held t v d p ∧ DataW.Trod enc P w base spare held t' v' d' p' ∧ DataW.Trod enc P w base spare held t'' v'' d'' p'' ∧ DataW.Trod enc P w base spare held t3 v3 d3 p3 ∧ DataW.Trod enc P w base spare held t4 v4 d4 p4 := by
  obtain ⟨v, vs, d, ds', p, q, hargs, rfl, rfl, hd, hrest⟩ := trodAll_cons h
  obtain ⟨v', vs', d', ds'', p', q', rfl, rfl, rfl, hd', hrest'⟩ := trodAll_cons hrest
  obtain ⟨v'', vs'', d'', ds''', p'', q'', rfl, rfl, rfl, hd'', hrest''⟩ := trodAll_cons hrest'
  obtain ⟨v3, vs3, d3, ds3, p3, q3, rfl, rfl, rfl, hd3, hrest3⟩ := trodAll_cons hrest''
  obtain ⟨v4, vs4, d4, ds4, p4, q4, rfl, rfl, rfl, hd4, hrest4⟩ := trodAll_cons hrest3
  obtain ⟨rfl, rfl, rfl⟩ := trodAll_nil hrest4
  exact ⟨v, v', v'', v3, v4, d, d', d'', d3, d4, p, p', p'', p3, p4, by cases args; simp_all, rfl, by simp, hd, hd', hd'', hd3, hd4⟩
theorem fiveMk {H : Type} {enc : TypeId × Value → H} {P : Program} {w : World} {base : Nat} {spare : Nat → Bool} {held : Bool} {t t' t'' t3 t4 : TypeId} {v v' v'' v3 v4 : Value} {d d' d'' d3 d4 : DataW H} {p p' p'' p3 p4 : List MemPlace} (h : DataW.Trod enc P w base spare held t v d p) (h' : DataW.Trod enc P w base spare held t' v' d' p')
    (h'' : DataW.Trod enc P w base spare held t'' v'' d'' p'') (h3 : DataW.Trod enc P w base spare held t3 v3 d3 p3) (h4 : DataW.Trod enc P w base spare held t4 v4 d4 p4) : DataW.TrodAll enc P w base spare held [t, t', t'', t3, t4] [v, v', v'', v3, v4] [d, d', d'', d3, d4] (p ++ (p' ++ (p'' ++ (p3 ++ p4)))) := ⟨p, p' ++ (p'' ++ (p3 ++ p4)), h, trodAll_mk4 h' h'' h3 h4, rfl⟩

/-- How far it is of digests alone. -/
def allN (ps : List ByteArray) (k : Nat) : Bool := allD (ps.take k)
theorem allN_succ (ps : List ByteArray) (k : Nat) (h : k < ps.length) : allN ps (k + 1) = (allN ps k && digOk ps[k]) := by
  unfold allN allD
  rw [List.take_succ_eq_append_getElem h, List.all_append]
  simp

/-- What stands behind the loop, in each of the statement's cases. -/
def showW (r t : ByteArray) (i n : Int) (ps : List ByteArray) : Int :=
  if (digOk r && allD ps) = false then 1 else if ¬ (t.size ≤ 100000 ∧ 1 ≤ n ∧ n ≤ 2000) then 2 else if ¬ (0 ≤ i ∧ i < n) then 3 else 0

set_option maxHeartbeats 4000000 in
set_option maxRecDepth 100000 in
/-- The statement's own loop, and what stands behind it. -/
theorem shows_law (r t : ByteArray) (i n : Int) (v : Value) (ps : List ByteArray) (w : World) (h : Tx w v ps) (hrz : r.size ≤ maxLen) (hpz : ∀ s ∈ ps, s.size ≤ maxLen) (hm : Roots w) (b : Bool) (c : Int)
    (HP : Calls Tryd.prog 19 #[.string r, .string t, .int .i64 i, .int .i64 n, v] w fun e w' => e = .returned (.tuple #[.bool b, .int .i64 c]) ∧ Below w.heap.size w w')
    (hc : c = showW r t i n ps) (hb : c ≠ 0 → b = false)
    (HD : c = 0 → ∀ Y, Below w.heap.size w Y → Calls Tryd.prog 21 #[.string r, .string t, .int .i64 i, .int .i64 n, v] Y fun e w' => e = .returned (.bool b) ∧ Below Y.heap.size Y w') :
    Calls Tryd.prog 6 #[.string r, .string t, .int .i64 i, .int .i64 n, v] w fun e w' => e = .returned (.bool true) ∧ Below w.heap.size w w' := by
  have HM : Hid (Roots w) := hm
  have HPh : Hid (Calls Tryd.prog 19 #[.string r, .string t, .int .i64 i, .int .i64 n, v] w fun e w' => e = .returned (.tuple #[.bool b, .int .i64 c]) ∧ Below w.heap.size w w') := HP
  have HDh : Hid (c = 0 → ∀ Y, Below w.heap.size w Y → Calls Tryd.prog 21 #[.string r, .string t, .int .i64 i, .int .i64 n, v] Y fun e w' => e = .returned (.bool b) ∧ Below Y.heap.size Y w') := HD
  have HCh : Hid (c = showW r t i n ps) := hc
  have HBh : Hid (c ≠ 0 → b = false) := hb
  have HI : Hid (∀ Y, Calls Tryd.prog 20 #[.string r] Y fun e w' => e = .returned (.bool (digOk r)) ∧ w' = Y) := fun Y => RIsDigest_any r Y hrz
  have HX : Hid (Tx w v ps) := h
  have HZ : Hid (∀ s ∈ ps, s.size ≤ maxLen) := hpz
  have hll : (ps.length : Int) ≤ 4611686018427387904 := by have := h.1; omega
  obtain ⟨a, cap, hv⟩ := h.shape
  subst hv
  clear hm h HP HD hc hb hpz hrz
  go_enter Tryd.func6, Tryd.ntmps6
  go_wp2_with fail
  refine HPh.out.mono ?_
  rintro e w1 ⟨rfl, hb1⟩
  have B1 : Hid (Below w.heap.size w w1) := hb1
  clear hb1 HPh
  go_wp2_with fail
  refine (HI.out _).mono ?_
  rintro e w' ⟨rfl, rfl⟩
  go_wp2
  go_loop [14, 15] (fun f k => ∃ m : Nat, m ≤ ps.length ∧ k = .int .i64 m ∧ f = .bool (digOk r && allN ps m)) (fun _ k => ps.length - (intOf k).toNat)
  case atStart => exact ⟨0, by omega, rfl, by simp [allN, allD]⟩
  case round =>
    obtain ⟨m, hmm, rfl, rfl⟩ := hrel
    clear HI
    by_cases hlt : m < ps.length
    · have hki : (m : Int) < (ps.length : Int) := by omega
      have hs := allN_succ ps m hlt
      have HIk : Hid (∀ Y, Calls Tryd.prog 20 #[.string ps[m]] Y fun e w' => e = .returned (.bool (digOk ps[m])) ∧ w' = Y) := fun Y => RIsDigest_any _ Y (HZ.out _ (List.getElem_mem hlt))
      rcases HX.out.2 with ⟨rfl, _⟩ | ⟨h0, g, o, cap', hv', hc, hrow⟩
      · simp at hlt
      · injection hv' with e1 e2 e3
        subst e1
        subst e3
        have c0 := (hrow.up B1.out (World.block_lt_of_cell? w ⟨g, o + 0, none⟩ (hrow 0 h0))) m hlt
        have HS : Hid ((digOk r && allN ps (m + 1)) = ((digOk r && allN ps m) && digOk ps[m])) := by show _ = _; rw [hs, Bool.and_assoc]
        generalize digOk ps[m] = q at HIk HS
        generalize ps[m] = x at c0 HIk
        cases hf : (digOk r && allN ps m) with
        | true =>
          rw [hf, Bool.true_and] at HS
          clear hf hs hrow
          go_wp2_with fail
          refine (HIk.out _).mono ?_
          rintro e w' ⟨rfl, rfl⟩
          go_wp2
          refine ⟨⟨m + 1, by omega, by go_num, by rw [HS.out]⟩, by simp [intOf]; omega⟩
        | false =>
          rw [hf, Bool.false_and] at HS
          clear hf hs hrow
          go_wp2
          refine ⟨⟨m + 1, by omega, by go_num, by rw [HS.out]⟩, by simp [intOf]; omega⟩
    · obtain rfl : m = ps.length := by omega
      rw [show allN ps ps.length = allD ps from by unfold allN; rw [List.take_length]]
      clear HX HZ hlt hmm
      generalize ps.length = m at *
      cases hA : (digOk r && allD ps) with
      | false =>
        have hc1 : c = 1 := by rw [HCh.out]; unfold showW; rw [if_pos hA]
        have hb1 : b = false := HBh.out (by omega)
        subst hc1
        subst hb1
        clear HCh HBh HDh hA
        go_wp2_with fail
        refine (digestBegun_any _ (HM.out.up B1.out)).mono ?_
        rintro e w3 ⟨rfl, hb3⟩
        have B3 : Hid (Below w.heap.size w w3) := bl_tr B1.out hb3
        clear hb3
        go_wp2
        go_ret
        exact ⟨by simp, B3.out⟩
      | true =>
        have hA' : ¬ (digOk r && allD ps) = false := by rw [hA]; simp
        by_cases hB : t.size ≤ 100000 ∧ 1 ≤ n ∧ n ≤ 2000
        · obtain ⟨ht, hn1, hn2⟩ := hB
          have hti : (t.size : Int) ≤ 100000 := by omega
          by_cases hC : 0 ≤ i ∧ i < n
          · have hc1 : c = 0 := by rw [HCh.out]; unfold showW; rw [if_neg hA', if_neg (fun h => h ⟨ht, hn1, hn2⟩), if_neg (fun h => h hC)]
            have HS : Hid (∀ Y, Below w.heap.size w Y → Calls Tryd.prog 21 #[.string r, .string t, .int .i64 i, .int .i64 n, .slice a m cap] Y fun e w' => e = .returned (.bool b) ∧ Below Y.heap.size Y w') := HDh.out hc1
            subst hc1
            obtain ⟨hi1, hi2⟩ := hC
            clear HCh HBh HDh hA hA' ht
            go_wp2_with fail
            refine (digestBegun_any _ (HM.out.up B1.out)).mono ?_
            rintro e w3 ⟨rfl, hb3⟩
            have B3 : Hid (Below w.heap.size w w3) := bl_tr B1.out hb3
            clear hb3
            go_wp2_with fail
            refine (HS.out _ B3.out).mono ?_
            rintro e w4 ⟨rfl, hb4⟩
            have B4 : Hid (Below w.heap.size w w4) := bl_tr B3.out hb4
            clear hb4
            go_wp2
            go_ret
            exact ⟨by simp, B4.out⟩
          · have hc1 : c = 3 := by rw [HCh.out]; unfold showW; rw [if_neg hA', if_neg (fun h => h ⟨ht, hn1, hn2⟩), if_pos hC]
            have hb1 : b = false := HBh.out (by omega)
            subst hc1
            subst hb1
            clear HCh HBh HDh hA hA' ht
            by_cases hi1 : i < 0
            · clear hC
              go_wp2_with fail
              refine (digestBegun_any _ (HM.out.up B1.out)).mono ?_
              rintro e w3 ⟨rfl, hb3⟩
              have B3 : Hid (Below w.heap.size w w3) := bl_tr B1.out hb3
              clear hb3
              go_wp2
              go_ret
              exact ⟨by simp, B3.out⟩
            · have hi2 : 0 ≤ i := by omega
              have hi3 : n ≤ i := by omega
              clear hC hi1
              go_wp2_with fail
              refine (digestBegun_any _ (HM.out.up B1.out)).mono ?_
              rintro e w3 ⟨rfl, hb3⟩
              have B3 : Hid (Below w.heap.size w w3) := bl_tr B1.out hb3
              clear hb3
              go_wp2
              go_ret
              exact ⟨by simp, B3.out⟩
        · have hc1 : c = 2 := by rw [HCh.out]; unfold showW; rw [if_neg hA', if_pos hB]
          have hb1 : b = false := HBh.out (by omega)
          subst hc1
          subst hb1
          clear HCh HBh HDh hA hA'
          by_cases ht : t.size ≤ 100000
          · have hti : (t.size : Int) ≤ 100000 := by omega
            by_cases hn1 : n < 1
            · clear hB ht
              go_wp2_with fail
              refine (digestBegun_any _ (HM.out.up B1.out)).mono ?_
              rintro e w3 ⟨rfl, hb3⟩
              have B3 : Hid (Below w.heap.size w w3) := bl_tr B1.out hb3
              clear hb3
              go_wp2
              go_ret
              exact ⟨by simp, B3.out⟩
            · have hn2 : 1 ≤ n := by omega
              have hn3 : 2000 < n := by omega
              clear hB ht hn1
              go_wp2_with fail
              refine (digestBegun_any _ (HM.out.up B1.out)).mono ?_
              rintro e w3 ⟨rfl, hb3⟩
              have B3 : Hid (Below w.heap.size w w3) := bl_tr B1.out hb3
              clear hb3
              go_wp2
              go_ret
              exact ⟨by simp, B3.out⟩
          · have hti : (100000 : Int) < (t.size : Int) := by omega
            clear hB ht
            go_wp2_with fail
            refine (digestBegun_any _ (HM.out.up B1.out)).mono ?_
            rintro e w3 ⟨rfl, hb3⟩
            have B3 : Hid (Below w.heap.size w w3) := bl_tr B1.out hb3
            clear hb3
            go_wp2
            go_ret
            exact ⟨by simp, B3.out⟩

theorem shw_walk (r t : ByteArray) (i n : Int) (v : Value) (ps : List ByteArray) (w : World) (h : Tx w v ps) (hrz : r.size ≤ maxLen) (hpz : ∀ s ∈ ps, s.size ≤ maxLen) (hm : Roots w) :
    Calls Tryd.prog 6 #[.string r, .string t, .int .i64 i, .int .i64 n, v] w fun e w' => e = .returned (.bool true) ∧ Below w.heap.size w w' := by
  cases hA : (digOk r && allD ps) with
  | false =>
    exact shows_law r t i n v ps w h hrz hpz hm false 1 ((Shows_form r t i n v ps w h hA).mono fun e w' ⟨a, b⟩ => ⟨a, by rw [b]; exact Below.refl _ _⟩) (by unfold showW; rw [if_pos hA]) (fun _ => rfl) (fun h => by cases h)
  | true =>
    have hA' : ¬ (digOk r && allD ps) = false := by rw [hA]; simp
    obtain ⟨h1, h2⟩ : digOk r = true ∧ allD ps = true := by simpa using hA
    by_cases hB : t.size ≤ 100000 ∧ 1 ≤ n ∧ n ≤ 2000
    · by_cases hC : 0 ≤ i ∧ i < n
      · obtain ⟨i', rfl⟩ : ∃ i' : Nat, i = i' := ⟨i.toNat, by omega⟩
        obtain ⟨n', rfl⟩ : ∃ n' : Nat, n = n' := ⟨n.toNat, by omega⟩
        exact shows_law r t i' n' v ps w h hrz hpz hm (showsB r t i' n' ps) 0 (Shows_yes r t i' n' v ps w h h1 h2 hB.1 (by omega) (by omega) hm) (by unfold showW; rw [if_neg hA', if_neg (fun h => h hB), if_neg (fun h => h hC)]) (fun h => absurd rfl h)
          (fun _ Y hY => ShowsOf_any r t i' n' v ps Y (by omega) (by omega) hB.1 (h.up hY) (List.all_eq_true.1 h2))
      · exact shows_law r t i n v ps w h hrz hpz hm false 3 ((Shows_range r t i n v ps w h h1 h2 hB.1 hB.2.1 hB.2.2 hC).mono fun e w' ⟨a, b⟩ => ⟨a, by rw [b]; exact Below.refl _ _⟩) (by unfold showW; rw [if_neg hA', if_neg (fun h => h hB), if_pos hC]) (fun _ => rfl) (fun h => by cases h)
    · exact shows_law r t i n v ps w h hrz hpz hm false 2 ((Shows_many r t i n v ps w h h1 h2 hB).mono fun e w' ⟨a, b⟩ => ⟨a, by rw [b]; exact Below.refl _ _⟩) (by unfold showW; rw [if_neg hA', if_pos hB]) (fun _ => rfl) (fun h => by cases h)

set_option maxRecDepth 100000 in
/-- A slice of texts that came in, no text too long for a number. -/
theorem arg_txs {H : Type} {enc : TypeId × Value → H} {W : World} {v : Value} {d : DataW H} {p : List MemPlace} {base : Nat}
    (hv : Value.okWide Tryd.prog W .any base 25 v) (h : DataW.Trod enc Tryd.prog W 0 (fun _ => true) true 25 v d p) (hr : ∀ elems sp, d = .slice elems sp → elems.length ≤ 4611686018427387904) : ∃ ss, Tx W v ss ∧ ∀ s ∈ ss, s.size ≤ maxLen := by
  obtain ⟨a, len, cap, rfl⟩ := okWide_slice Tryd.underlying25 hv
  obtain ⟨fuel, hf⟩ := h
  rcases open_strings Tryd.underlying25 Tryd.underlying9 (by kernel_rfl) hf with ⟨hcs, _⟩ | ⟨x, l, c, ss, hcs, _, hl, hm, hz, hx, hcell, hws⟩
  · simp [Value.cells] at hcs
    obtain ⟨rfl, rfl, rfl⟩ := hcs
    exact ⟨[], ⟨by decide, Or.inl ⟨rfl, none, 0, rfl⟩⟩, by simp⟩
  · simp [Value.cells] at hcs
    obtain ⟨rfl, rfl, rfl⟩ := hcs
    have hz' : ss.length = cap := by simpa using hz
    have hlen : (ss.take len).length = len := by rw [List.length_take]; omega
    have hb : len ≤ 4611686018427387904 := by
      have := hr _ _ (congrArg Prod.fst hx)
      simp [Go.ChangeShapes.strs] at this
      omega
    by_cases h0 : len = 0
    · exact ⟨[], ⟨by decide, Or.inl ⟨rfl, some x, cap, by rw [h0]⟩⟩, by simp⟩
    · refine ⟨ss.take len, ⟨by rw [hlen]; exact hb, Or.inr ⟨by omega, ?_⟩⟩, fun s hs => hws s (List.mem_of_mem_take hs)⟩
      obtain ⟨b, off, spot⟩ := x
      have hspot : spot = none := by simpa [Addr.add] using World.cell?_spot (hcell 0 (by omega))
      subst hspot
      refine ⟨b, off, cap, by rw [hlen], by omega, fun j hj => ?_⟩
      rw [hlen] at hj
      rw [← Go.WideShapes.add_plain, hcell j (by omega)]
      simp [List.getD, List.getElem?_eq_getElem (show j < ss.length by omega)]

set_option maxRecDepth 100000 in
theorem shw_lifted (os : Os) (started : os.Started) (H : Type) (enc : TypeId × Value → H) :
    ReturnsInHanded {} Tryd.checked os 6 .any (fun w args => (Rows.digestShowsSpec.pre enc Tryd.prog Tryd.f6 Rows.digestShowsRow.domain false w args ∧ laidMetH Tryd.prog Rows.digestShowsRow.laid w) ∧ sizedMet enc Tryd.prog Tryd.f6 (OpenSpec.ofChange Rows.digestShowsSpec) false w args)
      (Rows.digestShowsSpec.post enc Tryd.prog Tryd.f6 false true false false) := by
  refine returns_laid own started (by kernel_rfl) Tryd.func6
    (ChangeSpec.witness_shaped (enc := enc) (C := Tryd.checked) (os := os) (X := fun w _ => laidMetH Tryd.prog Rows.digestShowsRow.laid w) false (World.laidAll Tryd.prog os Rows.digestShowsRow.laid) #[.string ByteArray.empty, .string ByteArray.empty, .int .i64 0, .int .i64 0, .slice none 0 0] 8 (World.laidAll_os _ _ _)
      (World.shaped_of_ZipB (by kernel_rfl) (by kernel_rfl)) (by kernel_rfl) (by kernel_rfl) (by kernel_rfl)
      (by rw [MakeChecks.laidMetH_plain _ _ _ (by kernel_rfl)]; exact laidMet_laidAll _ (by kernel_rfl) (by kernel_rfl))) ?_
  intro W base args ds gs before hval0 hW hsz0 lies _
  have hval : ∀ (j : Nat) t v, Tryd.f6.params[j]? = some t → args[j]? = some v → Value.okWide Tryd.prog W .any base t v := hval0
  have hW' := hW
  obtain ⟨p, q, hA0, hV, rfl, hfz, hnd⟩ := hW
  have hA : DataW.TrodAll enc Tryd.prog W 0 (fun _ => true) true Tryd.f6.params.toList args.toList ds p := hA0
  have hsz : (DataW.weightsEach Tryd.prog (Tryd.f6.params.toList ++ Rows.digestShowsSpec.plain.varTypes Tryd.prog) (ds ++ gs)).all (· ≤ reachBytes) = true := hsz0
  rw [Tryd.params6] at hA hval hsz
  obtain ⟨v0, v1, v2, v3, v4, d0, d1, d2, d3, d4, p0, p1, p2, p3, p4, rfl, rfl, rfl, h0, h1, h2, h3, h4⟩ := fiveAll hA
  obtain ⟨rfl, rfl⟩ := trodVars_none hV
  obtain ⟨a0, rfl, rfl, rfl, w0⟩ := open_string Tryd.underlying9 (hval 0 9 v0 rfl rfl) h0
  obtain ⟨a1, rfl, rfl, rfl, w1⟩ := open_string Tryd.underlying9 (hval 1 9 v1 rfl rfl) h1
  obtain ⟨a2, rfl, rfl, rfl, w2⟩ := open_int Tryd.underlying3 (hval 2 3 v2 rfl rfl) h2
  obtain ⟨a3, rfl, rfl, rfl, w3⟩ := open_int Tryd.underlying3 (hval 3 3 v3 rfl rfl) h3
  obtain ⟨ss, ht, hss⟩ := arg_txs (hval 4 25 v4 rfl rfl) h4 (arg_len hsz 4 d4 rfl rfl)
  have hr : a0.size ≤ maxLen := by
    have h2 := sized_string hsz (j := 0) (t := 9) rfl rfl
    have h3 := reachBytes_lt
    rw [← d_size (s := a0) rfl] at h2
    unfold maxLen
    omega
  have lt4 : ∀ x ∈ p4, x.block < W.heap.size := by obtain ⟨m, hm⟩ := h4; exact DataW.trod_lt m _ _ _ hm
  clear hA0 hval0
  refine (shw_walk a0 a1 a2 a3 v4 ss W ht hr hss (roots_of_laid lies)).mono fun e W' ⟨he, bel⟩ => ?_
  subst he
  exact ⟨_, rfl, _, _, _, [], _, [], hW', trodAll_mk1 (shut_bool Tryd.underlying4 _), fiveMk (shut_string Tryd.underlying9 w0) (shut_string Tryd.underlying9 w1) (shut_int Tryd.underlying3 w2) (shut_int Tryd.underlying3 w3) (Below.trod laidOut (by kernel_rfl) (of_decide_eq_true (by kernel_rfl)) h4 bel lt4), rfl, bel.frame _, fun h => by cases h⟩

theorem digestShows_row : Rows.DigestShowsSaid :=
  OpenClaim.holds_of_wide 6 Tryd.f6 rfl rfl rfl rfl rfl rfl rfl ⟨rfl, rfl, rfl, rfl, rfl⟩ rfl rfl rfl rfl rfl (by kernel_rfl) Tryd.func6 (by kernel_rfl)
    (of_decide_eq_true (by kernel_rfl)) (by unfold Func.isWrapper; first | (rw [if_pos (by decide +kernel)]; kernel_rfl) | (rw [if_neg (by decide +kernel)]; exact ⟨rfl, rfl⟩))
    (fun os started H enc _ => shw_lifted os started H enc)

theorem digestShows_holds : Rows.DigestShowsCardSaid :=
  Claim7.holds_tied_plain_at .later [] Rows.digestShowsCard.laidKinds true Rows.digestShowsCard.stood.harness false
    digestShows_row (fun _ h => by cases h) (by kernel_rfl) (fun _ h => by cases h) digestShows_row_tie rfl ⟨rfl, rfl⟩ (by kernel_rfl) rfl
    (fun f fn hf hfn => by
      obtain rfl : f = 6 := Option.some.inj ((show Tryd.prog.funcNamed Rows.digestShowsRow.func = some 6 by kernel_rfl).symm.trans hf) |>.symm
      obtain rfl : fn = Tryd.f6 := (Option.some.inj (Tryd.func6.symm.trans hfn)).symm
      exact ⟨by kernel_rfl, fun j t ht => by
        rw [Tryd.params6] at ht
        have hm : t ∈ [9, 9, 3, 3, 25] := by simpa using Array.mem_of_getElem? ht
        have hall : ([9, 9, 3, 3, 25].all fun u => !Tryd.prog.wantsStandIn u) = true := by kernel_rfl
        exact (show Tryd.prog.wantsStandIn t = false by simpa using List.all_eq_true.1 hall t hm)⟩)
    (by kernel_rfl)
#print axioms digestShows_holds
end Go.Proofs.YtagelkaenbdlaaaDoor
