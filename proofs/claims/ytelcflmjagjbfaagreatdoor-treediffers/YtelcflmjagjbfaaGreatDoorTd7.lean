/- The document's look at two trees that differ. -/
import Derived.Test.YtelcflmjagjbfaaGreatDoorTd6
namespace Go.Proofs.YtelcflmjagjbfaaGreatDoor
open Go.RowKit Go.Shelf Go.Maps Go.WideMaps Go.Sort

/-- Where a path stands first. -/
def FaR (L : List Fl) (s : List UInt8) (i : Int) : Prop := (i = -1 ∧ ∀ f ∈ L, pth f ≠ s) ∨ ∃ (j : Nat) (hj : j < L.length), i = j ∧ pth L[j] = s ∧ ∀ j' (hj' : j' < L.length), j' < j → pth L[j'] ≠ s

set_option maxHeartbeats 4000000 in
set_option maxRecDepth 100000 in
theorem FileAt_any (ao : Option Addr) (ac : Nat) (L : List Fl) (s : ByteArray) (w : World) (hl : IsFl w ao L) (hn : L.length ≤ 4611686018427387904) :
    Calls Tryz.prog 21 #[.slice ao L.length ac, .string s] w fun e w' => ∃ i, e = .returned (.int .i64 i) ∧ FaR L s.data.toList i ∧ w' = w := by
  have HL : Hid (IsFl w ao L) := hl
  have hn1 : (L.length : Int) ≤ 4611686018427387904 := by omega
  clear hl
  go_enter Tryz.func21, Tryz.ntmps21
  go_wp2
  go_loopw [5] (fun i wr => ∃ k : Nat, k ≤ L.length ∧ i = .int .i64 k ∧ (∀ j (hj : j < L.length), j < k → pth L[j] ≠ s.data.toList) ∧ wr = w) (fun i _ => L.length - (intOf i).toNat)
  case atStart => exact ⟨0, by omega, rfl, fun j _ h => absurd h (Nat.not_lt_zero _), rfl⟩
  case round =>
    obtain ⟨k, hk, rfl, hq, rfl⟩ := hrel
    have HQ : Hid (∀ j (hj : j < L.length), j < k → pth L[j] ≠ s.data.toList) := hq
    clear hq
    by_cases hlt : k < L.length
    · rcases HL.out with h | ⟨g, o, rfl, hg, hc⟩
      · exfalso; rw [h] at hlt; exact absurd hlt (by simp)
      obtain ⟨c0, _, _⟩ := hc k hlt
      have hki : (k : Int) < (L.length : Int) := by omega
      have hpe : (L[k].pa.toList == s.toList) = decide (pth L[k] = s.data.toList) := eqL _ _
      clear hc
      by_cases hp : pth L[k] = s.data.toList
      · have HZ : Hid (FaR L s.data.toList k) := .inr ⟨k, hlt, rfl, hp, HQ.out⟩
        rw [decide_eq_true hp] at hpe
        clear hp
        go_wp2
        go_ret
        exact ⟨_, rfl, HZ.out, rfl⟩
      · have HZ : Hid (∀ j (hj : j < L.length), j < k + 1 → pth L[j] ≠ s.data.toList) := fun j hj h => by
          by_cases e : j < k
          · exact HQ.out j hj e
          · have e2 : j = k := by omega
            subst e2
            exact hp
        rw [decide_eq_false hp] at hpe
        clear hp
        go_wp2
        exact ⟨⟨k + 1, by omega, by go_num, HZ.out, trivial⟩, by simp [intOf]; omega⟩
    · obtain rfl : k = L.length := by omega
      have hki : ¬ (L.length : Int) < (L.length : Int) := by omega
      have HZ : Hid (FaR L s.data.toList (-1)) := .inl ⟨rfl, fun f hf => by
        obtain ⟨j, hj, rfl⟩ := List.mem_iff_getElem.1 hf
        exact HQ.out j hj hj⟩
      go_wp2
      go_ret
      exact ⟨_, rfl, HZ.out, rfl⟩

/-- The paths that were added when k of the files have been looked at. -/
def dtL (A C : List Fl) (k : Nat) : List (List UInt8) := addAll (othF (A.take k) C ++ othF (C.take (k - A.length)) A)
theorem dtL_a (A C : List Fl) (k : Nat) (hk : k < A.length) : dtL A C (k + 1) = if sameB (getF C (pth A[k])) A[k] = true then dtL A C k else insN (pth A[k]) (dtL A C k) := by
  unfold dtL
  rw [show k + 1 - A.length = 0 by omega, show k - A.length = 0 by omega, List.take_zero, List.take_succ_eq_append_getElem hk, othF_snoc]
  rw [show othF [] A = [] from rfl, List.append_nil, List.append_nil]
  split
  · rfl
  · rw [addAll_snoc]
theorem dtL_c (A C : List Fl) (k : Nat) (j : Nat) (hk : k = A.length + j) (hc : j < C.length) : dtL A C (k + 1) = if sameB (getF A (pth C[j])) C[j] = true then dtL A C k else insN (pth C[j]) (dtL A C k) := by
  unfold dtL
  rw [show k + 1 - A.length = j + 1 by omega, show k - A.length = j by omega, List.take_of_length_le (l := A) (i := k + 1) (by omega), List.take_of_length_le (l := A) (i := k) (by omega), List.take_succ_eq_append_getElem hc, othF_snoc]
  split
  · rfl
  · rw [← List.append_assoc, addAll_snoc]
theorem dtL_end (A C : List Fl) : dtL A C (A.length + C.length) = difF A C := by
  unfold dtL
  rw [List.take_of_length_le (by omega), List.take_of_length_le (by omega), dif_same]
theorem dtL_zero (A C : List Fl) : dtL A C 0 = [] := by
  unfold dtL
  rw [Nat.zero_sub]
  rfl
theorem dtL_len (A C : List Fl) (k : Nat) : (dtL A C k).length ≤ A.length + C.length := by
  unfold dtL
  refine Nat.le_trans (addAll_len _) ?_
  rw [List.length_append]
  have h1 := othF_len (A.take k) C
  have h2 := othF_len (C.take (k - A.length)) A
  have h3 : (A.take k).length ≤ A.length := by rw [List.length_take]; omega
  have h4 : (C.take (k - A.length)).length ≤ C.length := by rw [List.length_take]; omega
  omega
theorem insN_ne (s : List UInt8) (l : List (List UInt8)) : insN s l ≠ [] := fun e => by
  have := (insN_mem s s l).2 (.inl rfl)
  rw [e] at this
  cases this

/-- How it stands ahead of a round. -/
def DtI (A C : List Fl) (w : World) (ov i : Value) (wr : World) : Prop := ∃ k : Nat, k ≤ A.length + C.length ∧ i = .int .i64 k ∧ wr.ownsRow w.heap.size 9 1 ov (dtL A C k).length ((dtL A C k).map encStr) ∧ (dtL A C k = [] → ov = .slice none 0 0) ∧ Below w.heap.size w wr

set_option maxHeartbeats 16000000 in
set_option maxRecDepth 100000 in
theorem DiffersTree_any (ao co : Option Addr) (ac cc : Nat) (A C : List Fl) (w : World) (ha : IsFl w ao A) (hc : IsFl w co C) (hA : okT A) (hC : okT C) :
    Calls Tryz.prog 18 #[.slice ao A.length ac, .slice co C.length cc] w (TxP (difF A C) w) := by
  have HA : Hid (IsFl w ao A) := ha
  have HC : Hid (IsFl w co C) := hc
  have HFa : Hid (∀ (s : ByteArray) (W : World), Below w.heap.size w W → Calls Tryz.prog 21 #[.slice ao A.length ac, .string s] W fun e w' => ∃ i, e = .returned (.int .i64 i) ∧ FaR A s.data.toList i ∧ w' = W) := fun s W hW => FileAt_any ao ac A s W (ha.below hW (Nat.le_refl _)) (by have := hA.1; omega)
  have HFc : Hid (∀ (s : ByteArray) (W : World), Below w.heap.size w W → Calls Tryz.prog 21 #[.slice co C.length cc, .string s] W fun e w' => ∃ i, e = .returned (.int .i64 i) ∧ FaR C s.data.toList i ∧ w' = W) := fun s W hW => FileAt_any co cc C s W (hc.below hW (Nat.le_refl _)) (by have := hC.1; omega)
  have HNa : Hid (∀ f ∈ A, pth f ≠ []) := fun f hf => pathOk_ne (flE_pa (hA.2.1 f hf)).1
  have HNc : Hid (∀ f ∈ C, pth f ≠ []) := fun f hf => pathOk_ne (flE_pa (hC.2.1 f hf)).1
  have hn1 : (A.length : Int) ≤ 60 := by have := hA.1; omega
  have hn2 : (C.length : Int) ≤ 60 := by have := hC.1; omega
  clear ha hc hA hC
  go_enter Tryz.func18, Tryz.ntmps18
  go_wp2
  go_loopw [5, 6] (fun ov i wr => DtI A C w ov i wr) (fun _ i _ => A.length + C.length - (intOf i).toNat)
  case atStart => exact ⟨0, by omega, rfl, by rw [dtL_zero]; exact World.ownsRow_nil _ _ _ _, fun _ => rfl, Below.refl _ _⟩
  case round =>
    obtain ⟨k, hk, rfl, hrow, hnil, hb⟩ := hrel
    have hsz := hb.size
    have HB : Hid (Below w.heap.size w wr) := hb
    have hUl := dtL_len A C k
    by_cases hlt : k < A.length
    · have hlx : k < A.length := hlt
      have HDt : Hid (dtL A C (k + 1) = if sameB (getF C (pth A[k])) A[k] = true then dtL A C k else insN (pth A[k]) (dtL A C k)) := dtL_a A C k hlt
      have hki : (k : Int) < (A.length : Int) := by omega
      have hki2 : (k : Int) < (A.length : Int) + (C.length : Int) := by omega
      rcases HA.out.below hb (Nat.le_refl _) with h | ⟨g, o, rfl, hg, hc⟩
      · exfalso; rw [h] at hlx; exact absurd hlx (by simp)
      obtain ⟨c0, c1, c2⟩ := hc k hlx
      have HNx : Hid (pth A[k] ≠ []) := HNa.out _ (List.getElem_mem hlx)
      have HRow : Hid (wr.ownsRow w.heap.size 9 1 u5 (dtL A C k).length ((dtL A C k).map encStr)) := hrow
      have HNil : Hid (dtL A C k = [] → u5 = .slice none 0 0) := hnil
      clear hc hrow hnil
      generalize A[k] = x at *
      obtain ⟨xp, xt, xr⟩ := x
      simp only at *
      obtain ⟨B1, hB1⟩ : ∃ B1, B1 = wr.alloc (.cells #[.string xp, .string xt, .bool xr] 30) := ⟨_, rfl⟩
      have hbA : Below w.heap.size w B1 := by rw [hB1]; exact hb.alloc hsz _
      have hzA : B1.heap.size = wr.heap.size + 1 := by rw [hB1]; exact World.size_alloc _ _
      have hR1 : B1.ownsRow w.heap.size 9 1 u5 (dtL A C k).length ((dtL A C k).map encStr) := by rw [hB1]; exact HRow.out.alloc _
      have HRA : Hid (∀ n : Nat, (B1.drewN n).ownsRow w.heap.size 9 1 u5 (dtL A C k).length ((dtL A C k).map encStr) ∧ Below w.heap.size w (B1.drewN n)) := fun n => ⟨row_heap hR1 fun b hb => rfl, below_drewN hbA n⟩
      have HFx : Hid (Calls Tryz.prog 21 #[.slice co C.length cc, .string xp] B1 fun e w' => ∃ i, e = .returned (.int .i64 i) ∧ FaR C xp.data.toList i ∧ w' = B1) := HFc.out xp _ hbA
      have HAd : Hid (∀ n : Nat, Calls Tryz.prog 38 #[u5, .string xp] (B1.drewN n) (AdP w.heap.size u5 (dtL A C k) xp (B1.drewN n))) := fun n => AddText_any _ _ _ xp _ (HRA.out n).1 HNil.out (HRA.out n).2.size (by omega)
      have HMm : Hid (IsFl B1 co C) := HC.out.below hbA (Nat.le_refl _)
      have x0 : B1.cell? ⟨wr.heap.size, 0, none⟩ = some (.string xp) := by rw [hB1]; exact al_at wr _ _ _ 0 _ rfl rfl
      have x1 : B1.cell? ⟨wr.heap.size, 1, none⟩ = some (.string xt) := by rw [hB1]; exact al_at wr _ _ _ 1 _ rfl rfl
      have x2 : B1.cell? ⟨wr.heap.size, 2, none⟩ = some (.bool xr) := by rw [hB1]; exact al_at wr _ _ _ 2 _ rfl rfl
      clear hb hR1 hbA
      go_wp2_with fail
      rw [← hB1]
      clear hB1
      refine HFx.out.mono ?_
      rintro e w1 ⟨i, rfl, hfa, hw1⟩
      subst hw1
      clear HFx
      have stay : sameB (getF C (pth ⟨xp, xt, xr⟩)) ⟨xp, xt, xr⟩ = true → ∀ (n : Nat) (v : Value), v = .int .i64 ((k + 1 : Nat) : Int) → DtI A C w u5 v (w1.drewN n) := fun hs n v hv => by
        have e := HDt.out
        rw [if_pos hs] at e
        refine ⟨k + 1, by omega, hv, ?_, ?_, (HRA.out n).2⟩
        · rw [e]; exact (HRA.out n).1
        · rw [e]; exact HNil.out
      have more : ¬ sameB (getF C (pth ⟨xp, xt, xr⟩)) ⟨xp, xt, xr⟩ = true → ∀ (n : Nat) (v' : Value) (w' : World), w'.ownsRow w.heap.size 9 1 v' (insN xp.data.toList (dtL A C k)).length ((insN xp.data.toList (dtL A C k)).map encStr) → Below (w1.drewN n).heap.size (w1.drewN n) w' → ∀ (v : Value), v = .int .i64 ((k + 1 : Nat) : Int) → DtI A C w v' v w' := fun hs n v' w' hr hbb v hv => by
        have e := HDt.out
        rw [if_neg hs] at e
        have hpe : pth ⟨xp, xt, xr⟩ = xp.data.toList := rfl
        rw [hpe] at e
        refine ⟨k + 1, by omega, hv, ?_, ?_, (HRA.out n).2.trans (hbb.mono (HRA.out n).2.size)⟩
        · rw [e]; exact hr
        · rw [e]; intro h; exact absurd h (insN_ne _ _)
      rcases hfa with ⟨rfl, hno⟩ | ⟨j', hj', rfl, hpj, hfst⟩
      · have hs : ¬ sameB (getF C (pth ⟨xp, xt, xr⟩)) ⟨xp, xt, xr⟩ = true := by
          have e9 : getF C (pth ⟨xp, xt, xr⟩) = zeroFl := getF_no hno
          rw [e9]
          intro h
          have h9 := (sameB_iff _ _).1 h
          exact HNx.out (by rw [← h9]; rfl)
        have MORE := more hs
        clear stay more hs hno
        have HMo : Hid (∀ (n : Nat) (v' : Value) (w' : World), w'.ownsRow w.heap.size 9 1 v' (insN xp.data.toList (dtL A C k)).length ((insN xp.data.toList (dtL A C k)).map encStr) → Below (w1.drewN n).heap.size (w1.drewN n) w' → ∀ (v : Value), v = .int .i64 ((k + 1 : Nat) : Int) → DtI A C w v' v w') := MORE
        clear MORE
        go_wp2
        go_region
        all_goals
          go_wp2_with fail
          refine (HAd.out 1).mono ?_
          rintro e w3 ⟨v', rfl, hr3, hb3, _⟩
          have HG : Hid (∀ (v : Value), v = .int .i64 ((k + 1 : Nat) : Int) → DtI A C w v' v w3) := HMo.out 1 v' w3 hr3 hb3
          clear hr3 hb3
          go_wp2
          exact ⟨HG.out _ (by go_num), by simp [intOf]; omega⟩
      · have hgf : getF C (pth ⟨xp, xt, xr⟩) = C[j'] := getF_at j' hj' hpj hfst
        rw [hgf] at stay more
        rcases HMm.out with h | ⟨g', o', rfl, hg', hc'⟩
        · exfalso; rw [h] at hj'; exact absurd hj' (by simp)
        obtain ⟨m0, m1, m2⟩ := hc' j' hj'
        have hji : (j' : Int) < (C.length : Int) := by omega
        clear hc' hgf hfst
        generalize C[j'] = y at *
        obtain ⟨yp, yt, yr⟩ := y
        simp only at *
        obtain rfl : yp = xp := bytes_ext hpj
        clear hpj
        by_cases h2 : yt.toList = xt.toList
        · obtain rfl := toL_inj h2
          clear h2
          by_cases h3 : yr = xr
          · subst h3
            have STAY := stay ((sameB_iff _ _).2 rfl)
            have HSt : Hid (∀ (n : Nat) (v : Value), v = .int .i64 ((k + 1 : Nat) : Int) → DtI A C w u5 v (w1.drewN n)) := STAY
            clear STAY stay more
            go_wp2
            go_region
            all_goals
              go_wp2
              exact ⟨HSt.out 1 _ (by go_num), by simp [intOf]; omega⟩
          · have MORE := more (fun h => h3 (by have := (sameB_iff _ _).1 h; injection this))
            have h3' : (yr == xr) = false := by simpa using h3
            have HMo : Hid (∀ (n : Nat) (v' : Value) (w' : World), w'.ownsRow w.heap.size 9 1 v' (insN yp.data.toList (dtL A C k)).length ((insN yp.data.toList (dtL A C k)).map encStr) → Below (w1.drewN n).heap.size (w1.drewN n) w' → ∀ (v : Value), v = .int .i64 ((k + 1 : Nat) : Int) → DtI A C w v' v w') := MORE
            clear MORE stay more
            go_wp2
            go_region
            all_goals
              go_wp2_with fail
              refine (HAd.out 1).mono ?_
              rintro e w3 ⟨v', rfl, hr3, hb3, _⟩
              have HG : Hid (∀ (v : Value), v = .int .i64 ((k + 1 : Nat) : Int) → DtI A C w v' v w3) := HMo.out 1 v' w3 hr3 hb3
              clear hr3 hb3
              go_wp2
              exact ⟨HG.out _ (by go_num), by simp [intOf]; omega⟩
        · have MORE := more (fun h => h2 (by have := (sameB_iff _ _).1 h; injection this with _ e _; rw [e]))
          have HMo : Hid (∀ (n : Nat) (v' : Value) (w' : World), w'.ownsRow w.heap.size 9 1 v' (insN yp.data.toList (dtL A C k)).length ((insN yp.data.toList (dtL A C k)).map encStr) → Below (w1.drewN n).heap.size (w1.drewN n) w' → ∀ (v : Value), v = .int .i64 ((k + 1 : Nat) : Int) → DtI A C w v' v w') := MORE
          clear MORE stay more
          go_wp2
          go_region
          all_goals
            go_wp2_with fail
            refine (HAd.out 1).mono ?_
            rintro e w3 ⟨v', rfl, hr3, hb3, _⟩
            have HG : Hid (∀ (v : Value), v = .int .i64 ((k + 1 : Nat) : Int) → DtI A C w v' v w3) := HMo.out 1 v' w3 hr3 hb3
            clear hr3 hb3
            go_wp2
            exact ⟨HG.out _ (by go_num), by simp [intOf]; omega⟩
    by_cases hlt2 : k < A.length + C.length
    · obtain ⟨j, hkj⟩ : ∃ j, k = A.length + j := ⟨k - A.length, by omega⟩
      have hlx : j < C.length := by omega
      have HDt : Hid (dtL A C (k + 1) = if sameB (getF A (pth C[j])) C[j] = true then dtL A C k else insN (pth C[j]) (dtL A C k)) := dtL_c A C k j hkj hlx
      have hki : ¬ (k : Int) < (A.length : Int) := by omega
      have hki2 : (k : Int) < (A.length : Int) + (C.length : Int) := by omega
      have hsub : (k : Int) - (A.length : Int) = (j : Int) := by omega
      rcases HC.out.below hb (Nat.le_refl _) with h | ⟨g, o, rfl, hg, hc⟩
      · exfalso; rw [h] at hlx; exact absurd hlx (by simp)
      obtain ⟨c0, c1, c2⟩ := hc j hlx
      have HNx : Hid (pth C[j] ≠ []) := HNc.out _ (List.getElem_mem hlx)
      have HRow : Hid (wr.ownsRow w.heap.size 9 1 u5 (dtL A C k).length ((dtL A C k).map encStr)) := hrow
      have HNil : Hid (dtL A C k = [] → u5 = .slice none 0 0) := hnil
      clear hc hrow hnil
      generalize C[j] = x at *
      obtain ⟨xp, xt, xr⟩ := x
      simp only at *
      obtain ⟨B1, hB1⟩ : ∃ B1, B1 = wr.alloc (.cells #[.string xp, .string xt, .bool xr] 30) := ⟨_, rfl⟩
      have hbA : Below w.heap.size w B1 := by rw [hB1]; exact hb.alloc hsz _
      have hzA : B1.heap.size = wr.heap.size + 1 := by rw [hB1]; exact World.size_alloc _ _
      have hR1 : B1.ownsRow w.heap.size 9 1 u5 (dtL A C k).length ((dtL A C k).map encStr) := by rw [hB1]; exact HRow.out.alloc _
      have HRA : Hid (∀ n : Nat, (B1.drewN n).ownsRow w.heap.size 9 1 u5 (dtL A C k).length ((dtL A C k).map encStr) ∧ Below w.heap.size w (B1.drewN n)) := fun n => ⟨row_heap hR1 fun b hb => rfl, below_drewN hbA n⟩
      have HFx : Hid (Calls Tryz.prog 21 #[.slice ao A.length ac, .string xp] B1 fun e w' => ∃ i, e = .returned (.int .i64 i) ∧ FaR A xp.data.toList i ∧ w' = B1) := HFa.out xp _ hbA
      have HAd : Hid (∀ n : Nat, Calls Tryz.prog 38 #[u5, .string xp] (B1.drewN n) (AdP w.heap.size u5 (dtL A C k) xp (B1.drewN n))) := fun n => AddText_any _ _ _ xp _ (HRA.out n).1 HNil.out (HRA.out n).2.size (by omega)
      have HMm : Hid (IsFl B1 ao A) := HA.out.below hbA (Nat.le_refl _)
      have x0 : B1.cell? ⟨wr.heap.size, 0, none⟩ = some (.string xp) := by rw [hB1]; exact al_at wr _ _ _ 0 _ rfl rfl
      have x1 : B1.cell? ⟨wr.heap.size, 1, none⟩ = some (.string xt) := by rw [hB1]; exact al_at wr _ _ _ 1 _ rfl rfl
      have x2 : B1.cell? ⟨wr.heap.size, 2, none⟩ = some (.bool xr) := by rw [hB1]; exact al_at wr _ _ _ 2 _ rfl rfl
      clear hb hR1 hbA
      go_wp2_with fail
      rw [← hB1]
      clear hB1
      refine HFx.out.mono ?_
      rintro e w1 ⟨i, rfl, hfa, hw1⟩
      subst hw1
      clear HFx
      have stay : sameB (getF A (pth ⟨xp, xt, xr⟩)) ⟨xp, xt, xr⟩ = true → ∀ (n : Nat) (v : Value), v = .int .i64 ((k + 1 : Nat) : Int) → DtI A C w u5 v (w1.drewN n) := fun hs n v hv => by
        have e := HDt.out
        rw [if_pos hs] at e
        refine ⟨k + 1, by omega, hv, ?_, ?_, (HRA.out n).2⟩
        · rw [e]; exact (HRA.out n).1
        · rw [e]; exact HNil.out
      have more : ¬ sameB (getF A (pth ⟨xp, xt, xr⟩)) ⟨xp, xt, xr⟩ = true → ∀ (n : Nat) (v' : Value) (w' : World), w'.ownsRow w.heap.size 9 1 v' (insN xp.data.toList (dtL A C k)).length ((insN xp.data.toList (dtL A C k)).map encStr) → Below (w1.drewN n).heap.size (w1.drewN n) w' → ∀ (v : Value), v = .int .i64 ((k + 1 : Nat) : Int) → DtI A C w v' v w' := fun hs n v' w' hr hbb v hv => by
        have e := HDt.out
        rw [if_neg hs] at e
        have hpe : pth ⟨xp, xt, xr⟩ = xp.data.toList := rfl
        rw [hpe] at e
        refine ⟨k + 1, by omega, hv, ?_, ?_, (HRA.out n).2.trans (hbb.mono (HRA.out n).2.size)⟩
        · rw [e]; exact hr
        · rw [e]; intro h; exact absurd h (insN_ne _ _)
      rcases hfa with ⟨rfl, hno⟩ | ⟨j', hj', rfl, hpj, hfst⟩
      · have hs : ¬ sameB (getF A (pth ⟨xp, xt, xr⟩)) ⟨xp, xt, xr⟩ = true := by
          have e9 : getF A (pth ⟨xp, xt, xr⟩) = zeroFl := getF_no hno
          rw [e9]
          intro h
          have h9 := (sameB_iff _ _).1 h
          exact HNx.out (by rw [← h9]; rfl)
        have MORE := more hs
        clear stay more hs hno
        have HMo : Hid (∀ (n : Nat) (v' : Value) (w' : World), w'.ownsRow w.heap.size 9 1 v' (insN xp.data.toList (dtL A C k)).length ((insN xp.data.toList (dtL A C k)).map encStr) → Below (w1.drewN n).heap.size (w1.drewN n) w' → ∀ (v : Value), v = .int .i64 ((k + 1 : Nat) : Int) → DtI A C w v' v w') := MORE
        clear MORE
        go_wp2
        go_region
        all_goals
          go_wp2_with fail
          refine (HAd.out 1).mono ?_
          rintro e w3 ⟨v', rfl, hr3, hb3, _⟩
          have HG : Hid (∀ (v : Value), v = .int .i64 ((k + 1 : Nat) : Int) → DtI A C w v' v w3) := HMo.out 1 v' w3 hr3 hb3
          clear hr3 hb3
          go_wp2
          exact ⟨HG.out _ (by go_num), by simp [intOf]; omega⟩
      · have hgf : getF A (pth ⟨xp, xt, xr⟩) = A[j'] := getF_at j' hj' hpj hfst
        rw [hgf] at stay more
        rcases HMm.out with h | ⟨g', o', rfl, hg', hc'⟩
        · exfalso; rw [h] at hj'; exact absurd hj' (by simp)
        obtain ⟨m0, m1, m2⟩ := hc' j' hj'
        have hji : (j' : Int) < (A.length : Int) := by omega
        clear hc' hgf hfst
        generalize A[j'] = y at *
        obtain ⟨yp, yt, yr⟩ := y
        simp only at *
        obtain rfl : yp = xp := bytes_ext hpj
        clear hpj
        by_cases h2 : yt.toList = xt.toList
        · obtain rfl := toL_inj h2
          clear h2
          by_cases h3 : yr = xr
          · subst h3
            have STAY := stay ((sameB_iff _ _).2 rfl)
            have HSt : Hid (∀ (n : Nat) (v : Value), v = .int .i64 ((k + 1 : Nat) : Int) → DtI A C w u5 v (w1.drewN n)) := STAY
            clear STAY stay more
            go_wp2
            go_region
            all_goals
              go_wp2
              exact ⟨HSt.out 1 _ (by go_num), by simp [intOf]; omega⟩
          · have MORE := more (fun h => h3 (by have := (sameB_iff _ _).1 h; injection this))
            have h3' : (yr == xr) = false := by simpa using h3
            have HMo : Hid (∀ (n : Nat) (v' : Value) (w' : World), w'.ownsRow w.heap.size 9 1 v' (insN yp.data.toList (dtL A C k)).length ((insN yp.data.toList (dtL A C k)).map encStr) → Below (w1.drewN n).heap.size (w1.drewN n) w' → ∀ (v : Value), v = .int .i64 ((k + 1 : Nat) : Int) → DtI A C w v' v w') := MORE
            clear MORE stay more
            go_wp2
            go_region
            all_goals
              go_wp2_with fail
              refine (HAd.out 1).mono ?_
              rintro e w3 ⟨v', rfl, hr3, hb3, _⟩
              have HG : Hid (∀ (v : Value), v = .int .i64 ((k + 1 : Nat) : Int) → DtI A C w v' v w3) := HMo.out 1 v' w3 hr3 hb3
              clear hr3 hb3
              go_wp2
              exact ⟨HG.out _ (by go_num), by simp [intOf]; omega⟩
        · have MORE := more (fun h => h2 (by have := (sameB_iff _ _).1 h; injection this with _ e _; rw [e]))
          have HMo : Hid (∀ (n : Nat) (v' : Value) (w' : World), w'.ownsRow w.heap.size 9 1 v' (insN yp.data.toList (dtL A C k)).length ((insN yp.data.toList (dtL A C k)).map encStr) → Below (w1.drewN n).heap.size (w1.drewN n) w' → ∀ (v : Value), v = .int .i64 ((k + 1 : Nat) : Int) → DtI A C w v' v w') := MORE
          clear MORE stay more
          go_wp2
          go_region
          all_goals
            go_wp2_with fail
            refine (HAd.out 1).mono ?_
            rintro e w3 ⟨v', rfl, hr3, hb3, _⟩
            have HG : Hid (∀ (v : Value), v = .int .i64 ((k + 1 : Nat) : Int) → DtI A C w v' v w3) := HMo.out 1 v' w3 hr3 hb3
            clear hr3 hb3
            go_wp2
            exact ⟨HG.out _ (by go_num), by simp [intOf]; omega⟩
    · obtain rfl : k = A.length + C.length := by omega
      have hki : ¬ ((A.length + C.length : Nat) : Int) < (A.length : Int) + (C.length : Int) := by omega
      rw [dtL_end] at hrow hnil
      obtain ⟨oa, oc, rfl⟩ := own_shape hrow
      have HF : Hid (wr.ownsRow w.heap.size 9 1 (.slice oa (difF A C).length oc) (difF A C).length ((difF A C).map encStr) ∧ (difF A C = [] → oa = none ∧ oc = 0)) := ⟨hrow, fun e => by
        have := hnil e
        injection this with h1 _ h3
        exact ⟨h1, h3⟩⟩
      clear hrow hnil hb hUl
      go_wp2
      go_ret
      exact ⟨oa, oc, rfl, HF.out.1, HF.out.2, HB.out⟩
end Go.Proofs.YtelcflmjagjbfaaGreatDoor
