/- WireBackResult holds: for all two results that can be read, what Result packs is read by ReadResult as it was, and two are packed alike just if they are the same; both read behind the call as they read before; no condition. -/
import Derived.Test.YtligalcphlfmcaeReadR
import Derived.Test.YtligalcphlfmcaeArgR
namespace Go.Proofs.Ytligalcphlfmcae
open Go.ChangeShapes Go.WideShapes Go.ChangeAt Go.RowKit Go.Shelf

theorem br_u8 {a b : Nat} (ha : a < 256) (hb : b < 256) (h : UInt8.ofNat a = UInt8.ofNat b) : a = b := by
  have := congrArg UInt8.toNat h
  simp [UInt8.toNat_ofNat'] at this
  omega
theorem br_pk : ∀ f n m : Nat, n ≤ f → ∀ r r' : List UInt8, pk n ++ r = pk m ++ r' → n = m ∧ r = r' := by
  intro f
  induction f with
  | zero =>
    intro n m hn r r' h
    obtain rfl : n = 0 := by omega
    by_cases hm : m < 128
    · rw [pk_small 0 (by decide), pk_small m hm] at h
      simp only [List.cons_append, List.nil_append, List.cons.injEq] at h
      exact ⟨br_u8 (by decide) (by omega) h.1, h.2⟩
    · rw [pk_small 0 (by decide), pk_more m (by omega)] at h
      simp only [List.cons_append, List.nil_append, List.cons.injEq] at h
      have := br_u8 (by decide) (by omega) h.1
      omega
  | succ f ih =>
    intro n m hn r r' h
    by_cases h1 : n < 128
    · by_cases hm : m < 128
      · rw [pk_small n h1, pk_small m hm] at h
        simp only [List.cons_append, List.nil_append, List.cons.injEq] at h
        exact ⟨br_u8 (by omega) (by omega) h.1, h.2⟩
      · rw [pk_small n h1, pk_more m (by omega)] at h
        simp only [List.cons_append, List.nil_append, List.cons.injEq] at h
        have := br_u8 (by omega) (by omega) h.1
        omega
    · by_cases hm : m < 128
      · rw [pk_more n (by omega), pk_small m hm] at h
        simp only [List.cons_append, List.nil_append, List.cons.injEq] at h
        have := br_u8 (by omega) (by omega) h.1
        omega
      · rw [pk_more n (by omega), pk_more m (by omega)] at h
        simp only [List.cons_append, List.cons.injEq] at h
        have e1 := br_u8 (by omega) (by omega) h.1
        have e2 := ih (n / 128) (m / 128) (by omega) r r' h.2
        exact ⟨by omega, e2.2⟩
theorem pkR_inj {c d c' d' : Nat} {s s' : ByteArray} (h : pkR c s d = pkR c' s' d') : c = c' ∧ s = s' ∧ d = d' := by
  unfold pkR pkT at h
  obtain ⟨e1, h1⟩ := br_pk c c c' (Nat.le_refl _) _ _ h
  rw [List.append_assoc, List.append_assoc] at h1
  obtain ⟨e2, h2⟩ := br_pk s.size s.size s'.size (Nat.le_refl _) _ _ h1
  have hl : s.data.toList.length = s'.data.toList.length := by rw [← size_of (s := s) rfl, ← size_of (s := s') rfl]; exact e2
  obtain ⟨e3, e4⟩ := List.append_inj h2 hl
  have e5 := br_pk d d d' (Nat.le_refl _) [] [] (by simpa using e4)
  exact ⟨e1, (bytes_eq e3).trans (bytes_eq rfl).symm, e5.1⟩

set_option maxHeartbeats 4000000 in
set_option maxRecDepth 100000 in
theorem br_yes (c d : Nat) (s : ByteArray) (c' d' : Int) (s' : ByteArray) (w : World) (hok : okR c s d) :
    Calls Try.prog 3 #[Rv c s d, Rv c' s' d'] w fun e w' => e = .returned (.bool true) ∧ Below w.heap.size w w' := by
  have HK : Hid (okR c s d) := hok
  have g1 := noN_false hok.1
  have g2 := noN_false hok.2.1
  have g3 := digOk_size hok.2.2
  have hl := pkR_len c d s (by omega) (by omega) (by omega)
  have HZ : Hid ((⟨(pkR c s d).toArray⟩ : ByteArray).size ≤ maxLen) := by show _ ≤ _; rw [show (⟨(pkR c s d).toArray⟩ : ByteArray).size = (pkR c s d).length from size_of rfl]; unfold maxLen; omega
  clear hok g1 g2 g3 hl
  go_enter Try.func3, Try.ntmps3
  go_wp2_with fail
  refine (wireBegun_any _).mono ?_
  rintro e w1 ⟨rfl, hb1⟩
  obtain ⟨hcl1, hfr1⟩ := bcell hb1
  have hz1 : w.heap.size + 1 < w1.heap.size := by have := hb1.size; simp at this; omega
  have B1 : Hid (Below w.heap.size w w1) := (((Below.refl _ _).alloc (Nat.le_refl _) _).alloc (by simp) _).trans (hb1.mono (by simp; omega))
  have p0 : w1.cell? ⟨w.heap.size, 0, none⟩ = some (.int .i64 c) := (hcl1 _ _ (by simp; omega)).trans (by simp [go_sem])
  have p1 : w1.cell? ⟨w.heap.size, 1, none⟩ = some (.string s) := (hcl1 _ _ (by simp; omega)).trans (by simp [go_sem])
  have p2 : w1.cell? ⟨w.heap.size, 2, none⟩ = some (.int .i64 d) := (hcl1 _ _ (by simp; omega)).trans (by simp [go_sem])
  have q0 : w1.cell? ⟨w.heap.size + 1, 0, none⟩ = some (.int .i64 c') := (hcl1 _ _ (by simp)).trans (by simp [go_sem])
  have q1 : w1.cell? ⟨w.heap.size + 1, 1, none⟩ = some (.string s') := (hcl1 _ _ (by simp)).trans (by simp [go_sem])
  have q2 : w1.cell? ⟨w.heap.size + 1, 2, none⟩ = some (.int .i64 d') := (hcl1 _ _ (by simp)).trans (by simp [go_sem])
  clear hb1 hcl1 hfr1
  go_wp2_with fail
  refine (Result_yes c d s w1 HK.out).mono ?_
  rintro e w2 ⟨rfl, hb2⟩
  have B2 : Hid (Below w.heap.size w w2) := B1.out.trans (hb2.mono B1.out.size)
  have hz2 : w.heap.size + 1 < w2.heap.size := by have := hb2.size; omega
  replace p0 := (hb2.cell (p := ⟨w.heap.size, 0, none⟩) (by show w.heap.size < _; omega)).trans p0
  replace p1 := (hb2.cell (p := ⟨w.heap.size, 1, none⟩) (by show w.heap.size < _; omega)).trans p1
  replace p2 := (hb2.cell (p := ⟨w.heap.size, 2, none⟩) (by show w.heap.size < _; omega)).trans p2
  replace q0 := (hb2.cell (p := ⟨w.heap.size + 1, 0, none⟩) (by show w.heap.size + 1 < _; omega)).trans q0
  replace q1 := (hb2.cell (p := ⟨w.heap.size + 1, 1, none⟩) (by show w.heap.size + 1 < _; omega)).trans q1
  replace q2 := (hb2.cell (p := ⟨w.heap.size + 1, 2, none⟩) (by show w.heap.size + 1 < _; omega)).trans q2
  clear hb2 hz1
  go_wp2_with fail
  refine (ReadResult_pk c d _ s w2 HZ.out HK.out rfl).mono ?_
  rintro e w3 ⟨rfl, hb3⟩
  have B3 : Hid (Below w.heap.size w w3) := B2.out.trans (hb3.mono B2.out.size)
  have hz3 : w.heap.size + 1 < w3.heap.size := by have := hb3.size; omega
  replace p0 := (hb3.cell (p := ⟨w.heap.size, 0, none⟩) (by show w.heap.size < _; omega)).trans p0
  replace p1 := (hb3.cell (p := ⟨w.heap.size, 1, none⟩) (by show w.heap.size < _; omega)).trans p1
  replace p2 := (hb3.cell (p := ⟨w.heap.size, 2, none⟩) (by show w.heap.size < _; omega)).trans p2
  replace q0 := (hb3.cell (p := ⟨w.heap.size + 1, 0, none⟩) (by show w.heap.size + 1 < _; omega)).trans q0
  replace q1 := (hb3.cell (p := ⟨w.heap.size + 1, 1, none⟩) (by show w.heap.size + 1 < _; omega)).trans q1
  replace q2 := (hb3.cell (p := ⟨w.heap.size + 1, 2, none⟩) (by show w.heap.size + 1 < _; omega)).trans q2
  have hl0 : w.heap.size < w3.heap.size := by omega
  clear hb3 hz2
  by_cases hok' : okR c' s' d'
  · obtain ⟨c2, d2, rfl, rfl⟩ := okR_nat hok'
    have HK' : Hid (okR c2 s' d2) := hok'
    clear hok'
    go_wp2_with fail
    refine (Result_yes c2 d2 s' _ HK'.out).mono ?_
    rintro e w4 ⟨rfl, hb4⟩
    have x0 : w4.cell? ⟨w3.heap.size, 0, none⟩ = some (.int .i64 c) := (hb4.cell (p := ⟨w3.heap.size, 0, none⟩) (by simp)).trans (by simp [go_sem])
    have x1 : w4.cell? ⟨w3.heap.size, 1, none⟩ = some (.string s) := (hb4.cell (p := ⟨w3.heap.size, 1, none⟩) (by simp)).trans (by simp [go_sem])
    have x2 : w4.cell? ⟨w3.heap.size, 2, none⟩ = some (.int .i64 d) := (hb4.cell (p := ⟨w3.heap.size, 2, none⟩) (by simp)).trans (by simp [go_sem])
    replace p0 : w4.cell? ⟨w.heap.size, 0, none⟩ = some (.int .i64 c) := (hb4.cell (p := ⟨w.heap.size, 0, none⟩) (by simp; omega)).trans (by rw [World.cell?_alloc_past _ _ _ hl0]; exact p0)
    replace p1 : w4.cell? ⟨w.heap.size, 1, none⟩ = some (.string s) := (hb4.cell (p := ⟨w.heap.size, 1, none⟩) (by simp; omega)).trans (by rw [World.cell?_alloc_past _ _ _ hl0]; exact p1)
    replace p2 : w4.cell? ⟨w.heap.size, 2, none⟩ = some (.int .i64 d) := (hb4.cell (p := ⟨w.heap.size, 2, none⟩) (by simp; omega)).trans (by rw [World.cell?_alloc_past _ _ _ hl0]; exact p2)
    replace q0 : w4.cell? ⟨w.heap.size + 1, 0, none⟩ = some (.int .i64 c2) := (hb4.cell (p := ⟨w.heap.size + 1, 0, none⟩) (by simp; omega)).trans (by rw [World.cell?_alloc_past _ _ _ hz3]; exact q0)
    replace q1 : w4.cell? ⟨w.heap.size + 1, 1, none⟩ = some (.string s') := (hb4.cell (p := ⟨w.heap.size + 1, 1, none⟩) (by simp; omega)).trans (by rw [World.cell?_alloc_past _ _ _ hz3]; exact q1)
    replace q2 : w4.cell? ⟨w.heap.size + 1, 2, none⟩ = some (.int .i64 d2) := (hb4.cell (p := ⟨w.heap.size + 1, 2, none⟩) (by simp; omega)).trans (by rw [World.cell?_alloc_past _ _ _ hz3]; exact q2)
    have B4 : Hid (Below w.heap.size w w4) := (B3.out.alloc (by omega) _).trans (hb4.mono (by simp; omega))
    clear hb4 hz3 hl0
    by_cases heq : c = c2 ∧ s = s' ∧ d = d2
    · obtain ⟨rfl, rfl, rfl⟩ := heq
      go_wp2
      go_ret
      exact ⟨by simp, B4.out⟩
    · have hf : (pkR c s d == pkR c2 s' d2) = false := by
        rw [beq_eq_false_iff_ne]
        exact fun h => heq (pkR_inj h)
      have HE : Hid (¬ (c = c2 ∧ s = s' ∧ d = d2)) := heq
      clear heq
      go_wp2
      all_goals go_ret
      · rename_i k1 k2 k3
        rw [Lib.toList_data, Lib.toList_data] at k2
        exact absurd ⟨by omega, (bytes_eq k2).trans (bytes_eq rfl).symm, by omega⟩ HE.out
      all_goals exact ⟨rfl, B4.out⟩
  · have HK' : Hid (¬ okR c' s' d') := hok'
    have hne := reC_ne c' d' s' hok'
    clear hok'
    go_wp2_with fail
    refine (Result_no c' d' s' _ HK'.out).mono ?_
    rintro e w4 ⟨rfl, hb4⟩
    have x0 : w4.cell? ⟨w3.heap.size, 0, none⟩ = some (.int .i64 c) := (hb4.cell (p := ⟨w3.heap.size, 0, none⟩) (by simp)).trans (by simp [go_sem])
    have x1 : w4.cell? ⟨w3.heap.size, 1, none⟩ = some (.string s) := (hb4.cell (p := ⟨w3.heap.size, 1, none⟩) (by simp)).trans (by simp [go_sem])
    have x2 : w4.cell? ⟨w3.heap.size, 2, none⟩ = some (.int .i64 d) := (hb4.cell (p := ⟨w3.heap.size, 2, none⟩) (by simp)).trans (by simp [go_sem])
    replace p0 : w4.cell? ⟨w.heap.size, 0, none⟩ = some (.int .i64 c) := (hb4.cell (p := ⟨w.heap.size, 0, none⟩) (by simp; omega)).trans (by rw [World.cell?_alloc_past _ _ _ hl0]; exact p0)
    replace p1 : w4.cell? ⟨w.heap.size, 1, none⟩ = some (.string s) := (hb4.cell (p := ⟨w.heap.size, 1, none⟩) (by simp; omega)).trans (by rw [World.cell?_alloc_past _ _ _ hl0]; exact p1)
    replace p2 : w4.cell? ⟨w.heap.size, 2, none⟩ = some (.int .i64 d) := (hb4.cell (p := ⟨w.heap.size, 2, none⟩) (by simp; omega)).trans (by rw [World.cell?_alloc_past _ _ _ hl0]; exact p2)
    replace q0 : w4.cell? ⟨w.heap.size + 1, 0, none⟩ = some (.int .i64 c') := (hb4.cell (p := ⟨w.heap.size + 1, 0, none⟩) (by simp; omega)).trans (by rw [World.cell?_alloc_past _ _ _ hz3]; exact q0)
    replace q1 : w4.cell? ⟨w.heap.size + 1, 1, none⟩ = some (.string s') := (hb4.cell (p := ⟨w.heap.size + 1, 1, none⟩) (by simp; omega)).trans (by rw [World.cell?_alloc_past _ _ _ hz3]; exact q1)
    replace q2 : w4.cell? ⟨w.heap.size + 1, 2, none⟩ = some (.int .i64 d') := (hb4.cell (p := ⟨w.heap.size + 1, 2, none⟩) (by simp; omega)).trans (by rw [World.cell?_alloc_past _ _ _ hz3]; exact q2)
    have B4 : Hid (Below w.heap.size w w4) := (B3.out.alloc (by omega) _).trans (hb4.mono (by simp; omega))
    clear hb4 hz3 hl0
    go_wp2
    go_ret
    exact ⟨rfl, B4.out⟩

set_option maxHeartbeats 1000000 in
set_option maxRecDepth 100000 in
theorem br_no (c d : Int) (s : ByteArray) (c' d' : Int) (s' : ByteArray) (w : World) (hok : ¬ okR c s d) :
    Calls Try.prog 3 #[Rv c s d, Rv c' s' d'] w fun e w' => e = .returned (.bool true) ∧ Below w.heap.size w w' := by
  have HK : Hid (¬ okR c s d) := hok
  have hne := reC_ne c d s hok
  clear hok
  go_enter Try.func3, Try.ntmps3
  go_wp2_with fail
  refine (wireBegun_any _).mono ?_
  rintro e w1 ⟨rfl, hb1⟩
  obtain ⟨hcl1, hfr1⟩ := bcell hb1
  have B1 : Hid (Below w.heap.size w w1) := (((Below.refl _ _).alloc (Nat.le_refl _) _).alloc (by simp) _).trans (hb1.mono (by simp; omega))
  have p0 : w1.cell? ⟨w.heap.size, 0, none⟩ = some (.int .i64 c) := (hcl1 _ _ (by simp; omega)).trans (by simp [go_sem])
  have p1 : w1.cell? ⟨w.heap.size, 1, none⟩ = some (.string s) := (hcl1 _ _ (by simp; omega)).trans (by simp [go_sem])
  have p2 : w1.cell? ⟨w.heap.size, 2, none⟩ = some (.int .i64 d) := (hcl1 _ _ (by simp; omega)).trans (by simp [go_sem])
  clear hb1 hcl1 hfr1
  go_wp2_with fail
  refine (Result_no c d s w1 HK.out).mono ?_
  rintro e w2 ⟨rfl, hb2⟩
  have B2 : Hid (Below w.heap.size w w2) := B1.out.trans (hb2.mono B1.out.size)
  clear hb2
  go_wp2
  go_ret
  exact ⟨rfl, B2.out⟩

theorem br_walk (c d : Int) (s : ByteArray) (c' d' : Int) (s' : ByteArray) (w : World) :
    Calls Try.prog 3 #[Rv c s d, Rv c' s' d'] w fun e w' => e = .returned (.bool true) ∧ Below w.heap.size w w' := by
  by_cases hok : okR c s d
  · obtain ⟨c1, d1, rfl, rfl⟩ := okR_nat hok
    exact br_yes c1 d1 s c' d' s' w hok
  · exact br_no c d s c' d' s' w hok

set_option maxRecDepth 100000 in
theorem br_lifted (os : Os) (started : os.Started) (H : Type) (enc : TypeId × Value → H) :
    ReturnsInHanded {} Try.checked os 3 .any (Rows.wireBackResultSpec.pre6 enc Try.prog Try.f3 Rows.wireBackResultRow.domain false) (Rows.wireBackResultSpec.post enc Try.prog Try.f3 false true false false) := by
  refine returnsInHanded_of_change (C := Try.checked) ar_own started (by kernel_rfl) Try.func3
    (ChangeSpec.witness6 (enc := enc) (C := Try.checked) false ⟨#[], #[.agg #[.int .i64 0, .string ByteArray.empty, .int .i64 0], .agg #[.int .i64 0, .string ByteArray.empty, .int .i64 0]], []⟩ 8 (by kernel_rfl) (by kernel_rfl) (by kernel_rfl) (by kernel_rfl)) ?_
  intro W base args ds gs before hval0 hW hcnd _
  have hval : ∀ (j : Nat) t v, Try.f3.params[j]? = some t → args[j]? = some v → Value.okWide Try.prog W .any base t v := hval0
  have hW' := hW
  obtain ⟨p, q, hA0, hV, rfl, hfz, hnd⟩ := hW
  have hA : DataW.TrodAll enc Try.prog W 0 (fun _ => true) true Try.f3.params.toList args.toList ds p := hA0
  rw [Try.params3] at hA hval
  obtain ⟨v0, v1, d0, d1, p0, p1, rfl, rfl, rfl, h0, h1⟩ := trodAll_two hA
  obtain ⟨rfl, rfl⟩ := trodVars_none hV
  obtain ⟨c, s, e, rfl, hs⟩ := arg_result (hval 0 23 v0 rfl rfl) h0
  obtain ⟨c', s', e', rfl, hs'⟩ := arg_result (hval 1 23 v1 rfl rfl) h1
  have lt0 : ∀ x ∈ p0, x.block < W.heap.size := by obtain ⟨m, hm⟩ := h0; exact DataW.trod_lt m _ _ _ hm
  have lt1 : ∀ x ∈ p1, x.block < W.heap.size := by obtain ⟨m, hm⟩ := h1; exact DataW.trod_lt m _ _ _ hm
  clear hA0 hval0
  refine (br_walk c e s c' e' s' W).mono fun e W' ⟨he, bel⟩ => ?_
  subst he
  exact ⟨_, rfl, _, _, _, [], _, [], hW', trodAll_mk1 (shut_bool Try.underlying4 _), trodAll_mk2 (Below.trod ar_laidOut (by kernel_rfl) (of_decide_eq_true (by kernel_rfl)) h0 bel lt0) (Below.trod ar_laidOut (by kernel_rfl) (of_decide_eq_true (by kernel_rfl)) h1 bel lt1), rfl, bel.frame _, fun h => by cases h⟩

theorem wireBackResult_holds : Rows.WireBackResultSaid :=
  OpenClaim.holds_of_wide 3 Try.f3 rfl rfl rfl rfl rfl rfl rfl ⟨rfl, rfl, rfl, rfl, rfl⟩ rfl rfl rfl rfl rfl (by kernel_rfl) Try.func3 (by kernel_rfl)
    (of_decide_eq_true (by kernel_rfl)) (by unfold Func.isWrapper; first | (rw [if_pos (by decide +kernel)]; kernel_rfl) | (rw [if_neg (by decide +kernel)]; exact ⟨rfl, rfl⟩))
    (fun os started H enc _ => br_lifted os started H enc)
#print axioms wireBackResult_holds
end Go.Proofs.Ytligalcphlfmcae
