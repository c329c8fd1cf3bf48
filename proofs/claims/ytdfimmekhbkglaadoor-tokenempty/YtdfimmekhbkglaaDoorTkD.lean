/- Ints that may not stand there. -/
import Derived.Test.YtdfimmekhbkglaaDoorTkC
import Derived.Lib.AtoiAllCases
namespace Go.Proofs.YtdfimmekhbkglaaDoor
open Go.RowKit Go.Shelf

theorem valD_ge : ∀ (l : List UInt8) (n : Nat), n ≤ valD n l
  | [], _ => Nat.le_refl _
  | c :: r, n => by
    have := valD_ge r (10 * n + (c.toNat - 48))
    unfold valD
    omega
theorem par_lt : ∀ (l : List UInt8) (n : Nat), (∀ c ∈ l, isDg c = true) → valD n l < 18446744073709551616 → Lib.parseUint10 n l = .ok (valD n l)
  | [], _, _, _ => rfl
  | c :: r, n, hd, hn => by
    have hc : 48 ≤ c.toNat ∧ c.toNat ≤ 57 := by
      have := hd c (by simp)
      unfold isDg at this
      simpa using this
    have hge := valD_ge r (10 * n + (c.toNat - 48))
    have hn' : valD (10 * n + (c.toNat - 48)) r < 18446744073709551616 := hn
    have ih := par_lt r (10 * n + (c.toNat - 48)) (fun x hx => hd x (by simp [hx])) hn'
    rw [Lib.parseUint10]
    rw [if_pos hc, if_neg (by omega), if_neg (by omega), Nat.mul_comm n 10, ih]
    rfl
theorem par_ge : ∀ (l : List UInt8) (n : Nat), (∀ c ∈ l, isDg c = true) → n < 18446744073709551616 → 18446744073709551616 ≤ valD n l → Lib.parseUint10 n l = .range
  | [], n, _, hn, h => by
    have : 18446744073709551616 ≤ n := h
    omega
  | c :: r, n, hd, hn, h => by
    have hc : 48 ≤ c.toNat ∧ c.toNat ≤ 57 := by
      have := hd c (by simp)
      unfold isDg at this
      simpa using this
    have h' : 18446744073709551616 ≤ valD (10 * n + (c.toNat - 48)) r := h
    rw [Lib.parseUint10]
    rw [if_pos hc]
    by_cases h1 : 1844674407370955162 ≤ n
    · rw [if_pos h1]
    · rw [if_neg h1]
      by_cases h2 : 18446744073709551616 ≤ n * 10 + (c.toNat - 48)
      · rw [if_pos h2]
      · rw [if_neg h2, Nat.mul_comm n 10]
        exact par_ge r _ (fun x hx => hd x (by simp [hx])) (by omega) h'
theorem atoi_lo (l : List UInt8) (h0 : l ≠ []) (hd : ∀ c ∈ l, isDg c = true) (hv : valD 0 l < 9223372036854775808) : Lib.atoiAll l = .ok (valD 0 l : Int) := by
  match l, h0 with
  | c :: r, _ =>
    have hc : 48 ≤ c.toNat ∧ c.toNat ≤ 57 := by
      have := hd c (by simp)
      unfold isDg at this
      simpa using this
    have hp : Lib.parseMag (c :: r) = .ok (valD 0 (c :: r)) := by
      unfold Lib.parseMag
      rw [if_neg (by simp)]
      exact par_lt (c :: r) 0 hd (by omega)
    rw [Lib.atoiAll_plain c r (by omega) (by omega), hp]
    unfold Lib.signless
    simp only
    rw [if_neg (by omega)]
theorem atoi_hi (l : List UInt8) (h0 : l ≠ []) (hd : ∀ c ∈ l, isDg c = true) (hv : ¬ valD 0 l < 9223372036854775808) : Lib.atoiAll l = .range := by
  match l, h0 with
  | c :: r, _ =>
    have hc : 48 ≤ c.toNat ∧ c.toNat ≤ 57 := by
      have := hd c (by simp)
      unfold isDg at this
      simpa using this
    rw [Lib.atoiAll_plain c r (by omega) (by omega)]
    by_cases h1 : valD 0 (c :: r) < 18446744073709551616
    · have hp : Lib.parseMag (c :: r) = .ok (valD 0 (c :: r)) := by
        unfold Lib.parseMag
        rw [if_neg (by simp)]
        exact par_lt (c :: r) 0 hd h1
      rw [hp]
      unfold Lib.signless
      simp only
      rw [if_pos (by omega)]
    · have hp : Lib.parseMag (c :: r) = .range := by
        unfold Lib.parseMag
        rw [if_neg (by simp)]
        exact par_ge (c :: r) 0 hd (by decide) (by omega)
      rw [hp]
      rfl

/-- The variable ErrRange holds some error. -/
def ErrR (w : World) : Prop := ∃ ev, w.cell? ⟨1, 0, none⟩ = some ev ∧ (ev = .nilIface ∨ ∃ te pe, ev = .iface te pe)
theorem ErrR.up {w w' : World} (h : ErrR w) (hb : Below w.heap.size w w') : ErrR w' := by
  obtain ⟨ev, h1, h2⟩ := h
  exact ⟨ev, (hb.cell (p := ⟨1, 0, none⟩) (World.block_lt_of_cell? w ⟨1, 0, none⟩ h1)).trans h1, h2⟩

theorem atoi_ok (l : List UInt8) (w : World) (h0 : l ≠ []) (hd : ∀ c ∈ l, isDg c = true) (hl : l.length ≤ 1000000) (hv : valD 0 l < 9223372036854775808) :
    Calls Tryd.prog 37 #[.string (mkB l)] w fun e w' => e = .returned (.tuple #[.int .i64 (valD 0 l), .nilIface]) ∧ Below w.heap.size w w' := by
  refine (Any.strconv_Atoi_ok laysA (mkB l) (by rw [mk_size]; omega) (valD 0 l) (by rw [mk_data]; exact atoi_lo l h0 hd hv) w).mono ?_
  rintro e w' ⟨rfl, h⟩
  refine ⟨rfl, ?_⟩
  rcases h with rfl | ⟨t, rfl⟩
  · exact Below.refl _ _
  · unfold Lib.bytesWorld
    exact Lib.below_freeze (Below.alloc (Below.drew (Below.refl w.heap.size w)) (Nat.le_refl _) _) (p := ⟨w.heap.size, _, none⟩) (Nat.le_refl _) _
theorem atoi_big (l : List UInt8) (w : World) (h0 : l ≠ []) (hd : ∀ c ∈ l, isDg c = true) (hl : l.length ≤ 1000000) (hv : ¬ valD 0 l < 9223372036854775808) (hr : ErrR w) :
    Calls Tryd.prog 37 #[.string (mkB l)] w fun e w' => ∃ (x : Int) (t : TypeId) (p : Value), e = .returned (.tuple #[.int .i64 x, .iface t p]) ∧ Below w.heap.size w w' := by
  obtain ⟨ev, h1, h2⟩ := hr
  refine (Any.strconv_Atoi_range laysA (mkB l) (by rw [mk_size]; omega) (by rw [mk_data]; exact atoi_hi l h0 hd hv) ev w h1 h2).mono ?_
  rintro e w' ⟨N, rfl, _, _, hb⟩
  exact ⟨_, _, _, rfl, hb⟩

theorem take_dig : ∀ (l : List UInt8), ∀ c ∈ l.take (rch isDg l), isDg c = true
  | [], c, hc => by simp at hc
  | a :: r, c, hc => by
    unfold rch at hc
    cases ha : isDg a with
    | false => rw [ha] at hc; simp at hc
    | true =>
      rw [ha] at hc
      simp only [cond_true, List.take_succ_cons, List.mem_cons] at hc
      rcases hc with rfl | hc
      · exact ha
      · exact take_dig r c hc
theorem rch_pos {h : UInt8 → Bool} {l : List UInt8} (h0 : 0 < l.length) (hc : h (l.getD 0 0) = true) : 0 < rch h l := by
  match l, h0 with
  | a :: r, _ =>
    have : h a = true := hc
    unfold rch
    rw [this]
    exact Nat.succ_pos _

set_option maxHeartbeats 2000000 in
set_option maxRecDepth 100000 in
theorem isNoInt_any (l : List UInt8) (w : World) (h0 : 0 < l.length) (hl : l.length ≤ 1000000) (hc : isDg (l.getD 0 0) = true) (hr : ErrR w) :
    Calls Tryd.prog 34 #[.string (mkB l)] w fun e w' => e = .returned (.bool (noInt l)) ∧ Below w.heap.size w w' := by
  have HR : Hid (∀ w, Calls Tryd.prog 42 #[.string (mkB l), .func (.func 33) #[] #[]] w fun e w' => e = .returned (.int .i64 (rch isDg l)) ∧ w' = w) := fun w => by
    have := reach_any 33 isDg (mkB l) w (by rw [mk_size]; exact hl) (says_digit w)
    rwa [mk_data] at this
  have hp := rch_pos h0 hc
  have hle := rch_le isDg l
  have hni : noInt l = (decide (9007199254740991 < valD 0 (l.take (rch isDg l))) || (decide (1 < rch isDg l) && decide ((l.getD 0 0).toNat = 48))) := rfl
  rw [hni]
  have hdl : (l.take (rch isDg l)).length = rch isDg l := by rw [List.length_take]; omega
  have hne : l.take (rch isDg l) ≠ [] := by intro e; rw [e] at hdl; simp at hdl; omega
  have had := take_dig l
  have hsl := sl_front l (rch isDg l) _ rfl hle
  have hg0 : (l.take (rch isDg l)).getD 0 0 = l.getD 0 0 := by
    match l, h0, hp with
    | a :: r, _, hp =>
      obtain ⟨m, hm⟩ : ∃ m, rch isDg (a :: r) = m + 1 := ⟨rch isDg (a :: r) - 1, by omega⟩
      rw [hm]
      rfl
  rw [← hg0]
  have HOK : Hid (valD 0 (l.take (rch isDg l)) < 9223372036854775808 → Calls Tryd.prog 37 #[.string (mkB (l.take (rch isDg l)))] w fun e w' => e = .returned (.tuple #[.int .i64 (valD 0 (l.take (rch isDg l))), .nilIface]) ∧ Below w.heap.size w w') := fun hv => atoi_ok _ w hne had (by omega) hv
  have HBG : Hid (¬ valD 0 (l.take (rch isDg l)) < 9223372036854775808 → Calls Tryd.prog 37 #[.string (mkB (l.take (rch isDg l)))] w fun e w' => ∃ (x : Int) (t : TypeId) (p : Value), e = .returned (.tuple #[.int .i64 x, .iface t p]) ∧ Below w.heap.size w w') := fun hv => atoi_big _ w hne had (by omega) hv hr
  clear hni had hc hr hg0 hne
  generalize rch isDg l = k at *
  have hk1 : (k : Int) ≤ (l.length : Int) := by omega
  have hszl : (mkB l).size = l.length := mk_size l
  generalize hds : l.take k = ds at *
  have hsd : (mkB ds).size = k := by rw [mk_size, hdl]
  have hs0 : 0 < (mkB ds).size := by omega
  have hgd := mk_get ds 0 hs0
  have hq := c_eq (ds.getD 0 0) 48
  generalize ds.getD 0 0 = c0 at *
  have hq' : ((c0.toNat : Int) == 48) = decide (c0.toNat = 48) := hq
  generalize decide (c0.toNat = 48) = b3 at *
  generalize valD 0 ds = V at *
  clear hq hds hdl
  by_cases hv : V < 9223372036854775808
  · have HA : Hid (Calls Tryd.prog 37 #[.string (mkB ds)] w fun e w' => e = .returned (.tuple #[.int .i64 V, .nilIface]) ∧ Below w.heap.size w w') := HOK.out hv
    clear HOK HBG
    by_cases h1 : 9007199254740991 < V
    · have h1i : (9007199254740991 : Int) < (V : Int) := by omega
      rw [show decide (9007199254740991 < V) = true from by simpa using h1, Bool.true_or]
      clear h1 hv
      go_enter Tryd.func34, Tryd.ntmps34
      go_wp2_with fail
      refine (HR.out _).mono ?_
      rintro e w' ⟨rfl, rfl⟩
      go_wp2_with fail
      refine HA.out.mono ?_
      rintro e w1 ⟨rfl, hb⟩
      have B1 : Hid (Below _ _ w1) := hb
      clear hb
      go_wp2
      go_ret
      exact ⟨rfl, B1.out⟩
    · have h1i : (V : Int) ≤ 9007199254740991 := by omega
      have h1d : decide ((9007199254740991 : Int) < (V : Int)) = false := by simp; omega
      rw [show decide (9007199254740991 < V) = false from by simpa using h1, Bool.false_or]
      clear h1 hv
      by_cases h2 : 1 < k
      · have h2i : (1 : Int) < (k : Int) := by omega
        rw [show decide (1 < k) = true from by simpa using h2, Bool.true_and]
        clear h2
        go_enter Tryd.func34, Tryd.ntmps34
        go_wp2_with fail
        refine (HR.out _).mono ?_
        rintro e w' ⟨rfl, rfl⟩
        go_wp2_with fail
        refine HA.out.mono ?_
        rintro e w1 ⟨rfl, hb⟩
        have B1 : Hid (Below _ _ w1) := hb
        clear hb
        go_wp2
        go_ret
        exact ⟨rfl, B1.out⟩
      · have h2i : (k : Int) ≤ 1 := by omega
        rw [show decide (1 < k) = false from by simpa using h2, Bool.false_and]
        clear h2
        go_enter Tryd.func34, Tryd.ntmps34
        go_wp2_with fail
        refine (HR.out _).mono ?_
        rintro e w' ⟨rfl, rfl⟩
        go_wp2_with fail
        refine HA.out.mono ?_
        rintro e w1 ⟨rfl, hb⟩
        have B1 : Hid (Below _ _ w1) := hb
        clear hb
        go_wp2
        go_ret
        exact ⟨rfl, B1.out⟩
  · have HA : Hid (Calls Tryd.prog 37 #[.string (mkB ds)] w fun e w' => ∃ (x : Int) (t : TypeId) (p : Value), e = .returned (.tuple #[.int .i64 x, .iface t p]) ∧ Below w.heap.size w w') := HBG.out hv
    rw [show decide (9007199254740991 < V) = true from by simp; omega, Bool.true_or]
    clear HOK HBG hv
    go_enter Tryd.func34, Tryd.ntmps34
    go_wp2_with fail
    refine (HR.out _).mono ?_
    rintro e w' ⟨rfl, rfl⟩
    go_wp2_with fail
    refine HA.out.mono ?_
    rintro e w1 ⟨x, t, p, rfl, hb⟩
    have B1 : Hid (Below _ _ w1) := hb
    clear hb
    go_wp2
    go_ret
    exact ⟨rfl, B1.out⟩
end Go.Proofs.YtdfimmekhbkglaaDoor
