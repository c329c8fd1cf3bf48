/- Digits of a number, and what must be in any case. -/
import Derived.Test.YtfddhdpnoliamaaQuY
namespace Go.Proofs.Ytfddhdpnoliamaa
open Go.RowKit Go.Shelf

def dgL (n : Nat) : List UInt8 := if n < 10 then [UInt8.ofNat (48 + n)] else if n < 100 then [UInt8.ofNat (48 + n / 10), UInt8.ofNat (48 + n % 10)] else [UInt8.ofNat (48 + n / 100), UInt8.ofNat (48 + n / 10 % 10), UInt8.ofNat (48 + n % 10)]
def dgB (n : Nat) : ByteArray := ⟨(dgL n).toArray⟩

set_option maxHeartbeats 2000000 in
set_option maxRecDepth 100000 in
theorem digits1 (n : Nat) (hn : n < 10) (w : World) :
    Calls Try.prog 19 #[.int .i64 n] w fun e w' => e = .returned (.string (dgB n)) ∧ Below w.heap.size w w' := by
  have HD : Hid (dgB n = ⟨#[UInt8.ofNat (48 + n)]⟩) := by unfold Hid dgB dgL; rw [if_pos hn]
  obtain ⟨m, hm⟩ : ∃ m, m = 48 + n := ⟨_, rfl⟩
  rw [← hm] at HD
  have hu : ((UInt8.ofNat m).toNat : Int) = (m : Int) := by
    have : (UInt8.ofNat m).toNat = m := by rw [UInt8.toNat_ofNat']; omega
    omega
  have hcv : (convert 69 9 (.slice (some ⟨w.heap.size, 0, none⟩) 1 1)).run Try.prog (w.alloc (.cells #[.int .u8 (m : Int)] 5)) = .ok (.string ⟨#[UInt8.ofNat m]⟩) (w.alloc (.cells #[.int .u8 (m : Int)] 5)) :=
    run_convert_bytes_back (w.alloc (.cells #[.int .u8 (m : Int)] 5)) 69 9 5 ⟨w.heap.size, 0, none⟩ 1 [UInt8.ofNat m] Try.underlying69 Try.underlying5 Try.underlying9 fun j hj => by
      have : j = 0 := by simp at hj; omega
      subst this
      rw [add0]
      refine al_at w _ _ _ 0 _ rfl ?_
      show some (Value.int .u8 (m : Int)) = some (.int .u8 ((UInt8.ofNat m).toNat : Int))
      rw [hu]
  have k1 : (n : Int) < 10 := by omega
  have k2 : (48 : Int) + (n : Int) = (m : Int) := by omega
  have k3 : IntKind.i64.wrap (m : Int) = (m : Int) := by rw [IntKind.wrap_i64]; omega
  have k4 : IntKind.u8.wrap (m : Int) = (m : Int) := by rw [IntKind.wrap_u8]; omega
  have HB : Hid (Below w.heap.size w (w.alloc (.cells #[.int .u8 (m : Int)] 5))) := (Below.refl _ w).alloc (Nat.le_refl _) _
  clear hm hn hu
  go_enter Try.func19, Try.ntmps19
  go_wp2
  go_ret
  exact ⟨by rw [HD.out]; rfl, HB.out⟩

theorem d_bytes {s : ByteArray} {l : List UInt8} (h : s.data.toList = l) : s = ⟨l.toArray⟩ := by
  cases s
  simp at h
  rw [← h]
theorem catS (x y z : ByteArray) (h : x.data.toList ++ y.data.toList = z.data.toList) (hl : x.size + y.size ≤ 9223372036854775807) (W : World) : (Op.stringOp .add x y).run Try.prog W = .ok (.string z) W := by
  have e : x ++ y = z := by
    rw [d_bytes (s := z) rfl, ← h]
    exact d_bytes (by simp)
  have hl2 : (x.size : Int) + (y.size : Int) ≤ 9223372036854775807 := by omega
  simp [Op.stringOp, e, hl2]
theorem dgB_size (n : Nat) : (dgB n).size ≤ 3 := by
  show (dgL n).toArray.size ≤ 3
  unfold dgL
  split
  · simp
  · split <;> simp

set_option maxHeartbeats 2000000 in
set_option maxRecDepth 100000 in
theorem digits_step (n a b : Nat) (ha : a = n / 10) (hb : b = n % 10) (hn : 10 ≤ n) (hn2 : n < 1000) (hcat : dgL a ++ dgL b = dgL n) (w : World)
    (hA : ∀ W : World, Calls Try.prog 19 #[.int .i64 a] W fun e w' => e = .returned (.string (dgB a)) ∧ Below W.heap.size W w')
    (hB : ∀ W : World, Calls Try.prog 19 #[.int .i64 b] W fun e w' => e = .returned (.string (dgB b)) ∧ Below W.heap.size W w') :
    Calls Try.prog 19 #[.int .i64 n] w fun e w' => e = .returned (.string (dgB n)) ∧ Below w.heap.size w w' := by
  have HA : Hid (∀ W : World, Calls Try.prog 19 #[.int .i64 a] W fun e w' => e = .returned (.string (dgB a)) ∧ Below W.heap.size W w') := hA
  have HB : Hid (∀ W : World, Calls Try.prog 19 #[.int .i64 b] W fun e w' => e = .returned (.string (dgB b)) ∧ Below W.heap.size W w') := hB
  have hc := catS (dgB a) (dgB b) (dgB n) (by show (dgL a).toArray.toList ++ (dgL b).toArray.toList = (dgL n).toArray.toList; simpa using hcat) (by have := dgB_size a; have := dgB_size b; omega)
  have k1 : ¬ (n : Int) < 10 := by omega
  have k2 : (n : Int) / 10 = (a : Int) := by omega
  have k3 : (n : Int) % 10 = (b : Int) := by omega
  have k4 : (n : Int).tdiv 10 = (a : Int) := by rw [Int.tdiv_eq_ediv_of_nonneg (by omega)]; exact k2
  have k5 : (n : Int).tmod 10 = (b : Int) := by rw [Int.tmod_eq_emod_of_nonneg (by omega)]; exact k3
  have k6 : IntKind.i64.wrap (a : Int) = (a : Int) := by rw [IntKind.wrap_i64]; omega
  have k7 : IntKind.i64.wrap (b : Int) = (b : Int) := by rw [IntKind.wrap_i64]; omega
  generalize dgB a = da at *
  generalize dgB b = db at *
  generalize dgB n = dn at *
  clear hA hB hcat ha hb hn hn2
  go_enter Try.func19, Try.ntmps19
  go_wp2_with fail
  refine (HA.out _).mono ?_
  rintro e w1 ⟨rfl, hb1⟩
  go_wp2_with fail
  refine (HB.out _).mono ?_
  rintro e w2 ⟨rfl, hb2⟩
  have HW : Hid (Below w.heap.size w w2) := hb1.trans (hb2.mono hb1.size)
  clear hb1 hb2
  go_wp2
  go_ret
  exact ⟨rfl, HW.out⟩

theorem digits_any (n : Nat) (hn : n < 1000) (w : World) :
    Calls Try.prog 19 #[.int .i64 n] w fun e w' => e = .returned (.string (dgB n)) ∧ Below w.heap.size w w' := by
  have h2 : ∀ m : Nat, m < 100 → ∀ W : World, Calls Try.prog 19 #[.int .i64 m] W fun e w' => e = .returned (.string (dgB m)) ∧ Below W.heap.size W w' := by
    intro m hm W
    by_cases h : m < 10
    · exact digits1 m h W
    · refine digits_step m _ _ rfl rfl (by omega) (by omega) ?_ W (fun W => digits1 _ (by omega) W) (fun W => digits1 _ (by omega) W)
      unfold dgL
      rw [if_pos (by omega), if_pos (by omega), if_neg h, if_pos hm]
      rfl
  by_cases h : n < 100
  · exact h2 n h w
  · refine digits_step n _ _ rfl rfl (by omega) (by omega) ?_ w (fun W => h2 _ (by omega) W) (fun W => h2 _ (by omega) W)
    unfold dgL
    rw [if_neg (by omega), if_pos (by omega), if_pos (by omega), if_neg (by omega), if_neg h, show n / 10 / 10 = n / 100 from by omega]
    rfl

/-- The name of a job that a law makes. -/
def nmB1 (n : Nat) : ByteArray := ⟨(106 :: dgL n).toArray⟩
theorem nm_cat (n : Nat) (W : World) : (Op.stringOp .add ⟨#[106]⟩ (dgB n)).run Try.prog W = .ok (.string (nmB1 n)) W :=
  catS _ _ _ (by show [106] ++ (dgL n).toArray.toList = (106 :: dgL n).toArray.toList; simp) (by have := dgB_size n; have : (⟨#[106]⟩ : ByteArray).size = 1 := rfl; omega) W
theorem ofNat_inj {a b : Nat} (ha : a < 10) (hb : b < 10) (h : UInt8.ofNat (48 + a) = UInt8.ofNat (48 + b)) : a = b := by
  have := congrArg UInt8.toNat h
  rw [UInt8.toNat_ofNat', UInt8.toNat_ofNat'] at this
  omega
theorem dgL_len (n : Nat) : (dgL n).length = if n < 10 then 1 else if n < 100 then 2 else 3 := by
  unfold dgL
  split
  · rfl
  · split <;> rfl
theorem dgL_inj {a b : Nat} (ha : a < 1000) (hb : b < 1000) (h : dgL a = dgL b) : a = b := by
  have hl := congrArg List.length h
  rw [dgL_len, dgL_len] at hl
  by_cases a1 : a < 10
  · have b1 : b < 10 := by
      rw [if_pos a1] at hl
      by_cases hb1 : b < 10
      · exact hb1
      · rw [if_neg hb1] at hl
        split at hl <;> omega
    unfold dgL at h
    rw [if_pos a1, if_pos b1] at h
    simp only [List.cons.injEq, and_true] at h
    exact ofNat_inj a1 b1 h
  · have b1 : ¬ b < 10 := fun hb1 => by
      rw [if_neg a1, if_pos hb1] at hl
      split at hl <;> omega
    rw [if_neg a1, if_neg b1] at hl
    by_cases a2 : a < 100
    · have b2 : b < 100 := by
        rw [if_pos a2] at hl
        by_cases hb2 : b < 100
        · exact hb2
        · rw [if_neg hb2] at hl; omega
      unfold dgL at h
      rw [if_neg a1, if_neg b1, if_pos a2, if_pos b2] at h
      simp only [List.cons.injEq, and_true] at h
      have h1 := ofNat_inj (by omega) (by omega) h.1
      have h2 := ofNat_inj (by omega) (by omega) h.2
      omega
    · have b2 : ¬ b < 100 := fun hb2 => by rw [if_neg a2, if_pos hb2] at hl; omega
      unfold dgL at h
      rw [if_neg a1, if_neg b1, if_neg a2, if_neg b2] at h
      simp only [List.cons.injEq, and_true] at h
      have h1 := ofNat_inj (by omega) (by omega) h.1
      have h2 := ofNat_inj (by omega) (by omega) h.2.1
      have h3 := ofNat_inj (by omega) (by omega) h.2.2
      omega
theorem nm_inj {a b : Nat} (ha : a < 1000) (hb : b < 1000) (h : nmB1 a = nmB1 b) : a = b := by
  have := congrArg (fun s : ByteArray => s.data.toList) h
  simp only [nmB1] at this
  exact dgL_inj ha hb (by simpa using this)
theorem nm_ok {n : Nat} (hn : n < 1000) : nameOk (nmB1 n) = true := by
  have e : (nmB1 n).toList = 106 :: dgL n := by rw [Lib.toList_data]; simp [nmB1]
  have hd : ∀ m : Nat, m < 10 → nmB ((UInt8.ofNat (48 + m)).toNat : Int) = true := by
    intro m hm
    have : (UInt8.ofNat (48 + m)).toNat = 48 + m := by rw [UInt8.toNat_ofNat']; omega
    rw [this]
    unfold nmB
    have : decide (48 ≤ ((48 + m : Nat) : Int) ∧ ((48 + m : Nat) : Int) ≤ 57) = true := by simp; omega
    rw [this]
    simp
  have hall : (dgL n).all (fun c => nmB (c.toNat : Int)) = true := by
    unfold dgL
    split
    · simp only [List.all_cons, List.all_nil, Bool.and_true]; exact hd _ (by omega)
    · split
      · simp only [List.all_cons, List.all_nil, Bool.and_true, hd (n / 10) (by omega), hd (n % 10) (by omega)]
      · simp only [List.all_cons, List.all_nil, Bool.and_true, hd (n / 100) (by omega), hd (n / 10 % 10) (by omega), hd (n % 10) (by omega)]
  have hsz : (nmB1 n).size ≤ 20 := by
    have := dgB_size n
    show (106 :: dgL n).toArray.size ≤ 20
    have : (dgL n).toArray.size ≤ 3 := this
    simp at this ⊢
    omega
  unfold nameOk
  rw [e]
  have h106 : nmB 106 = true := by decide
  simp [hsz, hall, h106]
end Go.Proofs.Ytfddhdpnoliamaa
