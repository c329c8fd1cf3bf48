/- The digest's own raw bytes of a digest; the greatest power of two below a number. -/
import Derived.Test.YtagelkaenbdlaaaDoorDigits
import Derived.Deep.AppendLies
namespace Go.Proofs.YtagelkaenbdlaaaDoor
open Go.RowKit

/-- What a digit is worth, as the program reckons it, whatever byte it is. -/
def wth (c : Nat) : Nat := if c ≤ 57 then (c + 208) % 256 else (c + 169) % 256
theorem wth_lt (c : Nat) : wth c < 256 := by unfold wth; split <;> omega

set_option maxHeartbeats 1000000 in
theorem worth_any (c : Nat) (w : World) (hc : c < 256) :
    Calls Tryd.prog 68 #[.int .u8 c] w fun e w' => e = .returned (.int .u8 (wth c : Nat)) ∧ w' = w := by
  by_cases h : c ≤ 57
  · have hi : (c : Int) ≤ 57 := by omega
    have HV : Hid (((c : Int) - 48) % 256 = (wth c : Int)) := by show _ = _; unfold wth; rw [if_pos h]; omega
    clear h
    go_enter Tryd.func68, Tryd.ntmps68
    go_wp2
    go_ret
    exact ⟨by rw [← HV.out]; rfl, rfl⟩
  · have hi : (57 : Int) < (c : Int) := by omega
    have HV : Hid ((((c : Int) - 97) % 256 + 10) % 256 = (wth c : Int)) := by show _ = _; unfold wth; rw [if_neg h]; omega
    clear h
    go_enter Tryd.func68, Tryd.ntmps68
    go_wp2
    go_ret
    exact ⟨by rw [← HV.out]; rfl, rfl⟩

/-- The greatest power of two that is less than n, from k on. -/
def sideF : Nat → Nat → Nat → Nat
  | 0, _, k => k
  | f + 1, n, k => if 2 * k < n then sideF f n (2 * k) else k
def side (n : Nat) : Nat := sideF n n 1
theorem sideF_le : ∀ f n k : Nat, k < n → sideF f n k < n := by
  intro f
  induction f with
  | zero => exact fun n k h => h
  | succ f ih =>
    intro n k h
    unfold sideF
    split
    · exact ih n _ (by assumption)
    · exact h
theorem sideF_pos : ∀ f n k : Nat, 0 < k → 0 < sideF f n k := by
  intro f
  induction f with
  | zero => exact fun n k h => h
  | succ f ih =>
    intro n k h
    unfold sideF
    split
    · exact ih n _ (by omega)
    · exact h
theorem side_lt (n : Nat) (h : 2 ≤ n) : side n < n := sideF_le n n 1 (by omega)
theorem side_pos (n : Nat) : 0 < side n := sideF_pos n n 1 (by omega)
theorem sideF_more : ∀ f g n k : Nat, 0 < k → n ≤ k + f → n ≤ k + g → sideF f n k = sideF g n k := by
  intro f
  induction f with
  | zero =>
    intro g n k hk h1 h2
    cases g with
    | zero => rfl
    | succ g => unfold sideF; rw [if_neg (by omega)]
  | succ f ih =>
    intro g n k hk h1 h2
    cases g with
    | zero => unfold sideF; rw [if_neg (by omega)]
    | succ g =>
      unfold sideF
      split
      · exact ih g n (2 * k) (by omega) (by omega) (by omega)
      · rfl
theorem sideF_step (n k : Nat) (hk : 0 < k) (h : 2 * k < n) : sideF n n k = sideF n n (2 * k) := by
  obtain ⟨f, rfl⟩ : ∃ f, n = f + 1 := ⟨n - 1, by omega⟩
  conv => lhs; unfold sideF
  rw [if_pos h]
  exact sideF_more _ _ _ _ (by omega) (by omega) (by omega)
theorem sideF_end (n k : Nat) (h : ¬ 2 * k < n) : sideF n n k = k := by
  cases n with
  | zero => rfl
  | succ f => unfold sideF; rw [if_neg h]

set_option maxHeartbeats 1000000 in
theorem firstSide_any (n : Nat) (w : World) (hn : n ≤ 1000000) :
    Calls Tryd.prog 64 #[.int .i64 n] w fun e w' => e = .returned (.int .i64 (side n : Nat)) ∧ w' = w := by
  have hni : (n : Int) ≤ 1000000 := by omega
  go_enter Tryd.func64, Tryd.ntmps64
  go_wp2
  go_loop [3] (fun v => ∃ k : Nat, 0 < k ∧ (k = 1 ∨ k < n) ∧ side n = sideF n n k ∧ v = .int .i64 k) (fun v => n - (intOf v).toNat)
  case atStart => exact ⟨1, by omega, Or.inl rfl, rfl, rfl⟩
  case round =>
    obtain ⟨k, hk, hkn, hs, rfl⟩ := hrel
    have HS : Hid (side n = sideF n n k) := hs
    clear hs
    have hki : (k : Int) ≤ 1000000 := by omega
    by_cases hlt : 2 * k < n
    · have h1 : 2 * (k : Int) < (n : Int) := by omega
      have HN : Hid (side n = sideF n n (2 * k)) := by show _ = _; rw [HS.out, sideF_step n k hk hlt]
      go_wp2
      exact ⟨⟨2 * k, by omega, by omega, HN.out, by go_num⟩, by simp [intOf]; omega⟩
    · have h1 : (n : Int) ≤ 2 * (k : Int) := by omega
      have HN : Hid (side n = k) := by show _ = _; rw [HS.out, sideF_end n k hlt]
      go_wp2
      go_ret
      exact ⟨by rw [HN.out]; rfl, rfl⟩

set_option maxHeartbeats 1000000 in
theorem Half_any (n : Nat) (w : World) (hn : n ≤ 1000000) :
    Calls Tryd.prog 45 #[.int .i64 n] w fun e w' => e = .returned (.int .i64 (side n : Nat)) ∧ w' = w := by
  have hni : (n : Int) ≤ 1000000 := by omega
  go_enter Tryd.func45, Tryd.ntmps45
  go_wp2
  go_loop [3] (fun v => ∃ k : Nat, 0 < k ∧ (k = 1 ∨ k < n) ∧ side n = sideF n n k ∧ v = .int .i64 k) (fun v => n - (intOf v).toNat)
  case atStart => exact ⟨1, by omega, Or.inl rfl, rfl, rfl⟩
  case round =>
    obtain ⟨k, hk, hkn, hs, rfl⟩ := hrel
    have HS : Hid (side n = sideF n n k) := hs
    clear hs
    have hki : (k : Int) ≤ 1000000 := by omega
    by_cases hlt : 2 * k < n
    · have h1 : 2 * (k : Int) < (n : Int) := by omega
      have HN : Hid (side n = sideF n n (2 * k)) := by show _ = _; rw [HS.out, sideF_step n k hk hlt]
      go_wp2
      exact ⟨⟨2 * k, by omega, by omega, HN.out, by go_num⟩, by simp [intOf]; omega⟩
    · have h1 : (n : Int) ≤ 2 * (k : Int) := by omega
      have HN : Hid (side n = k) := by show _ = _; rw [HS.out, sideF_end n k hlt]
      go_wp2
      go_ret
      exact ⟨by rw [HN.out]; rfl, rfl⟩

/-- The byte that two digits say, as the program reckons it. -/
def two (a b : Nat) : Nat := (wth a * 16 % 256) ||| wth b
theorem two_lt (a b : Nat) : two a b < 256 := Nat.or_lt_two_pow (n := 8) (Nat.mod_lt _ (by decide)) (wth_lt b)
/-- The first k bytes that the digits of a text say. -/
def rawN (s : ByteArray) : Nat → List UInt8
  | 0 => []
  | k + 1 => rawN s k ++ [UInt8.ofNat (two (s.data.toList.getD (2 * k) 0).toNat (s.data.toList.getD (2 * k + 1) 0).toNat)]
theorem rawN_len (s : ByteArray) (k : Nat) : (rawN s k).length = k := by
  induction k with
  | zero => rfl
  | succ k ih => simp [rawN, ih]
def rawB (s : ByteArray) : ByteArray := ⟨(rawN s (s.size / 2)).toArray⟩
theorem getD_at (s : ByteArray) (k : Nat) (h : k < s.size) : s.data.toList.getD k 0 = s[k] := by
  have h' : k < s.data.toList.length := by rw [Array.length_toList]; exact h
  rw [List.getD, List.getElem?_eq_getElem h']
  rfl
theorem w64 (n : Nat) (h : n ≤ 1000000) : wrap64 (n : Int) = (n : Int) := by unfold wrap64; omega
theorem wr1 (k : Nat) (h : k ≤ 500000) : IntKind.i64.wrap (2 * (k : Int) + 1) = 2 * (k : Int) + 1 := by rw [IntKind.wrap_i64]; omega
theorem or_u8 (a b : Nat) (ha : a < 2 ^ 8) (hb : b < 2 ^ 8) : bits .or .u8 (a : Int) (b : Int) = ((a ||| b : Nat) : Int) := (bits_nat .u8 8 (by decide) (fun n h0 h1 => by rw [IntKind.wrap_u8]; omega) a b ha hb).2

set_option maxHeartbeats 4000000 in
set_option maxRecDepth 100000 in
theorem raw_any (s : ByteArray) (w : World) (hs : s.size ≤ 1000000) :
    Calls Tryd.prog 66 #[.string s] w fun e w' => e = .returned (.string (rawB s)) ∧ Below w.heap.size w w' := by
  obtain ⟨i0, hi, hz0, hz1, hz2⟩ := info_p infB
  have hsi : (s.size : Int) ≤ 1000000 := by omega
  obtain ⟨h2, hh2⟩ : ∃ h2, h2 = s.size / 2 := ⟨_, rfl⟩
  have hd2 : (s.size : Int) / 2 = (h2 : Int) := by omega
  have hm2 : h2 * 1 ≤ 281474976710656 := by omega
  have hm3 : h2 ≤ maxLen := by unfold maxLen; omega
  have hxw : wrap64 (h2 : Int) = (h2 : Int) := w64 h2 (by omega)
  have HH2 : Hid (h2 = s.size / 2) := hh2
  have HS : Hid (s.size ≤ 1000000) := hs
  have h2i : (h2 : Int) ≤ 500000 := by have := HS.out; clear hxw; omega
  clear hh2 hs hm3
  go_enter Tryd.func66, Tryd.ntmps66
  go_wp2_with (at_make; refine wpList_make_own _ rfl _ _ 55 rfl w.heap.size 5 i0 (.int .u8 0) 1 Tryd.underlying55 hi hz0 hz1 _ _ _ h2 rfl rfl ?m1 ?m2 ?m3 ?m4 ?_)
  case m1 => rfl
  case m2 => clear hxw; rw [hz2]; omega
  case m3 => clear hxw; unfold maxLen; omega
  case m4 => exact Nat.le_refl _
  intro w2 hown hg2
  clear hxw
  have HB2 : Hid (Below w.heap.size w w2) := (Below.refl _ _).grown hg2 (by simp) (by intro k hk; cases hk)
  have HO2 : Hid (w2.ownsRow w.heap.size 5 1 (.slice (some ⟨w.heap.size, 0, none⟩) 0 h2) 0 []) := hown
  clear hown hg2
  go_wp2
  go_loopw [3, 4] (fun v i wr => ∃ k : Nat, k ≤ h2 ∧ i = .int .i64 (2 * (k : Int)) ∧ wr.ownsRow w.heap.size 5 1 v k (bcs (rawN s k)) ∧ Below w.heap.size w wr) (fun _ i _ => (s.size + 1) - (intOf i).toNat)
  case atStart => exact ⟨0, by omega, rfl, HO2.out, HB2.out⟩
  case round =>
    clear HO2 HB2
    obtain ⟨k, hk, rfl, hok, hb⟩ := hrel
    have HO : Hid (wr.ownsRow w.heap.size 5 1 u3 k (bcs (rawN s k))) := hok
    have HB : Hid (Below w.heap.size w wr) := hb
    clear hok hb
    by_cases hlt : k < h2
    · have hsz := HS.out
      have hh := HH2.out
      have k1 : 2 * k < s.size := by omega
      have k2 : 2 * k + 1 < s.size := by omega
      have HN : Hid (rawN s (k + 1) = rawN s k ++ [UInt8.ofNat (two s[2 * k].toNat s[2 * k + 1].toNat)]) := by
        show _ = _
        rw [show rawN s (k + 1) = rawN s k ++ [UInt8.ofNat (two (s.data.toList.getD (2 * k) 0).toNat (s.data.toList.getD (2 * k + 1) 0).toNat)] from rfl, getD_at s _ k1, getD_at s _ k2]
      have HW1 : Hid (∀ w, Calls Tryd.prog 68 #[.int .u8 (s[2 * k].toNat : Nat)] w fun e w' => e = .returned (.int .u8 (wth s[2 * k].toNat : Nat)) ∧ w' = w) := fun w => worth_any _ w s[2 * k].toNat_lt
      have HW2 : Hid (∀ w, Calls Tryd.prog 68 #[.int .u8 (s[2 * k + 1].toNat : Nat)] w fun e w' => e = .returned (.int .u8 (wth s[2 * k + 1].toNat : Nat)) ∧ w' = w) := fun w => worth_any _ w s[2 * k + 1].toNat_lt
      have l1 := wth_lt s[2 * k].toNat
      have hor : bits .or .u8 ((wth s[2 * k].toNat * 16 % 256 : Nat) : Int) (wth s[2 * k + 1].toNat : Int) = ((two s[2 * k].toNat s[2 * k + 1].toNat : Nat) : Int) := or_u8 _ _ (Nat.mod_lt _ (by decide)) (wth_lt _)
      have htw := two_lt s[2 * k].toNat s[2 * k + 1].toNat
      have HT : Hid (two s[2 * k].toNat s[2 * k + 1].toNat < 256) := htw
      generalize two s[2 * k].toNat s[2 * k + 1].toNat = tw at hor HN HT htw
      generalize wth s[2 * k].toNat = x1 at HW1 l1 hor
      generalize wth s[2 * k + 1].toNat = x2 at HW2 hor
      have hs1 : Op.shift .shl .u8 (x1 : Int) .u64 4 = pure (.int .u8 ((x1 * 16 % 256 : Nat) : Int)) := by
        rw [shift_shl _ _ _ _ (by omega) (by decide)]
        have e : IntKind.u8.wrap ((x1 : Int) * 2 ^ 4) = ((x1 * 16 % 256 : Nat) : Int) := by rw [IntKind.wrap_u8]; omega
        exact congrArg (fun z => (pure (.int .u8 z) : Sem Value)) e
      generalize x1 * 16 % 256 = z1 at hs1 hor
      obtain ⟨c1, hc1⟩ : ∃ c1 : Int, (s[2 * k].toNat : Int) = c1 := ⟨_, rfl⟩
      obtain ⟨c2, hc2⟩ : ∃ c2 : Int, (s[2 * k + 1].toNat : Int) = c2 := ⟨_, rfl⟩
      rw [hc1] at HW1
      rw [hc2] at HW2
      have b0 : (0 : Int) ≤ 2 * (k : Int) := by omega
      have b1 : (0 : Int) ≤ 2 * (k : Int) + 1 := by omega
      have d0 : 2 * (k : Int) < s.size := by omega
      have d1 : 2 * (k : Int) + 1 < s.size := by omega
      have t0 : (2 * (k : Int)).toNat = 2 * k := by omega
      have t1 : (2 * (k : Int) + 1).toNat = 2 * k + 1 := by omega
      have hki : (k : Int) ≤ 500000 := by omega
      have q1 : k + 1 ≤ maxLen := by unfold maxLen; omega
      have q2 : (k + 1) * 1 ≤ 140737488355328 := by omega
      have q3 : w.heap.size ≤ ((wr.alloc (.cells #[.int .u8 (tw : Int)] 5)).drew).heap.size := by show w.heap.size ≤ (wr.alloc (.cells #[.int .u8 (tw : Int)] 5)).heap.size; rw [World.size_alloc]; have := HB.out.size; omega
      have q4 : ((wr.alloc (.cells #[.int .u8 (tw : Int)] 5)).drew).heap.size = wr.heap.size + 1 := by show (wr.alloc (.cells #[.int .u8 (tw : Int)] 5)).heap.size = _; rw [World.size_alloc]
      have HOW : Hid (((wr.alloc (.cells #[.int .u8 (tw : Int)] 5)).drew).ownsRow w.heap.size 5 1 u3 k (bcs (rawN s k))) := HO.out.alloc _
      have hnews : ∀ (j : Nat) (u : Value), [Value.int .u8 (tw : Int)][j]? = some u → ((wr.alloc (.cells #[.int .u8 (tw : Int)] 5)).drew).cell? ((⟨wr.heap.size, 0, none⟩ : Addr).add j) = some u := by
        intro j u hj
        match j, hj with
        | 0, hj =>
          simp at hj
          subst hj
          show (wr.alloc (.cells #[.int .u8 (tw : Int)] 5)).cell? ⟨wr.heap.size, 0, none⟩ = _
          rw [Lib.cell_of_heap (heap_alloc_new wr _)]
          rfl
      have hone : ∀ u ∈ [Value.int .u8 (tw : Int)], u.oneCell' = true := by intro u hu; simp at hu; subst hu; rfl
      have HNW : Hid _ := hnews
      have j1 : IntKind.i64.wrap (2 * (k : Int) + 1) = 2 * (k : Int) + 1 := wr1 k (by omega)
      clear hnews hsz hh l1 htw
      go_wp2
      go_region_held3 (fun w' => Below w.heap.size w w')
        (first | assumption | (exact HB.out.drew) | (exact (HB.out.alloc HB.out.size _).drew) | (exact ((HB.out.alloc HB.out.size _).drew).grown hgrow q3 (fun j hj => (HO.out.lt j hj).1)))
        (first
          | (go_at_call_of 68 (Value.int IntKind.u8 c1); refine (HW1.out _).mono ?_; rintro e w' ⟨rfl, rfl⟩)
          | (go_at_call_of 68 (Value.int IntKind.u8 c2); refine (HW2.out _).mono ?_; rintro e w' ⟨rfl, rfl⟩)
          | ((refine step_append_lies ((wr.alloc (.cells #[.int .u8 (tw : Int)] 5)).drew) (by rfl) (Operand.tmp 16) (Operand.tmp 28) 55 (by rfl) w.heap.size 5 i0 (.int .u8 0) 1 1 Tryd.underlying55 hi hz0 hz1 hz2 rfl (by decide) u3 k (bcs (rawN s k)) (by rfl) HOW.out ⟨wr.heap.size, 0, none⟩ 1 1 [.int .u8 (tw : Int)] (by rfl) rfl HNW.out hone (by decide) q1 q2 q3 (wr.heap.size + 1) q4 ?_; intro g cap w1 hown1 hgrow hat hltg))
          | fail)
      all_goals
        have hrow : ∀ j, Value.ownBlock u3 = some j → w.heap.size ≤ j := fun j hj => (HO.out.lt j hj).1
        have HB5 : Hid (Below w.heap.size w w1) := ((HB.out.alloc HB.out.size _).drew).grown hgrow q3 hrow
        have HO5 : Hid (w1.ownsRow w.heap.size 5 1 (.slice (some ⟨g, 0, none⟩) (k + 1) cap) (k + 1) (bcs (rawN s (k + 1)))) := by
          have e : bcs (rawN s (k + 1)) = bcs (rawN s k) ++ [.int .u8 (tw : Int)] := by
            rw [HN.out]
            have e2 : (UInt8.ofNat tw).toNat = tw := by have := HT.out; simp [UInt8.toNat_ofNat']; omega
            simp [bcs, e2]
          rw [e]
          exact hown1
        clear hown1 hgrow hat hltg hrow
        go_wp2
        exact ⟨⟨k + 1, by omega, by go_num, HO5.out, HB5.out⟩, by simp [intOf]; omega⟩
    · obtain rfl : k = h2 := by omega
      have hh := HH2.out
      have hge : (s.size : Int) ≤ 2 * (k : Int) + 1 := by omega
      have HRW : Hid (rawB s = ⟨(rawN s k).toArray⟩) := by show _ = _; unfold rawB; rw [← hh]
      have hcv : ∃ r, (convert 55 9 u3).run Tryd.prog wr = .ok (.string ⟨(rawN s k).toArray⟩) wr ∧ r = u3 := by
        refine ⟨u3, ?_, rfl⟩
        have hc := fun (g : Nat) (hg : u3.ownBlock = some g) => HO.out.cells hg
        rcases HO.out.2 with ⟨hv, h0⟩ | ⟨g, cap, cur, hv, _⟩
        · rw [hv, h0]
          exact run_convert_bytes_nil wr 55 5 Tryd.underlying55 Tryd.underlying5 0 0 9 Tryd.underlying9
        · have hl : (rawN s k).length = k := rawN_len s k
          rw [hv]
          conv => lhs; rw [← hl]
          exact run_convert_bytes_back wr 55 9 5 ⟨g, 0, none⟩ cap (rawN s k) Tryd.underlying55 Tryd.underlying5 Tryd.underlying9 fun j hj => hc g (by rw [hv]; rfl) j _ (by simp [bcs, hj])
      obtain ⟨_, hcv, _⟩ := hcv
      clear hh
      go_wp2
      go_ret
      exact ⟨by rw [HRW.out]; rfl, HB.out⟩
end Go.Proofs.YtagelkaenbdlaaaDoor
