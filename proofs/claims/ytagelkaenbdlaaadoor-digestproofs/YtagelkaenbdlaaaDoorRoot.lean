/- The digest's own pair, leaf, root, Root and Pair. -/
import Derived.Test.YtagelkaenbdlaaaDoorRaw
import Derived.Test.YtagelkaenbdlaaaDoorBegun
namespace Go.Proofs.YtagelkaenbdlaaaDoor
open Go.RowKit

/-- The sum, its numbers laid. -/
def sm (s : ByteArray) : ByteArray := sumB s sq8 cuL
theorem sm_dig (s : ByteArray) : digOk (sm s) = true := sum_dig s sq8 cuL
theorem sm_size (s : ByteArray) : (sm s).size = 64 := by
  have := sm_dig s
  unfold digOk at this
  simp at this
  exact this.1
def leafB (s : ByteArray) : ByteArray := sm ⟨(0 :: s.data.toList).toArray⟩
def pairB (a b : ByteArray) : ByteArray := sm ⟨(1 :: ((rawB a).data.toList ++ (rawB b).data.toList)).toArray⟩
theorem catS (x y z : ByteArray) (h : x.data.toList ++ y.data.toList = z.data.toList) (hl : x.size + y.size ≤ 9223372036854775807) (W : World) : (Op.stringOp .add x y).run Tryd.prog W = .ok (.string z) W := by
  have e : x ++ y = z := by
    rw [d_bytes (s := z) rfl, ← h]
    exact d_bytes (by simp)
  have hl2 : (x.size : Int) + (y.size : Int) ≤ 9223372036854775807 := by omega
  simp [Op.stringOp, e, hl2]
theorem rawB_size (s : ByteArray) : (rawB s).size = s.size / 2 := by
  unfold rawB
  rw [d_size (s := ⟨(rawN s (s.size / 2)).toArray⟩) (l := rawN s (s.size / 2)) rfl, rawN_len]

set_option maxHeartbeats 1000000 in
theorem leaf_any (s : ByteArray) (w : World) (hs : s.size ≤ 1000000) (h : Roots w) :
    Calls Tryd.prog 63 #[.string s] w fun e w' => e = .returned (.string (leafB s)) ∧ Below w.heap.size w w' := by
  obtain ⟨x, hx⟩ : ∃ x : ByteArray, x = ⟨(0 :: s.data.toList).toArray⟩ := ⟨_, rfl⟩
  have k1 := catS ⟨#[0]⟩ s x (by rw [hx]; rfl) (by have : (⟨#[0]⟩ : ByteArray).size = 1 := rfl; omega)
  have HS : Hid (Calls Tryd.prog 10 #[.string x] w fun e w' => e = .returned (.string (leafB s)) ∧ Below w.heap.size w w') := by
    have hz : x.size ≤ 140737488355328 := by
      rw [hx, d_size (s := ⟨(0 :: s.data.toList).toArray⟩) (l := 0 :: s.data.toList) rfl, List.length_cons, ← d_size (s := s) rfl]
      omega
    have := Sum_any x w hz h
    unfold leafB sm
    rw [← hx]
    exact this
  generalize leafB s = y at HS
  clear hx
  go_enter Tryd.func63, Tryd.ntmps63
  go_wp2_with fail
  refine HS.out.mono ?_
  rintro e w1 ⟨rfl, hb1⟩
  have B1 : Hid (Below w.heap.size w w1) := hb1
  clear hb1
  go_wp2
  go_ret
  exact ⟨rfl, B1.out⟩

set_option maxHeartbeats 1000000 in
theorem pair_any (a b : ByteArray) (w : World) (ha : a.size = 64) (hb : b.size = 64) (h : Roots w) :
    Calls Tryd.prog 56 #[.string a, .string b] w fun e w' => e = .returned (.string (pairB a b)) ∧ Below w.heap.size w w' := by
  have ra := rawB_size a
  have rb := rawB_size b
  obtain ⟨x, hx⟩ : ∃ x : ByteArray, x = ⟨(1 :: (rawB a).data.toList).toArray⟩ := ⟨_, rfl⟩
  obtain ⟨y, hy⟩ : ∃ y : ByteArray, y = ⟨(1 :: ((rawB a).data.toList ++ (rawB b).data.toList)).toArray⟩ := ⟨_, rfl⟩
  have k1 := catS ⟨#[1]⟩ (rawB a) x (by rw [hx]; rfl) (by have : (⟨#[1]⟩ : ByteArray).size = 1 := rfl; omega)
  have hxz : x.size = 33 := by rw [hx, d_size (s := ⟨(1 :: (rawB a).data.toList).toArray⟩) (l := 1 :: (rawB a).data.toList) rfl, List.length_cons, ← d_size (s := rawB a) rfl]; omega
  have k2 := catS x (rawB b) y (by rw [hx, hy]; rfl) (by omega)
  have hyz : y.size = 65 := by rw [hy, d_size (s := ⟨(1 :: ((rawB a).data.toList ++ (rawB b).data.toList)).toArray⟩) (l := 1 :: ((rawB a).data.toList ++ (rawB b).data.toList)) rfl, List.length_cons, List.length_append, ← d_size (s := rawB a) rfl, ← d_size (s := rawB b) rfl]; omega
  have HA : Hid (∀ w, Calls Tryd.prog 66 #[.string a] w fun e w' => e = .returned (.string (rawB a)) ∧ Below w.heap.size w w') := fun w => raw_any a w (by omega)
  have HB : Hid (∀ w, Calls Tryd.prog 66 #[.string b] w fun e w' => e = .returned (.string (rawB b)) ∧ Below w.heap.size w w') := fun w => raw_any b w (by omega)
  have HS : Hid (∀ w, Roots w → Calls Tryd.prog 10 #[.string y] w fun e w' => e = .returned (.string (pairB a b)) ∧ Below w.heap.size w w') := fun w h => by
    have := Sum_any y w (by omega) h
    unfold pairB sm
    rw [← hy]
    exact this
  have HR : Hid (Roots w) := h
  generalize pairB a b = z at HS
  generalize rawB a = p at k1 HA
  generalize rawB b = q at k2 HB
  clear hx hy hxz hyz ra rb ha hb h
  go_enter Tryd.func56, Tryd.ntmps56
  go_wp2_with fail
  refine (HA.out w).mono ?_
  rintro e w1 ⟨rfl, hb1⟩
  have B1 : Hid (Below w.heap.size w w1) := hb1
  clear hb1
  go_wp2_with fail
  refine (HB.out w1).mono ?_
  rintro e w2 ⟨rfl, hb2⟩
  have B2 : Hid (Below w.heap.size w w2) := B1.out.trans (hb2.mono B1.out.size)
  clear hb2
  go_wp2_with fail
  refine (HS.out w2 (HR.out.up B2.out)).mono ?_
  rintro e w3 ⟨rfl, hb3⟩
  have B3 : Hid (Below w.heap.size w w3) := B2.out.trans (hb3.mono B2.out.size)
  clear hb3
  go_wp2
  go_ret
  exact ⟨rfl, B3.out⟩

/-- The root of texts. -/
def rootF : Nat → List ByteArray → ByteArray
  | 0, _ => sm ⟨#[]⟩
  | f + 1, ss => if ss.length = 0 then sm ⟨#[]⟩ else if ss.length = 1 then leafB (ss.getD 0 ⟨#[]⟩) else pairB (rootF f (ss.take (side ss.length))) (rootF f (ss.drop (side ss.length)))
def rootB (ss : List ByteArray) : ByteArray := rootF ss.length ss
theorem rootF_dig (f : Nat) (ss : List ByteArray) : digOk (rootF f ss) = true := by
  cases f with
  | zero => exact sm_dig _
  | succ f =>
    unfold rootF
    split
    · exact sm_dig _
    · split
      · exact sm_dig _
      · exact sm_dig _
theorem dig_size {s : ByteArray} (h : digOk s = true) : s.size = 64 := by
  unfold digOk at h
  simp at h
  exact h.1
theorem rootF_more : ∀ f g (ss : List ByteArray), ss.length ≤ f → ss.length ≤ g → rootF f ss = rootF g ss := by
  intro f
  induction f with
  | zero =>
    intro g ss h1 _
    cases g with
    | zero => rfl
    | succ g => unfold rootF; rw [if_pos (by omega)]
  | succ f ih =>
    intro g ss h1 h2
    cases g with
    | zero => unfold rootF; rw [if_pos (by omega)]
    | succ g =>
      unfold rootF
      by_cases h0 : ss.length = 0
      · rw [if_pos h0, if_pos h0]
      · rw [if_neg h0, if_neg h0]
        by_cases h3 : ss.length = 1
        · rw [if_pos h3, if_pos h3]
        · rw [if_neg h3, if_neg h3]
          have hl := side_lt ss.length (by omega)
          have hp := side_pos ss.length
          rw [ih g (ss.take (side ss.length)) (by rw [List.length_take]; omega) (by rw [List.length_take]; omega), ih g (ss.drop (side ss.length)) (by rw [List.length_drop]; omega) (by rw [List.length_drop]; omega)]
theorem rootB_split (ss : List ByteArray) (h : 2 ≤ ss.length) : rootB ss = pairB (rootB (ss.take (side ss.length))) (rootB (ss.drop (side ss.length))) := by
  obtain ⟨f, hf⟩ : ∃ f, ss.length = f + 1 := ⟨ss.length - 1, by omega⟩
  have hl := side_lt ss.length h
  have hp := side_pos ss.length
  have e : rootB ss = pairB (rootF f (ss.take (side ss.length))) (rootF f (ss.drop (side ss.length))) := by
    unfold rootB
    rw [show rootF ss.length ss = rootF (f + 1) ss from by rw [hf]]
    conv => lhs; unfold rootF
    rw [if_neg (by omega), if_neg (by omega)]
  rw [e]
  unfold rootB
  rw [rootF_more f _ _ (by rw [List.length_take]; omega) (Nat.le_refl _), rootF_more f _ _ (by rw [List.length_drop]; omega) (Nat.le_refl _)]

/-- Texts that lie one behind the other. -/
def Row (w : World) (g o : Nat) (ss : List ByteArray) : Prop := ∀ j (hj : j < ss.length), w.cell? ⟨g, o + j, none⟩ = some (.string ss[j])
theorem Row.up {w w' : World} {g o : Nat} {ss : List ByteArray} (h : Row w g o ss) (hb : Below w.heap.size w w') (hg : g < w.heap.size) : Row w' g o ss := fun j hj => (hb.cell (p := ⟨g, o + j, none⟩) hg).trans (h j hj)
theorem Row.take {w : World} {g o : Nat} {ss : List ByteArray} (h : Row w g o ss) (k : Nat) : Row w g o (ss.take k) := fun j hj => by
  rw [h j (by rw [List.length_take] at hj; omega)]
  simp
theorem Row.drop {w : World} {g o : Nat} {ss : List ByteArray} (h : Row w g o ss) (k : Nat) : Row w g (o + k) (ss.drop k) := fun j hj => by
  rw [Nat.add_assoc, h (k + j) (by rw [List.length_drop] at hj; omega)]
  simp
theorem cut_front (g o n cap k : Nat) (hk : k ≤ n) (hc : n ≤ cap) (W : World) : (Instr.slice 25 (.slice (some ⟨g, o, none⟩) n cap) none (some (.int .i64 (k : Int))) none).run Tryd.prog W = .ok (.slice (some ⟨g, o, none⟩) k cap) W := by
  have hkc : k ≤ cap := Nat.le_trans hk hc
  simp [Instr.slice, Instr.sliceBounds, Instr.sliceBound, run_underlying Tryd.underlying25, asIntOf, hkc]
  intro _
  simp [Addr.add]
theorem cut_back (g o n cap k : Nat) (hk : k < n) (hc : n ≤ cap) (W : World) : (Instr.slice 25 (.slice (some ⟨g, o, none⟩) n cap) (some (.int .i64 (k : Int))) none none).run Tryd.prog W = .ok (.slice (some ⟨g, o + k, none⟩) (n - k) (cap - k)) W := by
  have hkn : k ≤ n := by omega
  simp [Instr.slice, Instr.sliceBounds, Instr.sliceBound, run_underlying Tryd.underlying25, asIntOf, hkn, Addr.add]
  rw [if_neg (by omega)]
  by_cases h0 : k = 0
  · simp [h0]
  · simp [h0]

set_option maxHeartbeats 2000000 in
set_option maxRecDepth 100000 in
theorem root_any : ∀ (f : Nat) (g o cap : Nat) (ss : List ByteArray) (w : World), ss.length ≤ f → 0 < ss.length → ss.length ≤ 2000 → ss.length ≤ cap → (∀ s ∈ ss, s.size ≤ 100000) → Row w g o ss → Roots w →
    Calls Tryd.prog 42 #[.slice (some ⟨g, o, none⟩) ss.length cap] w fun e w' => e = .returned (.string (rootB ss)) ∧ Below w.heap.size w w' := by
  intro f
  induction f with
  | zero => intro g o cap ss w h1 h2; omega
  | succ f ih =>
    intro g o cap ss w h1 h2 h3 h4 h5 h6 h7
    have hg : g < w.heap.size := World.block_lt_of_cell? w ⟨g, o + 0, none⟩ (h6 0 h2)
    by_cases hone : ss.length = 1
    · have c0 : w.cell? ⟨g, o, none⟩ = some (.string ss[0]) := h6 0 h2
      have hB : rootB ss = leafB ss[0] := by
        unfold rootB
        rw [show rootF ss.length ss = rootF 1 ss from by rw [hone]]
        unfold rootF
        rw [if_neg (by omega), if_pos hone]
        congr 1
        simp [h2]
      have HL : Hid (Calls Tryd.prog 63 #[.string ss[0]] w fun e w' => e = .returned (.string (rootB ss)) ∧ Below w.heap.size w w') := by rw [hB]; exact leaf_any ss[0] w (by have := h5 ss[0] (List.getElem_mem h2); omega) h7
      generalize rootB ss = y at HL
      generalize ss[0] = x at c0 HL
      rw [hone]
      clear ih h1 h2 h3 h4 h5 h6 h7 hone hB
      go_enter Tryd.func42, Tryd.ntmps42
      go_wp2_with fail
      refine HL.out.mono ?_
      rintro e w1 ⟨rfl, hb1⟩
      have B1 : Hid (Below w.heap.size w w1) := hb1
      clear hb1
      go_wp2
      go_ret
      exact ⟨rfl, B1.out⟩
    · have hl := side_lt ss.length (by omega)
      have hp := side_pos ss.length
      have hsp := rootB_split ss (by omega)
      have HF : Hid (Calls Tryd.prog 64 #[.int .i64 ss.length] w fun e w' => e = .returned (.int .i64 (side ss.length : Nat)) ∧ w' = w) := firstSide_any ss.length w (by omega)
      generalize side ss.length = k at hl hp hsp HF
      have e1 : (ss.take k).length = k := by rw [List.length_take]; omega
      have e2 : (ss.drop k).length = ss.length - k := List.length_drop ..
      have HR1 : Hid (∀ w', Below w.heap.size w w' → Calls Tryd.prog 42 #[.slice (some ⟨g, o, none⟩) k cap] w' fun e w'' => e = .returned (.string (rootB (ss.take k))) ∧ Below w'.heap.size w' w'') := fun w' hb => by
        have := ih g o cap (ss.take k) w' (by omega) (by omega) (by omega) (by omega) (fun s hs => h5 s (List.mem_of_mem_take hs)) ((h6.take k).up hb hg) (h7.up hb)
        rwa [e1] at this
      have HR2 : Hid (∀ w', Below w.heap.size w w' → Calls Tryd.prog 42 #[.slice (some ⟨g, o + k, none⟩) (ss.length - k) (cap - k)] w' fun e w'' => e = .returned (.string (rootB (ss.drop k))) ∧ Below w'.heap.size w' w'') := fun w' hb => by
        have := ih g (o + k) (cap - k) (ss.drop k) w' (by omega) (by omega) (by omega) (by omega) (fun s hs => h5 s (List.mem_of_mem_drop hs)) ((h6.drop k).up hb hg) (h7.up hb)
        rwa [e2] at this
      have HP : Hid (∀ w', Below w.heap.size w w' → Calls Tryd.prog 56 #[.string (rootB (ss.take k)), .string (rootB (ss.drop k))] w' fun e w'' => e = .returned (.string (rootB ss)) ∧ Below w'.heap.size w' w'') := fun w' hb => by
        rw [hsp]
        exact pair_any _ _ w' (dig_size (rootF_dig _ _)) (dig_size (rootF_dig _ _)) (h7.up hb)
      have hs1 := cut_front g o ss.length cap k (by omega) h4
      have hs2 := cut_back g o ss.length cap k hl h4
      generalize rootB (ss.take k) = r1 at HR1 HP
      generalize rootB (ss.drop k) = r2 at HR2 HP
      generalize rootB ss = r at HP
      have hn0 : ((ss.length : Int) == 0) = false := beq_eq_false_iff_ne.2 (by omega)
      have hn1 : ((ss.length : Int) == 1) = false := beq_eq_false_iff_ne.2 (by omega)
      have i1 : (0 : Int) ≤ (k : Int) := by omega
      have i2 : (k : Int) ≤ (ss.length : Int) := by omega
      clear ih h1 h2 h3 h5 h6 h7 hone hsp e1 e2 hg
      generalize ss.length = n at *
      go_enter Tryd.func42, Tryd.ntmps42
      go_wp2_with (go_at_call 64; refine HF.out.mono ?_; rintro e w' ⟨rfl, rfl⟩)
      go_region_held3 (fun W => Below w'.heap.size w' W)
        (first | assumption | (exact (Below.refl _ _).drew) | (exact Below.trans (by assumption) (hb3.mono (Below.size (by assumption)))) | (exact Below.trans (by assumption) (hb2.mono (Below.size (by assumption)))) | (exact Below.trans (by assumption) (hb1.mono (Below.size (by assumption)))))
        (first
          | (go_at_call_of 42 (Value.slice (some ⟨g, o, none⟩) k cap); refine (HR1.out _ (by assumption)).mono ?_; rintro e w1 ⟨rfl, hb1⟩)
          | (go_at_call_of 42 (Value.slice (some ⟨g, o + k, none⟩) (n - k) (cap - k)); refine (HR2.out _ (by assumption)).mono ?_; rintro e w2 ⟨rfl, hb2⟩)
          | (go_at_call 56; refine (HP.out _ (by assumption)).mono ?_; rintro e w3 ⟨rfl, hb3⟩)
          | fail)
      all_goals
        have B3 : Hid (Below w'.heap.size w' w3) := by assumption
        go_wp2
        go_ret
        exact ⟨rfl, B3.out⟩

set_option maxHeartbeats 1000000 in
theorem root_zero (a : Option Addr) (cap : Nat) (w : World) (h : Roots w) :
    Calls Tryd.prog 42 #[.slice a 0 cap] w fun e w' => e = .returned (.string (rootB [])) ∧ Below w.heap.size w w' := by
  have HS : Hid (Calls Tryd.prog 10 #[.string ⟨#[]⟩] w fun e w' => e = .returned (.string (rootB [])) ∧ Below w.heap.size w w') := Sum_any ⟨#[]⟩ w (by decide) h
  generalize rootB [] = y at HS
  clear h
  go_enter Tryd.func42, Tryd.ntmps42
  go_wp2_with fail
  refine HS.out.mono ?_
  rintro e w1 ⟨rfl, hb1⟩
  have B1 : Hid (Below w.heap.size w w1) := hb1
  clear hb1
  go_wp2
  go_ret
  exact ⟨rfl, B1.out⟩

set_option maxHeartbeats 1000000 in
theorem Pair_yes (a b : ByteArray) (w : World) (ha : digOk a = true) (hb : digOk b = true) (h : Roots w) :
    Calls Tryd.prog 26 #[.string a, .string b] w fun e w' => e = .returned (.tuple #[.string (pairB a b), .int .i64 0]) ∧ Below w.heap.size w w' := by
  have HP : Hid (Calls Tryd.prog 56 #[.string a, .string b] w fun e w' => e = .returned (.string (pairB a b)) ∧ Below w.heap.size w w') := pair_any a b w (dig_size ha) (dig_size hb) h
  have HA : Hid (Calls Tryd.prog 28 #[.string a] w fun e w' => e = .returned (.bool true) ∧ w' = w) := by rw [← ha]; exact Is_any a w
  have HB : Hid (Calls Tryd.prog 28 #[.string b] w fun e w' => e = .returned (.bool true) ∧ w' = w) := by rw [← hb]; exact Is_any b w
  generalize pairB a b = y at HP
  clear ha hb h
  go_enter Tryd.func26, Tryd.ntmps26
  go_wp2_with fail
  refine HA.out.mono ?_
  rintro e w' ⟨rfl, rfl⟩
  go_wp2_with fail
  refine HB.out.mono ?_
  rintro e w' ⟨rfl, rfl⟩
  go_wp2_with fail
  refine HP.out.mono ?_
  rintro e w1 ⟨rfl, hb1⟩
  have B1 : Hid (Below _ _ w1) := hb1
  clear hb1
  go_wp2
  go_ret2
  exact ⟨rfl, B1.out⟩
end Go.Proofs.YtagelkaenbdlaaaDoor
