/- The document's own CheckList, LeafOf, RootOf. -/
import Derived.Test.YtagelkaenbdlaaaDoorRPair
import Derived.Test.YtagelkaenbdlaaaDoorRootT
import Derived.Test.YtagelkaenbdlaaaDoorDgTx
namespace Go.Proofs.YtagelkaenbdlaaaDoor
open Go.RowKit

set_option maxHeartbeats 1000000 in
theorem LeafOf_any (s : ByteArray) (w : World) (hs : s.size ≤ 100000) :
    Calls Tryd.prog 43 #[.string s] w fun e w' => e = .returned (.string (leafB s)) ∧ Below w.heap.size w w' := by
  obtain ⟨y, hy⟩ : ∃ y : ByteArray, y = ⟨(0 :: s.data.toList).toArray⟩ := ⟨_, rfl⟩
  have hyz : y.size = s.size + 1 := by rw [hy, d_size (s := ⟨(0 :: s.data.toList).toArray⟩) (l := 0 :: s.data.toList) rfl, List.length_cons, s_len]
  have k1 := catS ⟨#[0]⟩ s y (by rw [hy]; rfl) (by have : (⟨#[0]⟩ : ByteArray).size = 1 := rfl; omega)
  have HSU : Hid (∀ W : World, Calls Tryd.prog 11 #[.string y] W fun e w' => e = .returned (.string (leafB s)) ∧ Below W.heap.size W w') := fun W => by
    unfold leafB sm
    rw [sum_plain, ← hy]
    exact Sum_doc y W (by omega)
  generalize leafB s = r at HSU
  have hcv : (convert 55 9 (.slice (some ⟨w.heap.size, 0, none⟩) 1 1)).run Tryd.prog (w.alloc (.cells #[.int .u8 0] 5)) = .ok (.string ⟨#[0]⟩) (w.alloc (.cells #[.int .u8 0] 5)) :=
    run_convert_bytes_back (w.alloc (.cells #[.int .u8 0] 5)) 55 9 5 ⟨w.heap.size, 0, none⟩ 1 [0] Tryd.underlying55 Tryd.underlying5 Tryd.underlying9 fun j hj => by
      rw [add0]
      match j, hj with
      | 0, _ => exact al_at w _ _ _ 0 _ rfl rfl
  clear hs hy hyz
  go_enter Tryd.func43, Tryd.ntmps43
  go_wp2_with fail
  refine (HSU.out _).mono ?_
  rintro e w2 ⟨rfl, hb2⟩
  have B2 : Hid (Below w.heap.size w w2) := bl_tr (bl_al (Below.refl _ _) _) hb2
  clear hb2
  go_wp2
  go_ret
  exact ⟨rfl, B2.out⟩

set_option maxHeartbeats 1000000 in
theorem CheckList_ok (v : Value) (ss : List ByteArray) (w : World) (h : Tx w v ss) (hok : okD ss) :
    Calls Tryd.prog 13 #[v, .int .i64 2000] w fun e w' => e = .returned (.int .i64 0) ∧ w' = w := by
  have HO : Hid (okD ss) := hok
  have hli : (ss.length : Int) ≤ 2000 := by have := hok.1; omega
  rcases h.2 with ⟨rfl, a, cap, rfl⟩ | ⟨h0, g, o, cap, rfl, hc, hrow⟩
  · clear h hok hli
    go_enter Tryd.func13, Tryd.ntmps13
    go_wp2
    go_loop [5] (fun i => i = .int .i64 0) (fun _ => 0)
    case atStart => rfl
    case round =>
      obtain rfl := hrel
      go_wp2
      go_ret
      exact ⟨rfl, rfl⟩
  · have HR : Hid (Row w g o ss) := hrow
    clear h hok hrow
    go_enter Tryd.func13, Tryd.ntmps13
    go_wp2
    go_loop [5] (fun i => ∃ k : Nat, k ≤ ss.length ∧ i = .int .i64 k) (fun i => ss.length - (intOf i).toNat)
    case atStart => exact ⟨0, by omega, rfl⟩
    case round =>
      obtain ⟨k, hk, rfl⟩ := hrel
      by_cases hlt : k < ss.length
      · have hki : (k : Int) < (ss.length : Int) := by omega
        have c0 := HR.out k hlt
        have hz : (ss[k].size : Int) ≤ 100000 := by have := HO.out.2 _ (List.getElem_mem hlt); omega
        generalize ss[k] = x at c0 hz
        go_wp2
        refine ⟨⟨k + 1, by omega, by go_num⟩, by simp [intOf]; omega⟩
      · obtain rfl : k = ss.length := by omega
        go_wp2
        go_ret
        exact ⟨rfl, rfl⟩

set_option maxHeartbeats 1000000 in
theorem CheckList_no (v : Value) (ss : List ByteArray) (w : World) (h : Tx w v ss) (hno : ¬ okD ss) :
    Calls Tryd.prog 13 #[v, .int .i64 2000] w fun e w' => e = .returned (.int .i64 2) ∧ w' = w := by
  rcases h.2 with ⟨rfl, a, cap, rfl⟩ | ⟨h0, g, o, cap, rfl, hc, hrow⟩
  · exact absurd ⟨by simp, by simp⟩ hno
  · have hll := h.1
    by_cases hl : ss.length ≤ 2000
    · have HB : Hid (¬ ∀ s ∈ ss, s.size ≤ 100000) := fun hall => hno ⟨hl, hall⟩
      have hli : (ss.length : Int) ≤ 2000 := by omega
      have HR : Hid (Row w g o ss) := hrow
      clear h hno hrow
      go_enter Tryd.func13, Tryd.ntmps13
      go_wp2
      go_loop [5] (fun i => ∃ k : Nat, k ≤ ss.length ∧ i = .int .i64 k ∧ ∀ j (hj : j < ss.length), j < k → ss[j].size ≤ 100000) (fun i => ss.length - (intOf i).toNat)
      case atStart => exact ⟨0, by omega, rfl, by omega⟩
      case round =>
        obtain ⟨k, hk, rfl, hlo⟩ := hrel
        have HL : Hid _ := hlo
        clear hlo
        by_cases hlt : k < ss.length
        · have hki : (k : Int) < (ss.length : Int) := by omega
          have c0 := HR.out k hlt
          by_cases hz : ss[k].size ≤ 100000
          · have HZ : Hid (∀ j (hj : j < ss.length), j < k + 1 → ss[j].size ≤ 100000) := fun j hj hjk => by
              by_cases h : j < k
              · exact HL.out j hj h
              · obtain rfl : j = k := by omega
                exact hz
            have hz2 : (ss[k].size : Int) ≤ 100000 := by omega
            clear hz
            generalize ss[k] = x at c0 hz2
            go_wp2
            refine ⟨⟨k + 1, by omega, by go_num, HZ.out⟩, by simp [intOf]; omega⟩
          · have hz2 : (100000 : Int) < (ss[k].size : Int) := by omega
            clear hz
            generalize ss[k] = x at c0 hz2
            go_wp2
            go_ret
            exact ⟨rfl, rfl⟩
        · exact absurd (fun s hs => by
            obtain ⟨j, hj, rfl⟩ := List.getElem_of_mem hs
            exact HL.out j hj (by omega)) HB.out
    · have hli : (2000 : Int) < (ss.length : Int) := by omega
      clear h hno hrow
      go_enter Tryd.func13, Tryd.ntmps13
      go_wp2
      go_ret
      exact ⟨rfl, rfl⟩

theorem infS : (Tryd.prog.info? 9).map (fun i => (i.zero, i.size, i.bytes)) = some (some (.string ⟨#[]⟩), 1, 16) := by kernel_rfl
/-- Texts, as cells in a row. -/
def scs (l : List ByteArray) : List Value := l.map Value.string
theorem scs_get (l : List ByteArray) (j : Nat) (hj : j < l.length) : (scs l)[j]? = some (.string l[j]) := by simp [scs, hj]
theorem row_of_own {w : World} {B g cap n : Nat} {xs : List ByteArray} (h : w.ownsRow B 9 1 (.slice (some ⟨g, 0, none⟩) n cap) n (scs xs)) (hn : xs.length = n) : Row w g 0 xs := fun j hj => by
  rw [Nat.zero_add]
  exact (h.cellAt j (by omega)).trans (scs_get xs j hj)
theorem level_dig : ∀ (n : Nat) (l : List ByteArray), l.length ≤ n → (∀ x ∈ l, digOk x = true) → ∀ x ∈ level l, digOk x = true := by
  intro n
  induction n with
  | zero => intro l h hd; match l, h with | [], _ => simp [level]
  | succ n ih =>
    intro l h hd
    match l, h with
    | [], _ => simp [level]
    | [a], _ => intro x hx; exact hd x (by simpa [level] using hx)
    | a :: b :: r, h =>
      simp only [List.length_cons] at h
      intro x hx
      simp only [level, List.mem_cons] at hx
      rcases hx with rfl | hx
      · exact sm_dig _
      · exact ih r (by omega) (fun y hy => hd y (by simp [hy])) x hx
/-- What of a level is made when one has come so far. -/
theorem level_take (xs : List ByteArray) (k : Nat) (h : 2 * k + 1 < xs.length) : level (xs.take (2 * (k + 1))) = level (xs.take (2 * k)) ++ [pairB xs[2 * k] xs[2 * k + 1]] := by
  have e : xs.take (2 * (k + 1)) = xs.take (2 * k) ++ [xs[2 * k], xs[2 * k + 1]] := by
    rw [show 2 * (k + 1) = 2 * k + 1 + 1 from by omega, List.take_succ_eq_append_getElem h, List.take_succ_eq_append_getElem (by omega), List.append_assoc]
    rfl
  rw [e, level_app _ _ _ (Nat.le_refl _) (by rw [List.length_take]; omega)]
  congr 1
theorem level_last (xs : List ByteArray) (k : Nat) (h : 2 * k + 1 = xs.length) : level xs = level (xs.take (2 * k)) ++ [xs[2 * k]'(by omega)] := by
  have e : xs = xs.take (2 * k) ++ [xs[2 * k]'(by omega)] := by
    conv => lhs; rw [← List.take_length (l := xs), ← h, List.take_succ_eq_append_getElem (by omega)]
  conv => lhs; rw [e]
  rw [level_app _ _ _ (Nat.le_refl _) (by rw [List.length_take]; omega)]
  congr 1
end Go.Proofs.YtagelkaenbdlaaaDoor
