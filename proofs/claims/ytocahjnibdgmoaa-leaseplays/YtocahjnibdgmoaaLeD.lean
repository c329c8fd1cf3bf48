/- A book of leases: those that are over are gone (maps.DeleteFunc with the closure of end). -/
import Derived.Test.YtocahjnibdgmoaaLeH
namespace Go.Proofs.Ytocahjnibdgmoaa
open Go.RowKit Go.Shelf Go.Maps Go.WideMaps

def numD : DataW Unit → Int
  | .lit (.int _ a) => a
  | _ => 0
/-- Those that last, or are still to come. -/
def Ft (es0 : List (Lit × DataW Unit)) (nw : Int) (left : Lit → Bool) : DataW Unit := .map (es0.filter fun p => decide (nw ≤ numD p.2) || left p.1)

section
variable {es0 : List (Lit × DataW Unit)} {nw : Int} {left : Lit → Bool}
theorem Ft_start (hkeys : ∀ p ∈ es0, WideAt.IsKeyLit p.1) : Ft es0 nw (Maps.has (.map es0)) = .map es0 := by
  unfold Ft
  rw [List.filter_eq_self.2 (fun p hp => by
    have : Maps.has (DataW.map es0) p.1 = true := List.any_eq_true.2 ⟨p, hp, WideAt.sameKey_self (hkeys p hp)⟩
    simp [this])]
theorem Ft_end (hl : ∀ kl, left kl = false) : Ft es0 nw left = .map (es0.filter fun p => decide (nw ≤ numD p.2)) := by
  unfold Ft
  congr 1
  exact List.filter_congr (fun p _ => by simp [hl])
theorem Ft_came (hap : es0.Pairwise (fun p q => p.1 ≠ q.1)) {kl : Lit} (hk : WideAt.IsKeyLit kl) (hlk : left kl = true) {d : DataW Unit} (hat : ∀ zd, (Ft es0 nw left).atKey kl zd = d) : ∀ p ∈ es0, p.1 = kl → p.2 = d := by
  intro p hp hpk
  have hm : (kl, p.2) ∈ es0.filter fun p => decide (nw ≤ numD p.2) || left p.1 := List.mem_filter.2 ⟨by rw [← hpk]; exact hp, by simp [hlk]⟩
  exact (WideAt.atKey_mem .nil hk (hap.filter _) hm).symm.trans (hat .nil)
theorem Ft_struck (hap : es0.Pairwise (fun p q => p.1 ≠ q.1)) {kl : Lit} (hk : WideAt.IsKeyLit kl) (hlk : left kl = true) {c : Int} (hc0 : c < nw) (hat : ∀ zd, (Ft es0 nw left).atKey kl zd = .lit (.int .i64 c)) : (Ft es0 nw left).del kl = Ft es0 nw (fun z => left z && !z.sameKey kl) := by
  have hc := Ft_came hap hk hlk hat
  show DataW.map ((es0.filter fun p => decide (nw ≤ numD p.2) || left p.1).filter fun p => !p.1.sameKey kl) = _
  unfold Ft
  rw [List.filter_filter]
  congr 1
  refine List.filter_congr (fun p hp => ?_)
  cases hs : p.1.sameKey kl
  · simp [hs]
  · have h2 : ¬ nw ≤ c := by omega
    simp [hs, hc p hp (WideAt.sameKey_eq hs), numD, h2]
theorem Ft_stays (hap : es0.Pairwise (fun p q => p.1 ≠ q.1)) {kl : Lit} (hk : WideAt.IsKeyLit kl) (hlk : left kl = true) {c : Int} (hc0 : ¬ c < nw) (hat : ∀ zd, (Ft es0 nw left).atKey kl zd = .lit (.int .i64 c)) : Ft es0 nw left = Ft es0 nw (fun z => left z && !z.sameKey kl) := by
  have hc := Ft_came hap hk hlk hat
  unfold Ft
  congr 1
  refine List.filter_congr (fun p hp => ?_)
  cases hs : p.1.sameKey kl
  · simp [hs]
  · have h2 : nw ≤ c := by omega
    simp [hs, hc p hp (WideAt.sameKey_eq hs), numD, h2]
end

set_option maxHeartbeats 1000000 in
set_option maxRecDepth 100000 in
theorem over_any {Bk bb : Nat} {w : World} {nw : Int} (hv : w.cell? ⟨bb, 0, none⟩ = some (.pointer (some ⟨Bk, 0, none⟩))) (hn : w.cell? ⟨Bk, 3, none⟩ = some (.int .i64 nw)) (k c : Int) :
    Calls Try.prog 57 #[.int .i64 k, .int .i64 c, .pointer (some ⟨bb, 0, none⟩)] w fun e w' => e = .returned (.bool (decide (c < nw))) ∧ w' = w := by
  go_enter Try.func57, Try.ntmps57
  go_wp2
  go_ret
  exact ⟨rfl, rfl⟩

set_option maxHeartbeats 2000000 in
set_option maxRecDepth 100000 in
theorem del_any {Bk bb tb n : Nat} {es0 : List (Lit × DataW Unit)} {w : World} {nw : Int} (hv : w.cell? ⟨bb, 0, none⟩ = some (.pointer (some ⟨Bk, 0, none⟩))) (hn : w.cell? ⟨Bk, 3, none⟩ = some (.int .i64 nw)) (h1 : bb ≠ tb) (h2 : Bk ≠ tb)
    (hown : w.ownsMap Try.prog 3 (plainElem (H := Unit) Try.prog 3) tb n (.map es0)) (hap : es0.Pairwise (fun p q => p.1 ≠ q.1)) (hkeys : ∀ p ∈ es0, WideAt.IsKeyLit p.1) :
    Calls Try.prog 58 #[.map (some tb), .func (.func 57) #[] #[.pointer (some ⟨bb, 0, none⟩)]] w fun e w' => e = .returned (.tuple #[]) ∧ w'.ownsMap Try.prog 3 (plainElem (H := Unit) Try.prog 3) tb n (.map (es0.filter fun p => decide (nw ≤ numD p.2))) ∧ w.grownBy w' (some tb) := by
  have hbl := World.block_lt_of_cell? w _ hv
  have hkl := World.block_lt_of_cell? w _ hn
  have HC : Hid (∀ W : World, w.grownBy W (some tb) → ∀ k c : Int, Calls Try.prog 57 #[.int .i64 k, .int .i64 c, .pointer (some ⟨bb, 0, none⟩)] W fun e w' => e = .returned (.bool (decide (c < nw))) ∧ w' = W) := fun W hW k c => by
    refine over_any (Bk := Bk) ?_ ?_ k c
    · rw [World.cell?_of_block (w := w) (hW.block bb hbl (by simpa using h1))]; exact hv
    · rw [World.cell?_of_block (w := w) (hW.block Bk hkl (by simpa using h2))]; exact hn
  clear hv hn hbl hkl h1 h2
  go_enter Try.func58, Try.ntmps58
  go_wp2_with (first
    | (at_range; refine wpList_range_own _ rfl _ 61 rfl 3 3 lawI Try.underlying61 _ tb n _ rfl hown ?_; intro w0 hrg0 hg0 hs0)
    | go_in)
  go_frame
  go_loopw [4] (fun _ wr => ∃ (left : Lit → Bool) (cnt : Nat), wr.ranges Try.prog 3 (plainElem (H := Unit) Try.prog 3) tb w.heap.size n (Ft es0 nw left) left cnt ∧ w.grownBy wr (some tb))
    (fun _ wr => wr.rangeLeft tb w.heap.size)
  case atStart => exact ⟨_, _, by rw [Ft_start hkeys]; exact hrg0, hg0.but _⟩
  case round =>
    obtain ⟨left, cnt, hrg, hgw⟩ := hrel
    go_wp2_with (first
      | (at_next; refine wpList_next_ranges_ii _ rfl _ rfl 3 3 .i64 .i64 lawI Try.underlying3 Try.underlying3 tb w.heap.size n _ _ _ rfl hrg ?_ ?_)
      | go_in)
    · intro _ hl0
      go_wp2
      go_end0
      exact ⟨rfl, by rw [← Ft_end hl0]; exact hrg.owns, hgw⟩
    · intro x c w1 cnt1 hwx hwc hlx hat hrg1 hlt hg1 hs1 hen
      have hgw1 := hgw.andThen hg1 (fun j hj => by cases hj; exact Or.inl (Nat.le_refl _))
      by_cases hlt2 : c < nw
      · have hcall : Calls Try.prog 57 #[.int .i64 x, .int .i64 c, .pointer (some ⟨bb, 0, none⟩)] w1 fun e w' => e = .returned (.bool true) ∧ w' = w1 := by
          have := HC.out w1 hgw1 x c
          rw [decide_eq_true hlt2] at this
          exact this
        have HX : Hid (Calls Try.prog 57 #[.int .i64 x, .int .i64 c, .pointer (some ⟨bb, 0, none⟩)] w1 fun e w' => e = .returned (.bool true) ∧ w' = w1) := hcall
        clear hcall
        go_wp2_with (first
          | (go_at_call 57; refine HX.out.mono ?_; rintro e w' ⟨rfl, rfl⟩)
          | (at_delete; refine wpList_delete_ranges _ rfl _ _ 61 3 rfl 3 lawI Try.underlying61 _ tb w.heap.size n _ _ _ rfl hrg1 _ _ rfl (keyOf_int_mk Try.underlying3 hwx) ?_; intro w2 cnt2 hrg2 hle hturn; go_frame)
          | go_in)
        rw [strike_twice] at hrg2
        go_roundw
        case rel => exact ⟨_, cnt2, by rw [← Ft_struck hap (kl := .int .i64 x) trivial hlx hlt2 hat]; exact hrg2, hgw1.andThen hturn.grown (fun j hj => by cases hj; exact Or.inr rfl)⟩
        case measure => rw [hrg2.left_eq, hrg.left_eq]; omega
      · have hcall : Calls Try.prog 57 #[.int .i64 x, .int .i64 c, .pointer (some ⟨bb, 0, none⟩)] w1 fun e w' => e = .returned (.bool false) ∧ w' = w1 := by
          have := HC.out w1 hgw1 x c
          rw [decide_eq_false hlt2] at this
          exact this
        have HX : Hid (Calls Try.prog 57 #[.int .i64 x, .int .i64 c, .pointer (some ⟨bb, 0, none⟩)] w1 fun e w' => e = .returned (.bool false) ∧ w' = w1) := hcall
        clear hcall
        go_wp2_with (first
          | (go_at_call 57; refine HX.out.mono ?_; rintro e w' ⟨rfl, rfl⟩)
          | go_in)
        go_roundw
        case rel => exact ⟨_, cnt1, by rw [← Ft_stays hap (kl := .int .i64 x) trivial hlx (show ¬ c < nw by omega) hat]; exact hrg1, hgw1⟩
        case measure => rw [hrg1.left_eq, hrg.left_eq]; exact hlt
end Go.Proofs.Ytocahjnibdgmoaa
