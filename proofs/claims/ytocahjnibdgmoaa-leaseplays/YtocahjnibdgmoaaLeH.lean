/- A book of leases: the state of a job. -/
import Derived.Test.YtocahjnibdgmoaaLeG
namespace Go.Proofs.Ytocahjnibdgmoaa
open Go.RowKit Go.Shelf Go.Maps Go.WideMaps

/-- Where a job's leases lie, and what they are: none were ever, or a map. -/
def TillAt (W : World) (tv : Value) (D : DataW Unit) : Prop := (tv = .map none ∧ D = .map []) ∨ ∃ tb n, tv = .map (some tb) ∧ W.ownsMap Try.prog 3 (plainElem (H := Unit) Try.prog 3) tb n D ∧ n < maxLen
def lst (dn : Bool) (sz tr mx : Int) : Int := if dn = true then 3 else if 0 < sz then 2 else if mx ≤ tr then 4 else 1

set_option maxHeartbeats 2000000 in
set_option maxRecDepth 100000 in
theorem lstate {Bk J : Nat} {w : World} {dn : Bool} {tr : Nat} {tv bm : Value} {a b c nw : Int} {D : DataW Unit} (hb : w.heap[Bk]? = some (.cells #[.int .i64 a, .int .i64 b, .int .i64 c, .int .i64 nw, bm] 58 (0, 0))) (hj : w.heap[J]? = some (.cells #[.bool dn, .int .i64 (tr : Int), tv] 63 (0, 0))) (ht : TillAt w tv D) :
    Calls Try.prog 40 #[.pointer (some ⟨Bk, 0, none⟩), .pointer (some ⟨J, 0, none⟩)] w fun e w' => e = .returned (.int .i64 (lst dn (Maps.size D) tr b)) ∧ ∃ m, w' = w.drewN m := by
  have b1 : w.cell? ⟨Bk, 1, none⟩ = some (.int .i64 b) := by rw [Lib.cell_of_heap hb]; rfl
  have j0 : w.cell? ⟨J, 0, none⟩ = some (.bool dn) := by rw [Lib.cell_of_heap hj]; rfl
  have j1 : w.cell? ⟨J, 1, none⟩ = some (.int .i64 (tr : Int)) := by rw [Lib.cell_of_heap hj]; rfl
  have j2 : w.cell? ⟨J, 2, none⟩ = some tv := by rw [Lib.cell_of_heap hj]; rfl
  clear hb hj
  cases hd : dn with
  | true =>
    subst hd
    go_enter Try.func40, Try.ntmps40
    go_wp2
    go_ret
    exact ⟨rfl, 0, rfl⟩
  | false =>
    subst hd
    rcases ht with ⟨rfl, rfl⟩ | ⟨tb, n, rfl, hown, _⟩
    · have e0 : (Maps.size (DataW.map (H := Unit) []) : Int) = 0 := rfl
      rw [e0]
      by_cases h2 : b ≤ (tr : Int)
      · have hx : lst false 0 (tr : Int) b = 4 := by unfold lst; rw [if_neg (by decide), if_neg (by decide), if_pos h2]
        rw [hx]
        clear hx
        go_enter Try.func40, Try.ntmps40
        go_wp2
        go_region
        go_wp2
        go_ret
        exact ⟨rfl, 1, rfl⟩
      · have hx : lst false 0 (tr : Int) b = 1 := by unfold lst; rw [if_neg (by decide), if_neg (by decide), if_neg h2]
        rw [hx]
        clear hx
        go_enter Try.func40, Try.ntmps40
        go_wp2
        go_region
        go_wp2
        go_ret
        exact ⟨rfl, 1, rfl⟩
    · have hlen := hown.len Try.underlying61 3
      generalize Maps.size D = sz at *
      clear hown
      by_cases h1 : 0 < (sz : Int)
      · have hx : lst false (sz : Int) (tr : Int) b = 2 := by unfold lst; rw [if_neg (by decide), if_pos h1]
        rw [hx]
        clear hx
        go_enter Try.func40, Try.ntmps40
        go_wp2
        go_ret
        exact ⟨rfl, 0, rfl⟩
      · by_cases h2 : b ≤ (tr : Int)
        · have hx : lst false (sz : Int) (tr : Int) b = 4 := by unfold lst; rw [if_neg (by decide), if_neg h1, if_pos h2]
          rw [hx]
          clear hx
          go_enter Try.func40, Try.ntmps40
          go_wp2
          go_region
          go_wp2
          go_ret
          exact ⟨rfl, 1, rfl⟩
        · have hx : lst false (sz : Int) (tr : Int) b = 1 := by unfold lst; rw [if_neg (by decide), if_neg h1, if_neg h2]
          rw [hx]
          clear hx
          go_enter Try.func40, Try.ntmps40
          go_wp2
          go_region
          go_wp2
          go_ret
          exact ⟨rfl, 1, rfl⟩
end Go.Proofs.Ytocahjnibdgmoaa
