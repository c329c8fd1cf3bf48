/- A book of leases: is there one; a job is looked for; it is lent. -/
import Derived.Test.YtocahjnibdgmoaaLeN
namespace Go.Proofs.Ytocahjnibdgmoaa
open Go.RowKit Go.Shelf Go.Maps Go.WideMaps

theorem mapNe1 (M : Nat) (w : World) : (binOp BinOp.eql 56 (.map (some M)) (.map none)).run Try.prog w = .ok (.bool false) w := by kernel_rfl
theorem mapNe2 (M : Nat) (w : World) : (binOp BinOp.eql 61 (.map (some M)) (.map none)).run Try.prog w = .ok (.bool false) w := by kernel_rfl
theorem mapEq2 (w : World) : (binOp BinOp.eql 61 (.map none) (.map none)).run Try.prog w = .ok (.bool true) w := by kernel_rfl

set_option maxHeartbeats 1000000 in
set_option maxRecDepth 100000 in
theorem lisNone {Bk M : Nat} {w : World} (c4 : w.cell? ⟨Bk, 4, none⟩ = some (.map (some M))) :
    Calls Try.prog 27 #[.pointer (some ⟨Bk, 0, none⟩)] w fun e w' => e = .returned (.bool false) ∧ w' = w := by
  go_enter Try.func27, Try.ntmps27
  have hm := mapNe1 M
  go_wp2
  go_ret
  exact ⟨rfl, rfl⟩

set_option maxHeartbeats 1000000 in
set_option maxRecDepth 100000 in
theorem lfind {Bk M n : Nat} {D : DataW Unit} {w : World} (c4 : w.cell? ⟨Bk, 4, none⟩ = some (.map (some M))) (hown : w.ownsMap Try.prog 9 ptrE M n D) (s : ByteArray) (hs : s.size ≤ maxLen) :
    Calls Try.prog 31 #[.pointer (some ⟨Bk, 0, none⟩), .string s] w fun e w' => ∃ v, e = .returned v ∧ (∃ ps, ptrE v = some (D.atKey (.string s.data.toList) (.lit (.int .i64 (-1))), ps)) ∧ w' = w := by
  obtain ⟨v, ps, hrun, hv⟩ := hown.lookup lawS Try.underlying56 (zeroP w) (zd := .lit (.int .i64 (-1))) (zp := []) rfl (keyOf_string_mk Try.underlying9 hs)
  have HN : Hid (Calls Try.prog 27 #[.pointer (some ⟨Bk, 0, none⟩)] w fun e w' => e = .returned (.bool false) ∧ w' = w) := lisNone c4
  have HV : Hid (∃ ps, ptrE v = some (D.atKey (.string s.data.toList) (.lit (.int .i64 (-1))), ps)) := ⟨ps, hv⟩
  clear hv
  go_enter Try.func31, Try.ntmps31
  go_wp2_with fail
  refine HN.out.mono ?_
  rintro e w1 ⟨rfl, rfl⟩
  go_wp2
  go_ret
  exact ⟨v, rfl, HV.out, rfl⟩

set_option maxHeartbeats 2000000 in
set_option maxRecDepth 100000 in
theorem llend_old {J tb n : Nat} {D : DataW Unit} {w : World} {dn : Bool} {tr : Nat} (hj : w.heap[J]? = some (.cells #[.bool dn, .int .i64 (tr : Int), .map (some tb)] 63 (0, 0))) (hown : w.ownsMap Try.prog 3 (plainElem Try.prog 3) tb n D) (hn : n < maxLen) (k t : Int) (hk : (Lit.int .i64 k).wf = true) (ht : (Lit.int .i64 t).wf = true) :
    Calls Try.prog 33 #[.pointer (some ⟨J, 0, none⟩), .int .i64 k, .int .i64 t] w fun e w' => e = .returned (.tuple #[]) ∧ w'.ownsMap Try.prog 3 (plainElem Try.prog 3) tb (n + 1) (D.put (.int .i64 k) (.lit (.int .i64 t))) ∧ w.grownBy w' (some tb) := by
  have c2 : w.cell? ⟨J, 2, none⟩ = some (.map (some tb)) := by rw [Lib.cell_of_heap hj]; rfl
  have hkey := keyOf_int_mk Try.underlying3 hk
  have hm := mapNe2 tb
  go_enter Try.func33, Try.ntmps33
  go_wp2_with (first
    | (at_mapUpdate; refine wpList_mapUpdate_own _ rfl _ _ _ 61 rfl 3 3 lawI Try.underlying61 _ tb n D rfl hown hn _ _ _ rfl rfl hkey _ [] (plainElem_int Try.underlying3 ht) ?_; intro w1 hown1 hgrow1)
    | go_in)
  go_end0
  exact ⟨rfl, hown1, hgrow1⟩
end Go.Proofs.Ytocahjnibdgmoaa
