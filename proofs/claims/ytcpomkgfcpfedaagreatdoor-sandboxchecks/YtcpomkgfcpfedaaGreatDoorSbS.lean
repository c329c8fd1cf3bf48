/- A machine in memory: what burns, what ends it, what is put. -/
import Derived.Test.YtcpomkgfcpfedaaGreatDoorSbH
namespace Go.Proofs.YtcpomkgfcpfedaaGreatDoor
open Go.RowKit Go.Shelf

/-- A machine: its files (as a value), the map of what is made (a block), its texts, and how it stands. -/
structure Mc where
  fv : Value
  mp : Nat
  tx : List ByteArray
  fuel : Nat
  next : Nat
  ended : Bool
  code : Nat
def mcL (m : Mc) : List Value := [m.fv, .map (some m.mp)] ++ (m.tx.map Value.string ++ [.int .i64 (m.fuel : Int), .int .i64 (m.next : Int), .bool m.ended, .int .i64 (m.code : Int)])
structure McAt (w : World) (P : Nat) (m : Mc) : Prop where
  at_ : w.heap[P]? = some (.cells (mcL m).toArray 57 (0, 0))
  len : m.tx.length = 8
theorem McAt.lt {w : World} {P : Nat} {m : Mc} (h : McAt w P m) : P < w.heap.size := (Array.getElem?_eq_some_iff.1 h.at_).1
theorem McAt.below {w w' : World} {P : Nat} {m : Mc} (h : McAt w P m) (hb : Below w.heap.size w w') : McAt w' P m := ⟨(hb.block P h.lt).trans h.at_, h.len⟩
theorem mcL_lo {m : Mc} (i : Nat) (x : ByteArray) (hx : m.tx[i]? = some x) : (mcL m)[2 + i]? = some (.string x) := by
  unfold mcL
  have hi : i < m.tx.length := (List.getElem?_eq_some_iff.1 hx).1
  rw [List.getElem?_append_right (by simp), List.getElem?_append_left (by simp; omega), List.getElem?_map]
  simp [hx]
theorem mcL_hi {m : Mc} (h : m.tx.length = 8) (i : Nat) : (mcL m)[10 + i]? = [Value.int .i64 (m.fuel : Int), .int .i64 (m.next : Int), .bool m.ended, .int .i64 (m.code : Int)][i]? := by
  unfold mcL
  rw [List.getElem?_append_right (by simp; omega), List.getElem?_append_right (by simp; omega)]
  simp only [List.length_map, h, List.length_cons, List.length_nil]
  congr 1
  omega
theorem mcL_set_hi {m : Mc} (h : m.tx.length = 8) (i : Nat) (v : Value) : (mcL m).set (10 + i) v = [m.fv, .map (some m.mp)] ++ (m.tx.map Value.string ++ [Value.int .i64 (m.fuel : Int), .int .i64 (m.next : Int), .bool m.ended, .int .i64 (m.code : Int)].set i v) := by
  unfold mcL
  rw [List.set_append_right _ _ (by simp; omega), List.set_append_right _ _ (by simp; omega)]
  simp only [List.length_map, h, List.length_cons, List.length_nil]
  rw [show 10 + i - (0 + 1 + 1) - 8 = i by omega]
theorem mcL_set_lo {m : Mc} (i : Nat) (x : ByteArray) (hi : i < m.tx.length) : (mcL m).set (2 + i) (.string x) = mcL { m with tx := m.tx.set i x } := by
  unfold mcL
  rw [List.set_append_right _ _ (by simp), List.set_append_left _ _ (by simp; omega)]
  simp only [List.length_cons, List.length_nil]
  rw [show 2 + i - (0 + 1 + 1) = i by omega, List.map_set]

section
variable {w : World} {P : Nat} {m : Mc}
theorem McAt.cell (h : McAt w P m) (i : Nat) : w.cell? ⟨P, i, none⟩ = (mcL m)[i]? := by
  rw [Lib.cell_of_heap h.at_, List.getElem?_toArray]
theorem McAt.c10 (h : McAt w P m) : w.cell? ⟨P, 10, none⟩ = some (.int .i64 (m.fuel : Int)) := (h.cell 10).trans (mcL_hi h.len 0)
theorem McAt.c11 (h : McAt w P m) : w.cell? ⟨P, 11, none⟩ = some (.int .i64 (m.next : Int)) := (h.cell 11).trans (mcL_hi h.len 1)
theorem McAt.c12 (h : McAt w P m) : w.cell? ⟨P, 12, none⟩ = some (.bool m.ended) := (h.cell 12).trans (mcL_hi h.len 2)
theorem McAt.c13 (h : McAt w P m) : w.cell? ⟨P, 13, none⟩ = some (.int .i64 (m.code : Int)) := (h.cell 13).trans (mcL_hi h.len 3)
theorem McAt.frozen (h : McAt w P m) (i : Nat) : w.frozen? ⟨P, i, none⟩ = false := Lib.frozen_of_heap h.at_ i
theorem McAt.set (h : McAt w P m) (i : Nat) (v : Value) : (w.setCell ⟨P, i, none⟩ v).heap[P]? = some (.cells ((mcL m).set i v).toArray 57 (0, 0)) := by
  rw [Go.Joins.block_setCell h.at_]
  simp
theorem McAt.setFuel (h : McAt w P m) (x : Nat) : McAt (w.setCell ⟨P, 10, none⟩ (.int .i64 (x : Int))) P { m with fuel := x } := ⟨by rw [h.set, mcL_set_hi h.len 0]; rfl, h.len⟩
theorem McAt.setNext (h : McAt w P m) (x : Nat) : McAt (w.setCell ⟨P, 11, none⟩ (.int .i64 (x : Int))) P { m with next := x } := ⟨by rw [h.set, mcL_set_hi h.len 1]; rfl, h.len⟩
theorem McAt.setEnded (h : McAt w P m) (x : Bool) : McAt (w.setCell ⟨P, 12, none⟩ (.bool x)) P { m with ended := x } := ⟨by rw [h.set, mcL_set_hi h.len 2]; rfl, h.len⟩
theorem McAt.setCode (h : McAt w P m) (x : Nat) : McAt (w.setCell ⟨P, 13, none⟩ (.int .i64 (x : Int))) P { m with code := x } := ⟨by rw [h.set, mcL_set_hi h.len 3]; rfl, h.len⟩
theorem McAt.setText (h : McAt w P m) (i : Nat) (x : ByteArray) (hi : i < 8) : McAt (w.setCell ⟨P, 2 + i, none⟩ (.string x)) P { m with tx := m.tx.set i x } := ⟨by rw [h.set, mcL_set_lo i x (by rw [h.len]; exact hi)], by simp [h.len]⟩
end

/-- What a line burns that has so many bytes. -/
def burnM (m : Mc) (bytes : Nat) : Mc × Bool := if m.fuel < 1 + bytes / 16 then ({ m with fuel := 0, ended := true, code := 104 }, false) else ({ m with fuel := m.fuel - (1 + bytes / 16) }, true)

set_option maxHeartbeats 1000000 in
set_option maxRecDepth 100000 in
theorem burn_any (m : Mc) (P bytes : Nat) (w : World) (h : McAt w P m) (hb : bytes ≤ 1000000) (hf : m.fuel ≤ 1000000) :
    Calls Tryz.prog 91 #[.pointer (some ⟨P, 0, none⟩), .int .i64 (bytes : Int)] w fun e w' => e = .returned (.bool (burnM m bytes).2) ∧ McAt w' P (burnM m bytes).1 ∧ UpB P w w' := by
  have c10 := h.c10
  have f10 := h.frozen 10
  have f12 := h.frozen 12
  have f13 := h.frozen 13
  have c12 := h.c12
  have c13 := h.c13
  have H : Hid (McAt w P m) := h
  obtain ⟨q, hq⟩ : ∃ q : Nat, q = bytes / 16 := ⟨_, rfl⟩
  have e1 : ((bytes : Int)).tdiv 16 = (q : Int) := by rw [hq]; rfl
  obtain ⟨n, hn⟩ : ∃ n : Nat, n = 1 + q := ⟨_, rfl⟩
  have e2 : (1 : Int) + (q : Int) = (n : Int) := by omega
  have e3 : IntKind.i64.wrap (q : Int) = (q : Int) := by rw [IntKind.wrap_i64]; omega
  have e4 : IntKind.i64.wrap (n : Int) = (n : Int) := by rw [IntKind.wrap_i64]; omega
  unfold burnM
  rw [← hq, ← hn]
  by_cases hlt : m.fuel < n
  · rw [if_pos hlt]
    have hlti : (m.fuel : Int) < (n : Int) := by omega
    clear h hb hf hq hn hlt
    generalize (m.fuel : Int) = fu at *
    generalize (m.code : Int) = co at *
    generalize m.ended = en at *
    go_enter Tryz.func91, Tryz.ntmps91
    go_wp2
    go_ret
    exact ⟨rfl, ((H.out.setFuel 0).setEnded true).setCode 104, ((UpB.set P 10 w _).trans (UpB.set P 12 _ _)).trans (UpB.set P 13 _ _)⟩
  · rw [if_neg hlt]
    have hlti : ¬ (m.fuel : Int) < (n : Int) := by omega
    obtain ⟨r, hr⟩ : ∃ r : Nat, m.fuel - n = r := ⟨_, rfl⟩
    rw [hr]
    have e5 : (m.fuel : Int) - (n : Int) = (r : Int) := by omega
    have e6 : IntKind.i64.wrap (r : Int) = (r : Int) := by rw [IntKind.wrap_i64]; omega
    clear h hb hf hq hn hlt hr
    go_enter Tryz.func91, Tryz.ntmps91
    go_wp2
    go_ret
    exact ⟨rfl, H.out.setFuel r, UpB.set P 10 w _⟩

/-- It ends by a line, which does nothing else. -/
def endM (m : Mc) (c : Nat) : Mc := if (burnM m 0).2 = true then { (burnM m 0).1 with ended := true, code := c } else (burnM m 0).1

set_option maxHeartbeats 1000000 in
set_option maxRecDepth 100000 in
theorem end_any (m : Mc) (P c : Nat) (w : World) (h : McAt w P m) (hf : m.fuel ≤ 1000000) :
    Calls Tryz.prog 80 #[.pointer (some ⟨P, 0, none⟩), .int .i64 (c : Int)] w fun e w' => e = .returned (.tuple #[]) ∧ McAt w' P (endM m c) ∧ UpB P w w' := by
  have HB := burn_any m P 0 w h (by omega) hf
  unfold endM
  generalize burnM m 0 = bm at *
  obtain ⟨m1, b⟩ := bm
  have HB : Hid (Calls Tryz.prog 91 #[.pointer (some ⟨P, 0, none⟩), .int .i64 (0 : Int)] w fun e w' => e = .returned (.bool b) ∧ Hid (McAt w' P m1 ∧ UpB P w w')) := HB
  simp only
  clear h hf
  cases b with
  | false =>
    rw [if_neg (by simp)]
    go_enter Tryz.func80, Tryz.ntmps80
    go_wp2_with (first | (go_at_call 91; refine HB.out.mono ?_; rintro e w1 ⟨rfl, H1⟩) | go_in)
    go_end0
    exact ⟨rfl, H1.out.1, H1.out.2⟩
  | true =>
    rw [if_pos rfl]
    go_enter Tryz.func80, Tryz.ntmps80
    go_wp2_with (first | (go_at_call 91; refine HB.out.mono ?_; rintro e w1 ⟨rfl, H1⟩; have c12 := H1.out.1.c12; have f12 := H1.out.1.frozen 12; have c13 := H1.out.1.c13; have f13 := H1.out.1.frozen 13) | go_in)
    go_end0
    exact ⟨rfl, (H1.out.1.setEnded true).setCode c, (H1.out.2.trans (UpB.set P 12 _ _)).trans (UpB.set P 13 _ _)⟩

/-- A text is put. -/
def putM (m : Mc) (r : Nat) (t : ByteArray) : Mc := if 100000 < t.size then endM m 102 else if (burnM m t.size).2 = true then { (burnM m t.size).1 with tx := (burnM m t.size).1.tx.set r t } else (burnM m t.size).1

set_option maxHeartbeats 1000000 in
set_option maxRecDepth 100000 in
theorem put_any (m : Mc) (P r : Nat) (t : ByteArray) (w : World) (h : McAt w P m) (hf : m.fuel ≤ 1000000) (hr : r < 8) (ht : t.size ≤ 1000000) :
    Calls Tryz.prog 60 #[.pointer (some ⟨P, 0, none⟩), .int .i64 (r : Int), .string t] w fun e w' => e = .returned (.tuple #[]) ∧ McAt w' P (putM m r t) ∧ UpB P w w' := by
  have HT : Hid (∀ W, Calls Tryz.prog 12 #[.string t] W fun e w' => e = .returned (.bool (decide (100000 < t.size))) ∧ w' = W) := isTooLong_any t
  unfold putM
  by_cases hl : 100000 < t.size
  · rw [if_pos hl]
    rw [decide_eq_true hl] at HT
    have HE : Hid (Calls Tryz.prog 80 #[.pointer (some ⟨P, 0, none⟩), .int .i64 (102 : Int)] w fun e w' => e = .returned (.tuple #[]) ∧ Hid (McAt w' P (endM m 102) ∧ UpB P w w')) := end_any m P 102 w h hf
    clear h hf ht hl
    go_enter Tryz.func60, Tryz.ntmps60
    go_wp2_with (first
      | (go_at_call 12; refine (HT.out _).mono ?_; rintro e w1 ⟨rfl, hw⟩; subst w1)
      | (go_at_call 80; refine HE.out.mono ?_; rintro e w1 ⟨rfl, H1⟩)
      | go_in)
    refine bodyPost_ret (v := .tuple #[]) (by simp [results, Tryz.results60]) rfl ?_
    exact ⟨rfl, H1.out⟩
  · rw [if_neg hl]
    rw [decide_eq_false hl] at HT
    have HB := burn_any m P t.size w h ht hf
    have hsz9 : (t.size : Int) ≤ 9223372036854775807 := by omega
    generalize burnM m t.size = bm at *
    obtain ⟨m1, b⟩ := bm
    have HB : Hid (Calls Tryz.prog 91 #[.pointer (some ⟨P, 0, none⟩), .int .i64 (t.size : Int)] w fun e w' => e = .returned (.bool b) ∧ Hid (McAt w' P m1 ∧ UpB P w w')) := HB
    simp only
    clear h hf ht hl
    cases b with
    | false =>
      rw [if_neg (by simp)]
      go_enter Tryz.func60, Tryz.ntmps60
      go_wp2_with (first
        | (go_at_call 12; refine (HT.out _).mono ?_; rintro e w1 ⟨rfl, hw⟩; subst w1)
        | (go_at_call 91; refine HB.out.mono ?_; rintro e w1 ⟨rfl, H1⟩)
        | go_in)
      go_end0
      exact ⟨rfl, H1.out⟩
    | true =>
      rw [if_pos rfl]
      have hri : (r : Int) < 8 := by omega
      go_enter Tryz.func60, Tryz.ntmps60
      go_wp2_with (first
        | (go_at_call 12; refine (HT.out _).mono ?_; rintro e w1 ⟨rfl, hw⟩; subst w1)
        | (go_at_call 91; refine HB.out.mono ?_; rintro e w1 ⟨rfl, H1⟩; have cr : w1.cell? ⟨P, 2 + r, none⟩ = some (.string (m1.tx[r]'(by rw [H1.out.1.len]; exact hr))) := (H1.out.1.cell (2 + r)).trans (mcL_lo r _ (List.getElem?_eq_getElem _)); have fr := H1.out.1.frozen (2 + r))
        | go_in)
      go_end0
      exact ⟨rfl, H1.out.1.setText r t hr, H1.out.2.trans (UpB.set P (2 + r) _ _)⟩

/-- It goes elsewhere. -/
def goM (m : Mc) (b : Bool) (n : Nat) : Mc := if ((burnM m 0).2 && b) = true then { (burnM m 0).1 with next := n } else (burnM m 0).1

set_option maxHeartbeats 1000000 in
set_option maxRecDepth 100000 in
theorem goIf_any (m : Mc) (P : Nat) (hb : Bool) (n : Nat) (w : World) (h : McAt w P m) (hf : m.fuel ≤ 1000000) :
    Calls Tryz.prog 76 #[.pointer (some ⟨P, 0, none⟩), .bool hb, .int .i64 (n : Int)] w fun e w' => e = .returned (.tuple #[]) ∧ McAt w' P (goM m hb n) ∧ UpB P w w' := by
  have HB := burn_any m P 0 w h (by omega) hf
  unfold goM
  generalize burnM m 0 = bm at *
  obtain ⟨m1, b⟩ := bm
  have HB : Hid (Calls Tryz.prog 91 #[.pointer (some ⟨P, 0, none⟩), .int .i64 (0 : Int)] w fun e w' => e = .returned (.bool b) ∧ Hid (McAt w' P m1 ∧ UpB P w w')) := HB
  simp only
  clear h hf
  cases b with
  | false =>
    rw [if_neg (by simp)]
    go_enter Tryz.func76, Tryz.ntmps76
    go_wp2_with (first | (go_at_call 91; refine HB.out.mono ?_; rintro e w1 ⟨rfl, H1⟩) | go_in)
    go_end0
    exact ⟨rfl, H1.out⟩
  | true =>
    cases hb with
    | false =>
      rw [if_neg (by simp)]
      go_enter Tryz.func76, Tryz.ntmps76
      go_wp2_with (first | (go_at_call 91; refine HB.out.mono ?_; rintro e w1 ⟨rfl, H1⟩) | go_in)
      go_end0
      exact ⟨rfl, H1.out⟩
    | true =>
      rw [if_pos (by simp)]
      go_enter Tryz.func76, Tryz.ntmps76
      go_wp2_with (first | (go_at_call 91; refine HB.out.mono ?_; rintro e w1 ⟨rfl, H1⟩; have c11 := H1.out.1.c11; have f11 := H1.out.1.frozen 11) | go_in)
      go_end0
      exact ⟨rfl, H1.out.1.setNext n, H1.out.2.trans (UpB.set P 11 _ _)⟩
end Go.Proofs.YtcpomkgfcpfedaaGreatDoor
