/- The lines of a command. -/
import Derived.Test.YtcpomkgfcpfedaaGreatDoorSbG
import Derived.Test.YtcpomkgfcpfedaaGreatDoorSbF
namespace Go.Proofs.YtcpomkgfcpfedaaGreatDoor
open Go.RowKit Go.Shelf Go.Maps Go.WideMaps

theorem infoS {i : Option TypeInfo} {z : Value} {s b : Nat} (h : i.map (fun i => (i.zero, i.size, i.bytes)) = some (some z, s, b)) : ∃ i0, i = some i0 ∧ i0.zero = some z ∧ i0.size = s ∧ i0.bytes = b := by
  cases i with
  | none => cases h
  | some i0 =>
    simp at h
    exact ⟨i0, rfl, h.1, h.2.1, h.2.2⟩
theorem infLn : (Tryz.prog.info? 43).map (fun i => (i.zero, i.size, i.bytes)) = some (some (.agg #[.string ⟨#[]⟩, .int .i64 0, .int .i64 0, .string ⟨#[]⟩, .string ⟨#[]⟩, .int .i64 0, .int .i64 0]), 7, 80) := by kernel_rfl
theorem addS0 (g j : Nat) : (⟨g, 0, none⟩ : Addr).add j = ⟨g, j, none⟩ := by
  unfold Addr.add
  split <;> simp_all
theorem newCS (W : World) (cs : Array Value) (ty : TypeId) : ∀ (k : Nat) (u : Value), cs.toList[k]? = some u → (W.alloc (.cells cs ty)).cell? ((⟨W.heap.size, 0, none⟩ : Addr).add k) = some u := by
  intro k u hk
  rw [addS0, Lib.cell_of_heap (heap_alloc_new W _)]
  simpa using hk
/-- Appending, shut: the walk is not to look into it. -/
def appSb (ats : Array TypeId) (ty : TypeId) (args : Array Value) : Sem Value := Builtin.append_ ats ty args
theorem appSb_eq (ats : Array TypeId) (ty : TypeId) (args : Array Value) : Builtin.append_ ats ty args = appSb ats ty args := rfl

def lnCells (L : List Ln) : List Value := L.flatMap fun l => (lnC l).toList
theorem rowL_add {B : Nat} {L : List Ln} {v : Value} {w : World} (h : w.ownsRow B 43 7 v L.length (lnCells L)) (hB : B ≤ w.heap.size) (l : Ln) (hl : L.length ≤ 1000) :
    ∃ G C w', (appSb #[28, 28] 28 #[v, .slice (some ⟨w.heap.size, 0, none⟩) 1 1]).run Tryz.prog (w.alloc (.cells #[.string l.wd, .int .i64 (l.r : Int), .int .i64 (l.s : Int), .string l.pa, .string l.tx, .int .i64 (l.n : Int), .int .i64 (l.m : Int)] 43)) = .ok (.slice (some ⟨G, 0, none⟩) (L.length + 1) C) w' ∧
      w'.ownsRow B 43 7 (.slice (some ⟨G, 0, none⟩) (L.length + 1) C) (L ++ [l]).length (lnCells (L ++ [l])) ∧ Below B w w' := by
  obtain ⟨i0, hi, hz0, hz1, hz2⟩ := infoS infLn
  have hsz : (w.alloc (.cells #[.string l.wd, .int .i64 (l.r : Int), .int .i64 (l.s : Int), .string l.pa, .string l.tx, .int .i64 (l.n : Int), .int .i64 (l.m : Int)] 43)).heap.size = w.heap.size + 1 := World.size_alloc _ _
  have hr := h.alloc (.cells #[.string l.wd, .int .i64 (l.r : Int), .int .i64 (l.s : Int), .string l.pa, .string l.tx, .int .i64 (l.n : Int), .int .i64 (l.m : Int)] 43)
  obtain ⟨G, C, w', hrun, hrow, hgr, hat, hlt⟩ := run_append_lies (P := Tryz.prog) (w.alloc (.cells #[.string l.wd, .int .i64 (l.r : Int), .int .i64 (l.s : Int), .string l.pa, .string l.tx, .int .i64 (l.n : Int), .int .i64 (l.m : Int)] 43)) 28 28 B 43 i0 (.agg #[.string ⟨#[]⟩, .int .i64 0, .int .i64 0, .string ⟨#[]⟩, .string ⟨#[]⟩, .int .i64 0, .int .i64 0]) 7 80 Tryz.underlying28 hi hz0 hz1 hz2 rfl (by decide) v L.length (lnCells L) hr ⟨w.heap.size, 0, none⟩ 1 1 (lnC l).toList rfl (newCS w _ _) (fun u hu => by simp [lnC] at hu; rcases hu with rfl | rfl | rfl | rfl | rfl | rfl | rfl <;> rfl) (by decide) (by unfold maxLen; omega) (by omega) (by omega) (w.heap.size + 1) hsz
  refine ⟨G, C, w', hrun, ?_, ((Below.refl B w).alloc hB _).grown hgr (by omega) fun k hk => (hr.lt k hk).1⟩
  rw [List.length_append]
  unfold lnCells
  rw [List.flatMap_append]
  simp only [List.flatMap_cons, List.flatMap_nil, List.append_nil]
  exact hrow

/-- Texts in memory, as they stand below. -/
def TxAt (w : World) (ao : Option Addr) (ss : List ByteArray) : Prop := ss = [] ∨ ∃ g o, ao = some ⟨g, o, none⟩ ∧ g < w.heap.size ∧ ∀ j (hj : j < ss.length), w.cell? ⟨g, o + j, none⟩ = some (.string ss[j])
theorem TxAt.below {w w' : World} {ao : Option Addr} {ss : List ByteArray} (h : TxAt w ao ss) (hb : Below w.heap.size w w') : TxAt w' ao ss := by
  rcases h with h | ⟨g, o, e, hg, hc⟩
  · exact .inl h
  · exact .inr ⟨g, o, e, Nat.lt_of_lt_of_le hg hb.size, fun j hj => (hb.cell (p := ⟨g, o + j, none⟩) hg).trans (hc j hj)⟩
/-- The first line that is wrong. -/
def badF (n : Nat) (ss : List ByteArray) : Option Nat := ss.findIdx? fun s => (linF n s.data.toList).isNone
/-- What is wrong with a command: where, and how. -/
def chkF (ss : List ByteArray) : Nat × Nat := if 60 < ss.length ∨ ∃ s ∈ ss, 100000 < s.size then (0, 2) else match badF ss.length ss with
  | some i => (i, 1)
  | none => (0, 0)
def lnsF (n : Nat) (ss : List ByteArray) : List Ln := ss.filterMap fun s => linF n s.data.toList

theorem cf_any (ao : Option Addr) (cap : Nat) (ss : List ByteArray) (w : World) (hn : ss.length ≤ 60) (h : TxAt w ao ss) :
    Calls Tryz.prog 11 #[.slice ao ss.length cap, .func (.func 12) #[] #[]] w fun e w' => e = .returned (.bool (decide (∃ s ∈ ss, 100000 < s.size))) ∧ w' = w := by
  rcases h with rfl | ⟨g, o, rfl, _, hc⟩
  · simpa using cf_zero ao cap w
  · by_cases hs : ∃ s ∈ ss, 100000 < s.size
    · rw [decide_eq_true hs]
      exact cf_some g o cap ss w (by omega) hc hs
    · rw [decide_eq_false hs]
      exact cf_none g o cap ss w (by omega) hc (fun s h => Nat.le_of_not_lt fun h2 => hs ⟨s, h, h2⟩)
theorem lns_snoc (n : Nat) (ss : List ByteArray) {k : Nat} (hk : k < ss.length) {l : Ln} (h : linF n ss[k].data.toList = some l) : lnsF n (ss.take (k + 1)) = lnsF n (ss.take k) ++ [l] := by
  unfold lnsF
  rw [List.take_succ_eq_append_getElem hk, List.filterMap_append]
  simp [h]

theorem row_low {w : World} {B B' : Nat} {e : TypeId} {size n : Nat} {v : Value} {xs : List Value} (h : w.ownsRow B e size v n xs) (hB : B' ≤ B) : w.ownsRow B' e size v n xs := by
  obtain ⟨h1, h2 | ⟨g, c, cur, q1, q2, q3⟩⟩ := h
  · exact ⟨h1, .inl h2⟩
  · exact ⟨h1, .inr ⟨g, c, cur, q1, Nat.le_trans hB q2, q3⟩⟩
theorem row_up {w w' : World} {B : Nat} {e : TypeId} {size n : Nat} {v : Value} {xs : List Value} (h : w.ownsRow B e size v n xs) (hb : Below w.heap.size w w') : w'.ownsRow B e size v n xs := by
  obtain ⟨h1, h2 | ⟨g, c, cur, q1, q2, q3, q4⟩⟩ := h
  · exact ⟨h1, .inl h2⟩
  · exact ⟨h1, .inr ⟨g, c, cur, q1, q2, (hb.block g (Array.getElem?_eq_some_iff.1 q3).1).trans q3, q4⟩⟩
theorem below_low {B B' : Nat} {w w' w2 : World} (h : Below B w w') (k : Below B' w' w2) (hB : B ≤ B') : Below B w w2 :=
  ⟨k.os.trans h.os, k.tape.trans h.tape, k.output.trans h.output, Nat.le_trans h.size k.size, fun g hg => (k.block g (by omega)).trans (h.block g hg)⟩
theorem bad_some {n k : Nat} {ss : List ByteArray} (hk : k < ss.length) (h1 : ∀ j (hj : j < ss.length), j < k → (linF n ss[j].data.toList).isSome = true) (h2 : linF n ss[k].data.toList = none) : badF n ss = some k := by
  unfold badF
  rw [List.findIdx?_eq_some_iff_getElem]
  refine ⟨hk, by rw [h2]; rfl, fun j hj => ?_⟩
  have := h1 j (by omega) hj
  cases h : linF n ss[j].data.toList with
  | none => rw [h] at this; cases this
  | some l => simp
theorem bad_none {n : Nat} {ss : List ByteArray} (h1 : ∀ j (hj : j < ss.length), (linF n ss[j].data.toList).isSome = true) : badF n ss = none := by
  unfold badF
  rw [List.findIdx?_eq_none_iff]
  intro s hs
  obtain ⟨j, hj, rfl⟩ := List.getElem_of_mem hs
  have := h1 j hj
  cases h : linF n ss[j].data.toList with
  | none => rw [h] at this; cases this
  | some l => rfl

attribute [local go_sem ↓] appSb_eq

set_option maxHeartbeats 4000000 in
set_option maxRecDepth 100000 in
theorem linesOf_any (ao : Option Addr) (cap : Nat) (ss : List ByteArray) (w : World) (h : TxAt w ao ss) (hm : MaxIs w) (hlen : ss.length ≤ 4611686018427387904) :
    Calls Tryz.prog 7 #[.slice ao ss.length cap] w fun e w' => ∃ v, e = .returned (.tuple #[v, .int .i64 ((chkF ss).1 : Int), .int .i64 ((chkF ss).2 : Int)]) ∧ Below w.heap.size w w' ∧ ((chkF ss).2 = 0 → w'.ownsRow w.heap.size 43 7 v ss.length (lnCells (lnsF ss.length ss)) ∧ (lnsF ss.length ss).length = ss.length) := by
  by_cases hn : 60 < ss.length
  · have he : chkF ss = (0, 2) := by unfold chkF; rw [if_pos (.inl hn)]
    rw [he]
    have hni : (60 : Int) < (ss.length : Int) := by omega
    have hli : (ss.length : Int) ≤ 9223372036854775807 := by omega
    clear he hn hlen
    generalize ss.length = n at *
    go_enter Tryz.func7, Tryz.ntmps7
    go_wp2
    go_ret3
    exact ⟨_, rfl, Below.refl _ _, fun e => absurd e (by decide)⟩
  have HCF : Hid (Calls Tryz.prog 11 #[.slice ao ss.length cap, .func (.func 12) #[] #[]] w fun e w' => e = .returned (.bool (decide (∃ s ∈ ss, 100000 < s.size))) ∧ w' = w) := cf_any ao cap ss w (by omega) h
  by_cases hs : ∃ s ∈ ss, 100000 < s.size
  · have he : chkF ss = (0, 2) := by unfold chkF; rw [if_pos (.inr hs)]
    rw [he]
    rw [decide_eq_true hs] at HCF
    have hni : ¬ (60 : Int) < (ss.length : Int) := by omega
    clear he hn hlen hs h
    generalize ss.length = n at *
    go_enter Tryz.func7, Tryz.ntmps7
    go_wp2_with (first | (go_at_call 11; refine HCF.out.mono ?_; rintro e w1 ⟨rfl, hw⟩; subst w1) | go_in)
    go_ret3
    exact ⟨_, rfl, Below.refl _ _, fun e => absurd e (by decide)⟩
  rw [decide_eq_false hs] at HCF
  have HE : Hid (chkF ss = match badF ss.length ss with | some i => (i, 1) | none => (0, 0)) := by
    show _ = _
    unfold chkF
    rw [if_neg (by rintro (h1 | h1); exact hn h1; exact hs h1)]
  have HS : Hid (∀ s ∈ ss, s.size ≤ 100000) := fun s h1 => Nat.le_of_not_lt fun h2 => hs ⟨s, h1, h2⟩
  have HT : Hid (TxAt w ao ss) := h
  have HM : Hid (MaxIs w) := hm
  have HNF : Hid (Calls Tryz.prog 13 #[.int .i64 (ss.length : Int)] w fun e w' => ∃ M bn bl bp bs, e = .returned (.map (some M)) ∧ Hid (bs.length = 13 ∧ FmI w.heap.size M bn bl bp ss.length w bs w')) := (newForms_any ss.length w).mono fun e w' h => by obtain ⟨M, bn, bl, bp, bs, h1, h2, h3⟩ := h; exact ⟨M, bn, bl, bp, bs, h1, h2, h3⟩
  have hni : ¬ (60 : Int) < (ss.length : Int) := by omega
  have HN : Hid (ss.length ≤ 60) := by show ss.length ≤ 60; omega
  obtain ⟨c1, c2, hch⟩ : ∃ c1 c2 : Nat, chkF ss = (c1, c2) := ⟨_, _, rfl⟩
  have HCH : Hid (chkF ss = (c1, c2)) := hch
  rw [hch]
  simp only
  clear hn hs h hm hlen hch
  go_enter Tryz.func7, Tryz.ntmps7
  go_wp2_with (first
    | (go_at_call 11; refine HCF.out.mono ?_; rintro e w1 ⟨rfl, hw⟩; subst w1)
    | (go_at_call 13; refine HNF.out.mono ?_; rintro e w2 ⟨M, bn, bl, bp, bs, rfl, HF⟩)
    | go_in)
  go_loopw [6, 23] (fun v6 v wr => ∃ k : Nat, k ≤ ss.length ∧ v = .int .i64 (k : Int) ∧ Hid (wr.ownsRow w2.heap.size 43 7 v6 (lnsF ss.length (ss.take k)).length (lnCells (lnsF ss.length (ss.take k))) ∧ (lnsF ss.length (ss.take k)).length = k ∧ Below w2.heap.size w2 wr ∧ ∀ j (hj : j < ss.length), j < k → (linF ss.length ss[j].data.toList).isSome = true)) (fun _ v _ => ss.length - (intOf v).toNat)
  case atStart => exact ⟨0, by omega, rfl, ⟨rfl, .inl ⟨rfl, rfl⟩⟩, rfl, Below.refl _ _, fun j _ hj => absurd hj (by omega)⟩
  case round =>
    obtain ⟨k, hk, rfl, HI⟩ := hrel
    have hbw : Below w.heap.size w wr := below_low HF.out.2.bel HI.out.2.2.1 HF.out.2.bel.size
    have HBW : Hid (Below w.heap.size w wr) := hbw
    by_cases hkl : k < ss.length
    · rcases HT.out.below hbw with h0 | ⟨g, o, rfl, hg, hc⟩
      · exfalso; rw [h0] at hkl; exact absurd hkl (by simp)
      have cs := hc k hkl
      obtain ⟨s, hs⟩ : ∃ s, ss[k] = s := ⟨_, rfl⟩
      rw [hs] at cs
      have hFk := HF.out.2.keep HI.out.2.2.1 HF.out.2.bel.size
      have hLO := lineOf_any hFk (Nat.le_trans HF.out.2.bel.size HI.out.2.2.1.size) HF.out.1 s (by rw [← hs]; exact HS.out _ (List.getElem_mem hkl)) (HM.out.up hbw)
      have hki : (k : Int) < (ss.length : Int) := by omega
      have HHS : Hid (ss[k] = s) := hs
      unfold linV at hLO
      cases hlf : linF ss.length s.data.toList with
      | none =>
        rw [hlf] at hLO
        have HLO : Hid (Calls Tryz.prog 14 #[.string s, .map (some M)] wr fun e w' => e = .returned (.tuple #[.agg (lnC Ln.none), .bool false]) ∧ Hid (Below wr.heap.size wr w')) := hLO
        have HB2 : Hid (c1 = k ∧ c2 = 1) := by
          have h1 := bad_some hkl HI.out.2.2.2 (by rw [hs]; exact hlf)
          have h2 := HE.out
          rw [h1, HCH.out] at h2
          injection h2 with h2 h3
          exact ⟨h2, h3⟩
        obtain ⟨rfl, rfl⟩ := HB2.out
        clear hLO hlf hs hFk hc hbw
        unfold lnC Ln.none at HLO
        simp only at HLO
        go_wp2_with (first
          | (go_at_call 14; refine HLO.out.mono ?_; rintro e w3 ⟨rfl, HB3⟩)
          | go_in)
        go_ret3
        exact ⟨_, rfl, below_low HBW.out (HB3.out.alloc HB3.out.size _) HBW.out.size, fun e => absurd e (by decide)⟩
      | some l =>
        rw [hlf] at hLO
        have HLO : Hid (Calls Tryz.prog 14 #[.string s, .map (some M)] wr fun e w' => e = .returned (.tuple #[.agg #[.string l.wd, .int .i64 (l.r : Int), .int .i64 (l.s : Int), .string l.pa, .string l.tx, .int .i64 (l.n : Int), .int .i64 (l.m : Int)], .bool true]) ∧ Hid (Below wr.heap.size wr w')) := hLO
        have HSN : Hid (lnsF ss.length (ss.take (k + 1)) = lnsF ss.length (ss.take k) ++ [l]) := lns_snoc ss.length ss hkl (by rw [hs]; exact hlf)
        have HAP : Hid (∀ w3, Hid (Below wr.heap.size wr w3) → ∃ G C w4, (appSb #[28, 28] 28 #[u6, .slice (some ⟨w3.heap.size + 1, 0, none⟩) 1 1]).run Tryz.prog ((w3.alloc (.cells #[.string l.wd, .int .i64 (l.r : Int), .int .i64 (l.s : Int), .string l.pa, .string l.tx, .int .i64 (l.n : Int), .int .i64 (l.m : Int)] 43)).alloc (.cells #[.string l.wd, .int .i64 (l.r : Int), .int .i64 (l.s : Int), .string l.pa, .string l.tx, .int .i64 (l.n : Int), .int .i64 (l.m : Int)] 43)) = .ok (.slice (some ⟨G, 0, none⟩) (k + 1) C) w4 ∧ Hid (w4.ownsRow w2.heap.size 43 7 (.slice (some ⟨G, 0, none⟩) (k + 1) C) (lnsF ss.length (ss.take (k + 1))).length (lnCells (lnsF ss.length (ss.take (k + 1)))) ∧ (lnsF ss.length (ss.take (k + 1))).length = k + 1 ∧ Below w2.heap.size w2 w4)) := by
          intro w3 hb3
          have h1 := row_up HI.out.1 hb3.out
          have h2 : (w3.alloc (.cells #[.string l.wd, .int .i64 (l.r : Int), .int .i64 (l.s : Int), .string l.pa, .string l.tx, .int .i64 (l.n : Int), .int .i64 (l.m : Int)] 43)).heap.size = w3.heap.size + 1 := World.size_alloc _ _
          have h3 : w2.heap.size ≤ wr.heap.size := HI.out.2.2.1.size
          have h4 := hb3.out.size
          obtain ⟨G, C, w4, r1, r2, r3⟩ := rowL_add (h1.alloc (.cells #[.string l.wd, .int .i64 (l.r : Int), .int .i64 (l.s : Int), .string l.pa, .string l.tx, .int .i64 (l.n : Int), .int .i64 (l.m : Int)] 43)) (by rw [h2]; omega) l (by rw [HI.out.2.1]; have := HN.out; omega)
          rw [h2, HI.out.2.1] at r1
          rw [HI.out.2.1] at r2
          refine ⟨G, C, w4, r1, ?_, ?_, ?_⟩
          · rw [HSN.out]
            exact r2
          · rw [HSN.out, List.length_append, HI.out.2.1]
            rfl
          · exact ((below_low HI.out.2.2.1 hb3.out h3).alloc (by omega) _).trans r3
        have HSO : Hid (∀ j (hj : j < ss.length), j < k + 1 → (linF ss.length ss[j].data.toList).isSome = true) := by
          intro j hj hjk
          by_cases e : j = k
          · subst e
            rw [hs, hlf]
            rfl
          · exact HI.out.2.2.2 j hj (by omega)
        clear hLO hlf hs hFk hc hbw
        generalize (l.r : Int) = l1 at *
        generalize (l.s : Int) = l2 at *
        generalize (l.n : Int) = l3 at *
        generalize (l.m : Int) = l4 at *
        go_wp2_with (first
          | (go_at_call 14; refine HLO.out.mono ?_; rintro e w3 ⟨rfl, HB3⟩; obtain ⟨G, C, w4, hap, HR4⟩ := HAP.out w3 HB3)
          | go_in)
        refine ⟨⟨k + 1, by omega, by go_num, HR4.out.1, HR4.out.2.1, HR4.out.2.2, HSO.out⟩, by simp [intOf]; omega⟩
    · obtain rfl : k = ss.length := by omega
      have hki : ¬ (ss.length : Int) < (ss.length : Int) := by omega
      have HB2 : Hid (c1 = 0 ∧ c2 = 0) := by
        have h1 := bad_none (fun j hj => HI.out.2.2.2 j hj hj)
        have h2 := HE.out
        rw [h1, HCH.out] at h2
        injection h2 with h2 h3
        exact ⟨h2, h3⟩
      obtain ⟨rfl, rfl⟩ := HB2.out
      go_wp2
      go_ret3
      have h1 := HI.out.1
      have h2 := HI.out.2.1
      rw [List.take_length] at h1 h2
      rw [h2] at h1
      exact ⟨_, rfl, HBW.out, row_low h1 HF.out.2.bel.size, h2⟩

set_option maxHeartbeats 1000000 in
set_option maxRecDepth 100000 in
theorem SCheck_any (ao : Option Addr) (cap : Nat) (ss : List ByteArray) (w : World) (h : TxAt w ao ss) (hm : MaxIs w) (hlen : ss.length ≤ 4611686018427387904) :
    Calls Tryz.prog 4 #[.slice ao ss.length cap] w fun e w' => e = .returned (.tuple #[.int .i64 ((chkF ss).1 : Int), .int .i64 ((chkF ss).2 : Int)]) ∧ Below w.heap.size w w' := by
  have HL : Hid (Calls Tryz.prog 7 #[.slice ao ss.length cap] w fun e w' => ∃ v, e = .returned (.tuple #[v, .int .i64 ((chkF ss).1 : Int), .int .i64 ((chkF ss).2 : Int)]) ∧ Hid (Below w.heap.size w w')) := (linesOf_any ao cap ss w h hm hlen).mono fun e w' hh => by obtain ⟨v, h1, h2, _⟩ := hh; exact ⟨v, h1, h2⟩
  clear h hm hlen
  generalize chkF ss = cc at *
  obtain ⟨c1, c2⟩ := cc
  simp only at HL ⊢
  generalize ss.length = n at *
  go_enter Tryz.func4, Tryz.ntmps4
  go_wp2_with (first | (go_at_call 7; refine HL.out.mono ?_; rintro e w1 ⟨v, rfl, HB⟩) | go_in)
  go_ret2
  exact ⟨rfl, HB.out⟩
end Go.Proofs.YtcpomkgfcpfedaaGreatDoor
