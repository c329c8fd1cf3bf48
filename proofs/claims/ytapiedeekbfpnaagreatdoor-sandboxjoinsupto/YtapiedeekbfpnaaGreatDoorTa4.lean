/- The lines of a command. -/
import Derived.Laws.EntriesVeiled
import Derived.StillTailTactics
import Derived.Test.YtapiedeekbfpnaaGreatDoorChecked
import Derived.ProofKit
import Derived.WalkLawsBesides
import Derived.Below
import Derived.Deep.RegionHeld3
import Derived.Deep.MidRow
import Derived.Lib.Builder
import Derived.Test.YtapiedeekbfpnaaGreatDoorTa3
namespace Go.Proofs.YtapiedeekbfpnaaGreatDoor
open Go.RowKit Go.Shelf Go.Maps Go.WideMaps

theorem infoS {i : Option TypeInfo} {z : Value} {s b : Nat} (h : i.map (fun i => (i.zero, i.size, i.bytes)) = some (some z, s, b)) : ∃ i0, i = some i0 ∧ i0.zero = some z ∧ i0.size = s ∧ i0.bytes = b := by
  cases i with
  | none => cases h
  | some i0 =>
    simp at h
    exact ⟨i0, rfl, h.1, h.2.1, h.2.2⟩
theorem infLn : (Tryz.prog.info? 67).map (fun i => (i.zero, i.size, i.bytes)) = some (some (.agg #[.string ⟨#[]⟩, .int .i64 0, .int .i64 0, .string ⟨#[]⟩, .string ⟨#[]⟩, .int .i64 0, .int .i64 0]), 7, 80) := by kernel_rfl
theorem addS0 (g j : Nat) : (⟨g, 0, none⟩ : Addr).add j = ⟨g, j, none⟩ := by
  unfold Addr.add
  split <;> simp_all
theorem newCS (W : World) (cs : Array Value) (ty : TypeId) : ∀ (k : Nat) (u : Value), cs.toList[k]? = some u → (W.alloc (.cells cs ty)).cell? ((⟨W.heap.size, 0, none⟩ : Addr).add k) = some u := by
  intro k u hk
  rw [addS0, Lib.cell_of_heap (heap_alloc_new W _)]
  simpa using hk
/-- Appending, shut: the walk is not to look into it. -/
def appSb (ats : Array TypeId) (ty : TypeId) (args : Array Value) : Sem Value := Builtin.append_ ats ty args
theorem appSb_eq (ats : Array TypeId) (ty : TypeId) (args : Array Value) : Builtin.append_ ats ty args = appSb ats ty args := rfl

def lnCells (L : List Ln) : List Value := L.flatMap fun l => (lnC l).toList
theorem rowL_add {B : Nat} {L : List Ln} {v : Value} {w : World} (h : w.ownsRow B 67 7 v L.length (lnCells L)) (hB : B ≤ w.heap.size) (l : Ln) (hl : L.length ≤ 1000) :
    ∃ G C w', (appSb #[42, 42] 42 #[v, .slice (some ⟨w.heap.size, 0, none⟩) 1 1]).run Tryz.prog (w.alloc (.cells #[.string l.wd, .int .i64 (l.r : Int), .int .i64 (l.s : Int), .string l.pa, .string l.tx, .int .i64 (l.n : Int), .int .i64 (l.m : Int)] 67)) = .ok (.slice (some ⟨G, 0, none⟩) (L.length + 1) C) w' ∧
      w'.ownsRow B 67 7 (.slice (some ⟨G, 0, none⟩) (L.length + 1) C) (L ++ [l]).length (lnCells (L ++ [l])) ∧ Below B w w' := by
  obtain ⟨i0, hi, hz0, hz1, hz2⟩ := infoS infLn
  have hsz : (w.alloc (.cells #[.string l.wd, .int .i64 (l.r : Int), .int .i64 (l.s : Int), .string l.pa, .string l.tx, .int .i64 (l.n : Int), .int .i64 (l.m : Int)] 67)).heap.size = w.heap.size + 1 := World.size_alloc _ _
  have hr := h.alloc (.cells #[.string l.wd, .int .i64 (l.r : Int), .int .i64 (l.s : Int), .string l.pa, .string l.tx, .int .i64 (l.n : Int), .int .i64 (l.m : Int)] 67)
  obtain ⟨G, C, w', hrun, hrow, hgr, hat, hlt⟩ := run_append_lies (P := Tryz.prog) (w.alloc (.cells #[.string l.wd, .int .i64 (l.r : Int), .int .i64 (l.s : Int), .string l.pa, .string l.tx, .int .i64 (l.n : Int), .int .i64 (l.m : Int)] 67)) 42 42 B 67 i0 (.agg #[.string ⟨#[]⟩, .int .i64 0, .int .i64 0, .string ⟨#[]⟩, .string ⟨#[]⟩, .int .i64 0, .int .i64 0]) 7 80 Tryz.underlying42 hi hz0 hz1 hz2 rfl (by decide) v L.length (lnCells L) hr ⟨w.heap.size, 0, none⟩ 1 1 (lnC l).toList rfl (newCS w _ _) (fun u hu => by simp [lnC] at hu; rcases hu with rfl | rfl | rfl | rfl | rfl | rfl | rfl <;> rfl) (by decide) (by unfold maxLen; omega) (by omega) (by omega) (w.heap.size + 1) hsz
  refine ⟨G, C, w', hrun, ?_, ((Below.refl B w).alloc hB _).grown hgr (by omega) fun k hk => (hr.lt k hk).1⟩
  rw [List.length_append]
  unfold lnCells
  rw [List.flatMap_append]
  simp only [List.flatMap_cons, List.flatMap_nil, List.append_nil]
  exact hrow

/-- Texts in memory, as they stand below. -/
def TxAt (w : World) (ao : Option Addr) (ss : List ByteArray) : Prop := ss = [] ∨ ∃ g o, ao = some ⟨g, o, none⟩ ∧ g < w.heap.size ∧ ∀ j (hj : j < ss.length), w.cell? ⟨g, o + j, none⟩ = some (.string ss[j])
theorem TxAt.below {w w' : World} {ao : Option Addr} {ss : List ByteArray} (h : TxAt w ao ss) (hb : Below w.heap.size w w') : TxAt w' ao ss := by
  rcases h with h | ⟨g, o, e, hg, hc⟩
  · exact .inl h
  · exact .inr ⟨g, o, e, Nat.lt_of_lt_of_le hg hb.size, fun j hj => (hb.cell (p := ⟨g, o + j, none⟩) hg).trans (hc j hj)⟩
/-- The first line that is wrong. -/
def badF (n : Nat) (ss : List ByteArray) : Option Nat := ss.findIdx? fun s => (linF n s.data.toList).isNone
/-- What is wrong with a command: where, and how. -/
def chkF (ss : List ByteArray) : Nat × Nat := if 60 < ss.length ∨ ∃ s ∈ ss, 100000 < s.size then (0, 2) else match badF ss.length ss with
  | some i => (i, 1)
  | none => (0, 0)
def lnsF (n : Nat) (ss : List ByteArray) : List Ln := ss.filterMap fun s => linF n s.data.toList

theorem cf_any (ao : Option Addr) (cap : Nat) (ss : List ByteArray) (w : World) (hn : ss.length ≤ 60) (h : TxAt w ao ss) :
    Calls Tryz.prog 32 #[.slice ao ss.length cap, .func (.func 33) #[] #[]] w fun e w' => e = .returned (.bool (decide (∃ s ∈ ss, 100000 < s.size))) ∧ w' = w := by
  rcases h with rfl | ⟨g, o, rfl, _, hc⟩
  · simpa using cf_zero ao cap w
  · by_cases hs : ∃ s ∈ ss, 100000 < s.size
    · rw [decide_eq_true hs]
      exact cf_some g o cap ss w (by omega) hc hs
    · rw [decide_eq_false hs]
      exact cf_none g o cap ss w (by omega) hc (fun s h => Nat.le_of_not_lt fun h2 => hs ⟨s, h, h2⟩)
theorem lns_snoc (n : Nat) (ss : List ByteArray) {k : Nat} (hk : k < ss.length) {l : Ln} (h : linF n ss[k].data.toList = some l) : lnsF n (ss.take (k + 1)) = lnsF n (ss.take k) ++ [l] := by
  unfold lnsF
  rw [List.take_succ_eq_append_getElem hk, List.filterMap_append]
  simp [h]

theorem row_low {w : World} {B B' : Nat} {e : TypeId} {size n : Nat} {v : Value} {xs : List Value} (h : w.ownsRow B e size v n xs) (hB : B' ≤ B) : w.ownsRow B' e size v n xs := by
  obtain ⟨h1, h2 | ⟨g, c, cur, q1, q2, q3⟩⟩ := h
  · exact ⟨h1, .inl h2⟩
  · exact ⟨h1, .inr ⟨g, c, cur, q1, Nat.le_trans hB q2, q3⟩⟩
theorem row_up {w w' : World} {B : Nat} {e : TypeId} {size n : Nat} {v : Value} {xs : List Value} (h : w.ownsRow B e size v n xs) (hb : Below w.heap.size w w') : w'.ownsRow B e size v n xs := by
  obtain ⟨h1, h2 | ⟨g, c, cur, q1, q2, q3, q4⟩⟩ := h
  · exact ⟨h1, .inl h2⟩
  · exact ⟨h1, .inr ⟨g, c, cur, q1, q2, (hb.block g (Array.getElem?_eq_some_iff.1 q3).1).trans q3, q4⟩⟩
theorem below_low {B B' : Nat} {w w' w2 : World} (h : Below B w w') (k : Below B' w' w2) (hB : B ≤ B') : Below B w w2 :=
  ⟨k.os.trans h.os, k.tape.trans h.tape, k.output.trans h.output, Nat.le_trans h.size k.size, fun g hg => (k.block g (by omega)).trans (h.block g hg)⟩
theorem bad_some {n k : Nat} {ss : List ByteArray} (hk : k < ss.length) (h1 : ∀ j (hj : j < ss.length), j < k → (linF n ss[j].data.toList).isSome = true) (h2 : linF n ss[k].data.toList = none) : badF n ss = some k := by
  unfold badF
  rw [List.findIdx?_eq_some_iff_getElem]
  refine ⟨hk, by rw [h2]; rfl, fun j hj => ?_⟩
  have := h1 j (by omega) hj
  cases h : linF n ss[j].data.toList with
  | none => rw [h] at this; cases this
  | some l => simp
theorem bad_none {n : Nat} {ss : List ByteArray} (h1 : ∀ j (hj : j < ss.length), (linF n ss[j].data.toList).isSome = true) : badF n ss = none := by
  unfold badF
  rw [List.findIdx?_eq_none_iff]
  intro s hs
  obtain ⟨j, hj, rfl⟩ := List.getElem_of_mem hs
  have := h1 j hj
  cases h : linF n ss[j].data.toList with
  | none => rw [h] at this; cases this
  | some l => rfl

attribute [local go_sem ↓] appSb_eq

set_option maxHeartbeats 4000000 in
set_option maxRecDepth 100000 in
theorem linesOf_any (ao : Option Addr) (cap : Nat) (ss : List ByteArray) (w : World) (h : TxAt w ao ss) (hm : MaxIs w) (hlen : ss.length ≤ 4611686018427387904) :
    Calls Tryz.prog 19 #[.slice ao ss.length cap] w fun e w' => ∃ v, e = .returned (.tuple #[v, .int .i64 ((chkF ss).1 : Int), .int .i64 ((chkF ss).2 : Int)]) ∧ Below w.heap.size w w' ∧ ((chkF ss).2 = 0 → w'.ownsRow w.heap.size 67 7 v ss.length (lnCells (lnsF ss.length ss)) ∧ (lnsF ss.length ss).length = ss.length) := by
  by_cases hn : 60 < ss.length
  · have he : chkF ss = (0, 2) := by unfold chkF; rw [if_pos (.inl hn)]
    rw [he]
    have hni : (60 : Int) < (ss.length : Int) := by omega
    have hli : (ss.length : Int) ≤ 9223372036854775807 := by omega
    clear he hn hlen
    generalize ss.length = n at *
    go_enter Tryz.func19, Tryz.ntmps19
    go_wp2
    go_ret3
    exact ⟨_, rfl, Below.refl _ _, fun e => absurd e (by decide)⟩
  have HCF : Hid (Calls Tryz.prog 32 #[.slice ao ss.length cap, .func (.func 33) #[] #[]] w fun e w' => e = .returned (.bool (decide (∃ s ∈ ss, 100000 < s.size))) ∧ w' = w) := cf_any ao cap ss w (by omega) h
  by_cases hs : ∃ s ∈ ss, 100000 < s.size
  · have he : chkF ss = (0, 2) := by unfold chkF; rw [if_pos (.inr hs)]
    rw [he]
    rw [decide_eq_true hs] at HCF
    have hni : ¬ (60 : Int) < (ss.length : Int) := by omega
    clear he hn hlen hs h
    generalize ss.length = n at *
    go_enter Tryz.func19, Tryz.ntmps19
    go_wp2_with (first | (go_at_call 32; refine HCF.out.mono ?_; rintro e w1 ⟨rfl, hw⟩; subst w1) | go_in)
    go_ret3
    exact ⟨_, rfl, Below.refl _ _, fun e => absurd e (by decide)⟩
  rw [decide_eq_false hs] at HCF
  have HE : Hid (chkF ss = match badF ss.length ss with | some i => (i, 1) | none => (0, 0)) := by
    show _ = _
    unfold chkF
    rw [if_neg (by rintro (h1 | h1); exact hn h1; exact hs h1)]
  have HS : Hid (∀ s ∈ ss, s.size ≤ 100000) := fun s h1 => Nat.le_of_not_lt fun h2 => hs ⟨s, h1, h2⟩
  have HT : Hid (TxAt w ao ss) := h
  have HM : Hid (MaxIs w) := hm
  have HNF : Hid (Calls Tryz.prog 34 #[.int .i64 (ss.length : Int)] w fun e w' => ∃ M bn bl bp bs, e = .returned (.map (some M)) ∧ Hid (bs.length = 13 ∧ FmI w.heap.size M bn bl bp ss.length w bs w')) := (newForms_any ss.length w).mono fun e w' h => by obtain ⟨M, bn, bl, bp, bs, h1, h2, h3⟩ := h; exact ⟨M, bn, bl, bp, bs, h1, h2, h3⟩
  have hni : ¬ (60 : Int) < (ss.length : Int) := by omega
  have HN : Hid (ss.length ≤ 60) := by show ss.length ≤ 60; omega
  obtain ⟨c1, c2, hch⟩ : ∃ c1 c2 : Nat, chkF ss = (c1, c2) := ⟨_, _, rfl⟩
  have HCH : Hid (chkF ss = (c1, c2)) := hch
  rw [hch]
  simp only
  clear hn hs h hm hlen hch
  go_enter Tryz.func19, Tryz.ntmps19
  go_wp2_with (first
    | (go_at_call 32; refine HCF.out.mono ?_; rintro e w1 ⟨rfl, hw⟩; subst w1)
    | (go_at_call 34; refine HNF.out.mono ?_; rintro e w2 ⟨M, bn, bl, bp, bs, rfl, HF⟩)
    | go_in)
  go_loopw [6, 23] (fun v6 v wr => ∃ k : Nat, k ≤ ss.length ∧ v = .int .i64 (k : Int) ∧ Hid (wr.ownsRow w2.heap.size 67 7 v6 (lnsF ss.length (ss.take k)).length (lnCells (lnsF ss.length (ss.take k))) ∧ (lnsF ss.length (ss.take k)).length = k ∧ Below w2.heap.size w2 wr ∧ ∀ j (hj : j < ss.length), j < k → (linF ss.length ss[j].data.toList).isSome = true)) (fun _ v _ => ss.length - (intOf v).toNat)
  case atStart => exact ⟨0, by omega, rfl, ⟨rfl, .inl ⟨rfl, rfl⟩⟩, rfl, Below.refl _ _, fun j _ hj => absurd hj (by omega)⟩
  case round =>
    obtain ⟨k, hk, rfl, HI⟩ := hrel
    have hbw : Below w.heap.size w wr := below_low HF.out.2.bel HI.out.2.2.1 HF.out.2.bel.size
    have HBW : Hid (Below w.heap.size w wr) := hbw
    by_cases hkl : k < ss.length
    · rcases HT.out.below hbw with h0 | ⟨g, o, rfl, hg, hc⟩
      · exfalso; rw [h0] at hkl; exact absurd hkl (by simp)
      have cs := hc k hkl
      obtain ⟨s, hs⟩ : ∃ s, ss[k] = s := ⟨_, rfl⟩
      rw [hs] at cs
      have hFk := HF.out.2.keep HI.out.2.2.1 HF.out.2.bel.size
      have hLO := lineOf_any hFk (Nat.le_trans HF.out.2.bel.size HI.out.2.2.1.size) HF.out.1 s (by rw [← hs]; exact HS.out _ (List.getElem_mem hkl)) (HM.out.up hbw)
      have hki : (k : Int) < (ss.length : Int) := by omega
      have HHS : Hid (ss[k] = s) := hs
      unfold linV at hLO
      cases hlf : linF ss.length s.data.toList with
      | none =>
        rw [hlf] at hLO
        have HLO : Hid (Calls Tryz.prog 35 #[.string s, .map (some M)] wr fun e w' => e = .returned (.tuple #[.agg (lnC Ln.none), .bool false]) ∧ Hid (Below wr.heap.size wr w')) := hLO
        have HB2 : Hid (c1 = k ∧ c2 = 1) := by
          have h1 := bad_some hkl HI.out.2.2.2 (by rw [hs]; exact hlf)
          have h2 := HE.out
          rw [h1, HCH.out] at h2
          injection h2 with h2 h3
          exact ⟨h2, h3⟩
        obtain ⟨rfl, rfl⟩ := HB2.out
        clear hLO hlf hs hFk hc hbw
        unfold lnC Ln.none at HLO
        simp only at HLO
        go_wp2_with (first
          | (go_at_call 35; refine HLO.out.mono ?_; rintro e w3 ⟨rfl, HB3⟩)
          | go_in)
        go_ret3
        exact ⟨_, rfl, below_low HBW.out (HB3.out.alloc HB3.out.size _) HBW.out.size, fun e => absurd e (by decide)⟩
      | some l =>
        rw [hlf] at hLO
        have HLO : Hid (Calls Tryz.prog 35 #[.string s, .map (some M)] wr fun e w' => e = .returned (.tuple #[.agg #[.string l.wd, .int .i64 (l.r : Int), .int .i64 (l.s : Int), .string l.pa, .string l.tx, .int .i64 (l.n : Int), .int .i64 (l.m : Int)], .bool true]) ∧ Hid (Below wr.heap.size wr w')) := hLO
        have HSN : Hid (lnsF ss.length (ss.take (k + 1)) = lnsF ss.length (ss.take k) ++ [l]) := lns_snoc ss.length ss hkl (by rw [hs]; exact hlf)
        have HAP : Hid (∀ w3, Hid (Below wr.heap.size wr w3) → ∃ G C w4, (appSb #[42, 42] 42 #[u6, .slice (some ⟨w3.heap.size + 1, 0, none⟩) 1 1]).run Tryz.prog ((w3.alloc (.cells #[.string l.wd, .int .i64 (l.r : Int), .int .i64 (l.s : Int), .string l.pa, .string l.tx, .int .i64 (l.n : Int), .int .i64 (l.m : Int)] 67)).alloc (.cells #[.string l.wd, .int .i64 (l.r : Int), .int .i64 (l.s : Int), .string l.pa, .string l.tx, .int .i64 (l.n : Int), .int .i64 (l.m : Int)] 67)) = .ok (.slice (some ⟨G, 0, none⟩) (k + 1) C) w4 ∧ Hid (w4.ownsRow w2.heap.size 67 7 (.slice (some ⟨G, 0, none⟩) (k + 1) C) (lnsF ss.length (ss.take (k + 1))).length (lnCells (lnsF ss.length (ss.take (k + 1)))) ∧ (lnsF ss.length (ss.take (k + 1))).length = k + 1 ∧ Below w2.heap.size w2 w4)) := by
          intro w3 hb3
          have h1 := row_up HI.out.1 hb3.out
          have h2 : (w3.alloc (.cells #[.string l.wd, .int .i64 (l.r : Int), .int .i64 (l.s : Int), .string l.pa, .string l.tx, .int .i64 (l.n : Int), .int .i64 (l.m : Int)] 67)).heap.size = w3.heap.size + 1 := World.size_alloc _ _
          have h3 : w2.heap.size ≤ wr.heap.size := HI.out.2.2.1.size
          have h4 := hb3.out.size
          obtain ⟨G, C, w4, r1, r2, r3⟩ := rowL_add (h1.alloc (.cells #[.string l.wd, .int .i64 (l.r : Int), .int .i64 (l.s : Int), .string l.pa, .string l.tx, .int .i64 (l.n : Int), .int .i64 (l.m : Int)] 67)) (by rw [h2]; omega) l (by rw [HI.out.2.1]; have := HN.out; omega)
          rw [h2, HI.out.2.1] at r1
          rw [HI.out.2.1] at r2
          refine ⟨G, C, w4, r1, ?_, ?_, ?_⟩
          · rw [HSN.out]
            exact r2
          · rw [HSN.out, List.length_append, HI.out.2.1]
            rfl
          · exact ((below_low HI.out.2.2.1 hb3.out h3).alloc (by omega) _).trans r3
        have HSO : Hid (∀ j (hj : j < ss.length), j < k + 1 → (linF ss.length ss[j].data.toList).isSome = true) := by
          intro j hj hjk
          by_cases e : j = k
          · subst e
            rw [hs, hlf]
            rfl
          · exact HI.out.2.2.2 j hj (by omega)
        clear hLO hlf hs hFk hc hbw
        generalize (l.r : Int) = l1 at *
        generalize (l.s : Int) = l2 at *
        generalize (l.n : Int) = l3 at *
        generalize (l.m : Int) = l4 at *
        go_wp2_with (first
          | (go_at_call 35; refine HLO.out.mono ?_; rintro e w3 ⟨rfl, HB3⟩; obtain ⟨G, C, w4, hap, HR4⟩ := HAP.out w3 HB3)
          | go_in)
        refine ⟨⟨k + 1, by omega, by go_num, HR4.out.1, HR4.out.2.1, HR4.out.2.2, HSO.out⟩, by simp [intOf]; omega⟩
    · obtain rfl : k = ss.length := by omega
      have hki : ¬ (ss.length : Int) < (ss.length : Int) := by omega
      have HB2 : Hid (c1 = 0 ∧ c2 = 0) := by
        have h1 := bad_none (fun j hj => HI.out.2.2.2 j hj hj)
        have h2 := HE.out
        rw [h1, HCH.out] at h2
        injection h2 with h2 h3
        exact ⟨h2, h3⟩
      obtain ⟨rfl, rfl⟩ := HB2.out
      go_wp2
      go_ret3
      have h1 := HI.out.1
      have h2 := HI.out.2.1
      rw [List.take_length] at h1 h2
      rw [h2] at h1
      exact ⟨_, rfl, HBW.out, row_low h1 HF.out.2.bel.size, h2⟩

set_option maxHeartbeats 1000000 in
set_option maxRecDepth 100000 in
theorem SCheck_any (ao : Option Addr) (cap : Nat) (ss : List ByteArray) (w : World) (h : TxAt w ao ss) (hm : MaxIs w) (hlen : ss.length ≤ 4611686018427387904) :
    Calls Tryz.prog 26 #[.slice ao ss.length cap] w fun e w' => e = .returned (.tuple #[.int .i64 ((chkF ss).1 : Int), .int .i64 ((chkF ss).2 : Int)]) ∧ Below w.heap.size w w' := by
  have HL : Hid (Calls Tryz.prog 19 #[.slice ao ss.length cap] w fun e w' => ∃ v, e = .returned (.tuple #[v, .int .i64 ((chkF ss).1 : Int), .int .i64 ((chkF ss).2 : Int)]) ∧ Hid (Below w.heap.size w w')) := (linesOf_any ao cap ss w h hm hlen).mono fun e w' hh => by obtain ⟨v, h1, h2, _⟩ := hh; exact ⟨v, h1, h2⟩
  clear h hm hlen
  generalize chkF ss = cc at *
  obtain ⟨c1, c2⟩ := cc
  simp only at HL ⊢
  generalize ss.length = n at *
  go_enter Tryz.func26, Tryz.ntmps26
  go_wp2_with (first | (go_at_call 19; refine HL.out.mono ?_; rintro e w1 ⟨v, rfl, HB⟩) | go_in)
  go_ret2
  exact ⟨rfl, HB.out⟩
end Go.Proofs.YtapiedeekbfpnaaGreatDoor

/- A machine in memory: what burns, what ends it, what is put. -/
namespace Go.Proofs.YtapiedeekbfpnaaGreatDoor
open Go.RowKit Go.Shelf

/-- A machine: its files (as a value), the map of what is made (a block), its texts, and how it stands. -/
structure Mc where
  fv : Value
  mp : Nat
  tx : List ByteArray
  fuel : Nat
  next : Nat
  ended : Bool
  code : Nat
def mcL (m : Mc) : List Value := [m.fv, .map (some m.mp)] ++ (m.tx.map Value.string ++ [.int .i64 (m.fuel : Int), .int .i64 (m.next : Int), .bool m.ended, .int .i64 (m.code : Int)])
structure McAt (w : World) (P : Nat) (m : Mc) : Prop where
  at_ : w.heap[P]? = some (.cells (mcL m).toArray 52 (0, 0))
  len : m.tx.length = 8
theorem McAt.lt {w : World} {P : Nat} {m : Mc} (h : McAt w P m) : P < w.heap.size := (Array.getElem?_eq_some_iff.1 h.at_).1
theorem McAt.below {w w' : World} {P : Nat} {m : Mc} (h : McAt w P m) (hb : Below w.heap.size w w') : McAt w' P m := ⟨(hb.block P h.lt).trans h.at_, h.len⟩
theorem mcL_lo {m : Mc} (i : Nat) (x : ByteArray) (hx : m.tx[i]? = some x) : (mcL m)[2 + i]? = some (.string x) := by
  unfold mcL
  have hi : i < m.tx.length := (List.getElem?_eq_some_iff.1 hx).1
  rw [List.getElem?_append_right (by simp), List.getElem?_append_left (by simp; omega), List.getElem?_map]
  simp [hx]
theorem mcL_hi {m : Mc} (h : m.tx.length = 8) (i : Nat) : (mcL m)[10 + i]? = [Value.int .i64 (m.fuel : Int), .int .i64 (m.next : Int), .bool m.ended, .int .i64 (m.code : Int)][i]? := by
  unfold mcL
  rw [List.getElem?_append_right (by simp; omega), List.getElem?_append_right (by simp; omega)]
  simp only [List.length_map, h, List.length_cons, List.length_nil]
  congr 1
  omega
theorem mcL_set_hi {m : Mc} (h : m.tx.length = 8) (i : Nat) (v : Value) : (mcL m).set (10 + i) v = [m.fv, .map (some m.mp)] ++ (m.tx.map Value.string ++ [Value.int .i64 (m.fuel : Int), .int .i64 (m.next : Int), .bool m.ended, .int .i64 (m.code : Int)].set i v) := by
  unfold mcL
  rw [List.set_append_right _ _ (by simp; omega), List.set_append_right _ _ (by simp; omega)]
  simp only [List.length_map, h, List.length_cons, List.length_nil]
  rw [show 10 + i - (0 + 1 + 1) - 8 = i by omega]
theorem mcL_set_lo {m : Mc} (i : Nat) (x : ByteArray) (hi : i < m.tx.length) : (mcL m).set (2 + i) (.string x) = mcL { m with tx := m.tx.set i x } := by
  unfold mcL
  rw [List.set_append_right _ _ (by simp), List.set_append_left _ _ (by simp; omega)]
  simp only [List.length_cons, List.length_nil]
  rw [show 2 + i - (0 + 1 + 1) = i by omega, List.map_set]

section
variable {w : World} {P : Nat} {m : Mc}
theorem McAt.cell (h : McAt w P m) (i : Nat) : w.cell? ⟨P, i, none⟩ = (mcL m)[i]? := by
  rw [Lib.cell_of_heap h.at_, List.getElem?_toArray]
theorem McAt.c10 (h : McAt w P m) : w.cell? ⟨P, 10, none⟩ = some (.int .i64 (m.fuel : Int)) := (h.cell 10).trans (mcL_hi h.len 0)
theorem McAt.c11 (h : McAt w P m) : w.cell? ⟨P, 11, none⟩ = some (.int .i64 (m.next : Int)) := (h.cell 11).trans (mcL_hi h.len 1)
theorem McAt.c12 (h : McAt w P m) : w.cell? ⟨P, 12, none⟩ = some (.bool m.ended) := (h.cell 12).trans (mcL_hi h.len 2)
theorem McAt.c13 (h : McAt w P m) : w.cell? ⟨P, 13, none⟩ = some (.int .i64 (m.code : Int)) := (h.cell 13).trans (mcL_hi h.len 3)
theorem McAt.frozen (h : McAt w P m) (i : Nat) : w.frozen? ⟨P, i, none⟩ = false := Lib.frozen_of_heap h.at_ i
theorem McAt.set (h : McAt w P m) (i : Nat) (v : Value) : (w.setCell ⟨P, i, none⟩ v).heap[P]? = some (.cells ((mcL m).set i v).toArray 52 (0, 0)) := by
  rw [Go.Joins.block_setCell h.at_]
  simp
theorem McAt.setFuel (h : McAt w P m) (x : Nat) : McAt (w.setCell ⟨P, 10, none⟩ (.int .i64 (x : Int))) P { m with fuel := x } := ⟨by rw [h.set, mcL_set_hi h.len 0]; rfl, h.len⟩
theorem McAt.setNext (h : McAt w P m) (x : Nat) : McAt (w.setCell ⟨P, 11, none⟩ (.int .i64 (x : Int))) P { m with next := x } := ⟨by rw [h.set, mcL_set_hi h.len 1]; rfl, h.len⟩
theorem McAt.setEnded (h : McAt w P m) (x : Bool) : McAt (w.setCell ⟨P, 12, none⟩ (.bool x)) P { m with ended := x } := ⟨by rw [h.set, mcL_set_hi h.len 2]; rfl, h.len⟩
theorem McAt.setCode (h : McAt w P m) (x : Nat) : McAt (w.setCell ⟨P, 13, none⟩ (.int .i64 (x : Int))) P { m with code := x } := ⟨by rw [h.set, mcL_set_hi h.len 3]; rfl, h.len⟩
theorem McAt.setText (h : McAt w P m) (i : Nat) (x : ByteArray) (hi : i < 8) : McAt (w.setCell ⟨P, 2 + i, none⟩ (.string x)) P { m with tx := m.tx.set i x } := ⟨by rw [h.set, mcL_set_lo i x (by rw [h.len]; exact hi)], by simp [h.len]⟩
end

/-- What a line burns that has so many bytes. -/
def burnM (m : Mc) (bytes : Nat) : Mc × Bool := if m.fuel < 1 + bytes / 16 then ({ m with fuel := 0, ended := true, code := 104 }, false) else ({ m with fuel := m.fuel - (1 + bytes / 16) }, true)

set_option maxHeartbeats 1000000 in
set_option maxRecDepth 100000 in
theorem burn_any (m : Mc) (P bytes : Nat) (w : World) (h : McAt w P m) (hb : bytes ≤ 1000000) (hf : m.fuel ≤ 1000000) :
    Calls Tryz.prog 111 #[.pointer (some ⟨P, 0, none⟩), .int .i64 (bytes : Int)] w fun e w' => e = .returned (.bool (burnM m bytes).2) ∧ McAt w' P (burnM m bytes).1 ∧ UpB P w w' := by
  have c10 := h.c10
  have f10 := h.frozen 10
  have f12 := h.frozen 12
  have f13 := h.frozen 13
  have c12 := h.c12
  have c13 := h.c13
  have H : Hid (McAt w P m) := h
  obtain ⟨q, hq⟩ : ∃ q : Nat, q = bytes / 16 := ⟨_, rfl⟩
  have e1 : ((bytes : Int)).tdiv 16 = (q : Int) := by rw [hq]; rfl
  obtain ⟨n, hn⟩ : ∃ n : Nat, n = 1 + q := ⟨_, rfl⟩
  have e2 : (1 : Int) + (q : Int) = (n : Int) := by omega
  have e3 : IntKind.i64.wrap (q : Int) = (q : Int) := by rw [IntKind.wrap_i64]; omega
  have e4 : IntKind.i64.wrap (n : Int) = (n : Int) := by rw [IntKind.wrap_i64]; omega
  unfold burnM
  rw [← hq, ← hn]
  by_cases hlt : m.fuel < n
  · rw [if_pos hlt]
    have hlti : (m.fuel : Int) < (n : Int) := by omega
    clear h hb hf hq hn hlt
    generalize (m.fuel : Int) = fu at *
    generalize (m.code : Int) = co at *
    generalize m.ended = en at *
    go_enter Tryz.func111, Tryz.ntmps111
    go_wp2
    go_ret
    exact ⟨rfl, ((H.out.setFuel 0).setEnded true).setCode 104, ((UpB.set P 10 w _).trans (UpB.set P 12 _ _)).trans (UpB.set P 13 _ _)⟩
  · rw [if_neg hlt]
    have hlti : ¬ (m.fuel : Int) < (n : Int) := by omega
    obtain ⟨r, hr⟩ : ∃ r : Nat, m.fuel - n = r := ⟨_, rfl⟩
    rw [hr]
    have e5 : (m.fuel : Int) - (n : Int) = (r : Int) := by omega
    have e6 : IntKind.i64.wrap (r : Int) = (r : Int) := by rw [IntKind.wrap_i64]; omega
    clear h hb hf hq hn hlt hr
    go_enter Tryz.func111, Tryz.ntmps111
    go_wp2
    go_ret
    exact ⟨rfl, H.out.setFuel r, UpB.set P 10 w _⟩

/-- It ends by a line, which does nothing else. -/
def endM (m : Mc) (c : Nat) : Mc := if (burnM m 0).2 = true then { (burnM m 0).1 with ended := true, code := c } else (burnM m 0).1

set_option maxHeartbeats 1000000 in
set_option maxRecDepth 100000 in
theorem end_any (m : Mc) (P c : Nat) (w : World) (h : McAt w P m) (hf : m.fuel ≤ 1000000) :
    Calls Tryz.prog 88 #[.pointer (some ⟨P, 0, none⟩), .int .i64 (c : Int)] w fun e w' => e = .returned (.tuple #[]) ∧ McAt w' P (endM m c) ∧ UpB P w w' := by
  have HB := burn_any m P 0 w h (by omega) hf
  unfold endM
  generalize burnM m 0 = bm at *
  obtain ⟨m1, b⟩ := bm
  have HB : Hid (Calls Tryz.prog 111 #[.pointer (some ⟨P, 0, none⟩), .int .i64 (0 : Int)] w fun e w' => e = .returned (.bool b) ∧ Hid (McAt w' P m1 ∧ UpB P w w')) := HB
  simp only
  clear h hf
  cases b with
  | false =>
    rw [if_neg (by simp)]
    go_enter Tryz.func88, Tryz.ntmps88
    go_wp2_with (first | (go_at_call 111; refine HB.out.mono ?_; rintro e w1 ⟨rfl, H1⟩) | go_in)
    go_end0
    exact ⟨rfl, H1.out.1, H1.out.2⟩
  | true =>
    rw [if_pos rfl]
    go_enter Tryz.func88, Tryz.ntmps88
    go_wp2_with (first | (go_at_call 111; refine HB.out.mono ?_; rintro e w1 ⟨rfl, H1⟩; have c12 := H1.out.1.c12; have f12 := H1.out.1.frozen 12; have c13 := H1.out.1.c13; have f13 := H1.out.1.frozen 13) | go_in)
    go_end0
    exact ⟨rfl, (H1.out.1.setEnded true).setCode c, (H1.out.2.trans (UpB.set P 12 _ _)).trans (UpB.set P 13 _ _)⟩

/-- A text is put. -/
def putM (m : Mc) (r : Nat) (t : ByteArray) : Mc := if 100000 < t.size then endM m 102 else if (burnM m t.size).2 = true then { (burnM m t.size).1 with tx := (burnM m t.size).1.tx.set r t } else (burnM m t.size).1

set_option maxHeartbeats 1000000 in
set_option maxRecDepth 100000 in
theorem put_any (m : Mc) (P r : Nat) (t : ByteArray) (w : World) (h : McAt w P m) (hf : m.fuel ≤ 1000000) (hr : r < 8) (ht : t.size ≤ 1000000) :
    Calls Tryz.prog 68 #[.pointer (some ⟨P, 0, none⟩), .int .i64 (r : Int), .string t] w fun e w' => e = .returned (.tuple #[]) ∧ McAt w' P (putM m r t) ∧ UpB P w w' := by
  have HT : Hid (∀ W, Calls Tryz.prog 33 #[.string t] W fun e w' => e = .returned (.bool (decide (100000 < t.size))) ∧ w' = W) := isTooLong_any t
  unfold putM
  by_cases hl : 100000 < t.size
  · rw [if_pos hl]
    rw [decide_eq_true hl] at HT
    have HE : Hid (Calls Tryz.prog 88 #[.pointer (some ⟨P, 0, none⟩), .int .i64 (102 : Int)] w fun e w' => e = .returned (.tuple #[]) ∧ Hid (McAt w' P (endM m 102) ∧ UpB P w w')) := end_any m P 102 w h hf
    clear h hf ht hl
    go_enter Tryz.func68, Tryz.ntmps68
    go_wp2_with (first
      | (go_at_call 33; refine (HT.out _).mono ?_; rintro e w1 ⟨rfl, hw⟩; subst w1)
      | (go_at_call 88; refine HE.out.mono ?_; rintro e w1 ⟨rfl, H1⟩)
      | go_in)
    refine bodyPost_ret (v := .tuple #[]) (by simp [results, Tryz.results68]) rfl ?_
    exact ⟨rfl, H1.out⟩
  · rw [if_neg hl]
    rw [decide_eq_false hl] at HT
    have HB := burn_any m P t.size w h ht hf
    have hsz9 : (t.size : Int) ≤ 9223372036854775807 := by omega
    generalize burnM m t.size = bm at *
    obtain ⟨m1, b⟩ := bm
    have HB : Hid (Calls Tryz.prog 111 #[.pointer (some ⟨P, 0, none⟩), .int .i64 (t.size : Int)] w fun e w' => e = .returned (.bool b) ∧ Hid (McAt w' P m1 ∧ UpB P w w')) := HB
    simp only
    clear h hf ht hl
    cases b with
    | false =>
      rw [if_neg (by simp)]
      go_enter Tryz.func68, Tryz.ntmps68
      go_wp2_with (first
        | (go_at_call 33; refine (HT.out _).mono ?_; rintro e w1 ⟨rfl, hw⟩; subst w1)
        | (go_at_call 111; refine HB.out.mono ?_; rintro e w1 ⟨rfl, H1⟩)
        | go_in)
      go_end0
      exact ⟨rfl, H1.out⟩
    | true =>
      rw [if_pos rfl]
      have hri : (r : Int) < 8 := by omega
      go_enter Tryz.func68, Tryz.ntmps68
      go_wp2_with (first
        | (go_at_call 33; refine (HT.out _).mono ?_; rintro e w1 ⟨rfl, hw⟩; subst w1)
        | (go_at_call 111; refine HB.out.mono ?_; rintro e w1 ⟨rfl, H1⟩; have cr : w1.cell? ⟨P, 2 + r, none⟩ = some (.string (m1.tx[r]'(by rw [H1.out.1.len]; exact hr))) := (H1.out.1.cell (2 + r)).trans (mcL_lo r _ (List.getElem?_eq_getElem _)); have fr := H1.out.1.frozen (2 + r))
        | go_in)
      go_end0
      exact ⟨rfl, H1.out.1.setText r t hr, H1.out.2.trans (UpB.set P (2 + r) _ _)⟩

/-- It goes elsewhere. -/
def goM (m : Mc) (b : Bool) (n : Nat) : Mc := if ((burnM m 0).2 && b) = true then { (burnM m 0).1 with next := n } else (burnM m 0).1

set_option maxHeartbeats 1000000 in
set_option maxRecDepth 100000 in
theorem goIf_any (m : Mc) (P : Nat) (hb : Bool) (n : Nat) (w : World) (h : McAt w P m) (hf : m.fuel ≤ 1000000) :
    Calls Tryz.prog 84 #[.pointer (some ⟨P, 0, none⟩), .bool hb, .int .i64 (n : Int)] w fun e w' => e = .returned (.tuple #[]) ∧ McAt w' P (goM m hb n) ∧ UpB P w w' := by
  have HB := burn_any m P 0 w h (by omega) hf
  unfold goM
  generalize burnM m 0 = bm at *
  obtain ⟨m1, b⟩ := bm
  have HB : Hid (Calls Tryz.prog 111 #[.pointer (some ⟨P, 0, none⟩), .int .i64 (0 : Int)] w fun e w' => e = .returned (.bool b) ∧ Hid (McAt w' P m1 ∧ UpB P w w')) := HB
  simp only
  clear h hf
  cases b with
  | false =>
    rw [if_neg (by simp)]
    go_enter Tryz.func84, Tryz.ntmps84
    go_wp2_with (first | (go_at_call 111; refine HB.out.mono ?_; rintro e w1 ⟨rfl, H1⟩) | go_in)
    go_end0
    exact ⟨rfl, H1.out⟩
  | true =>
    cases hb with
    | false =>
      rw [if_neg (by simp)]
      go_enter Tryz.func84, Tryz.ntmps84
      go_wp2_with (first | (go_at_call 111; refine HB.out.mono ?_; rintro e w1 ⟨rfl, H1⟩) | go_in)
      go_end0
      exact ⟨rfl, H1.out⟩
    | true =>
      rw [if_pos (by simp)]
      go_enter Tryz.func84, Tryz.ntmps84
      go_wp2_with (first | (go_at_call 111; refine HB.out.mono ?_; rintro e w1 ⟨rfl, H1⟩; have c11 := H1.out.1.c11; have f11 := H1.out.1.frozen 11) | go_in)
      go_end0
      exact ⟨rfl, H1.out.1.setNext n, H1.out.2.trans (UpB.set P 11 _ _)⟩
end Go.Proofs.YtapiedeekbfpnaaGreatDoor

/- What each line does is laid into a map. -/
namespace Go.Proofs.YtapiedeekbfpnaaGreatDoor
open Go.RowKit Go.Shelf Go.Maps Go.WideMaps

/-- How a deed reads: by its function's number. -/
def fnE (bx : Nat) (v : Value) : Option (DataW Unit × List MemPlace) := match v with
  | .func (.func n) a c => match a.toList, c.toList with
    | [], [.pointer (some ⟨b, 0, none⟩)] => if b = bx then some (.lit (.int .i64 ((4 * n + 0 : Nat) : Int)), []) else none
    | _, _ => none
  | .nilFunc => some (.lit (.int .i64 (-1)), [])
  | _ => none
theorem fnE_mk (bx n : Nat) : fnE bx (.func (.func n) #[] #[.pointer (some ⟨bx, 0, none⟩)]) = some (.lit (.int .i64 ((4 * n + 0 : Nat) : Int)), []) := by
  show (if bx = bx then _ else _) = _
  rw [if_pos rfl]
theorem fnE_inv {bx : Nat} {v : Value} {n : Nat} {ps : List MemPlace} (h : fnE bx v = some (.lit (.int .i64 ((4 * n + 0 : Nat) : Int)), ps)) : v = .func (.func n) #[] #[.pointer (some ⟨bx, 0, none⟩)] := by
  unfold fnE at h
  split at h
  · split at h
    · split at h
      · rename_i n2 a c x1 x2 b ha hc hb
        injection h with h
        injection h with h _
        injection h with h
        injection h with _ h
        have h4 : 4 * (n2 : Nat) + 0 = 4 * n + 0 := Int.ofNat.inj h
        have hn2 : (n2 : Nat) = n := Nat.eq_of_mul_eq_mul_left (by decide : 0 < 4) h4
        have e1 : a = #[] := Array.toList_inj.1 ha
        have e2 : c = #[.pointer (some ⟨bx, 0, none⟩)] := Array.toList_inj.1 (by rw [← hb]; exact hc)
        rw [e1, e2, hn2]
      · cases h
    · cases h
  · injection h with h
    injection h with h _
    injection h with h
    injection h with _ h
    omega
  · cases h
theorem zeroD (w : World) : (zeroValue 72).run Tryz.prog w = .ok .nilFunc w := by kernel_rfl

def dedK : List (List UInt8 × List Nat) := frmL.map fun f => (f.1, [])
def dedN : List Nat := [67, 69, 71, 73, 74, 76, 78, 80, 82, 83, 85, 86, 87]
/-- The deeds, while they are laid: so many of them are there. -/
structure DdI (B M bx P : Nat) (w0 : World) (k : Nat) (w : World) : Prop where
  own : w.ownsMap Tryz.prog 9 (fnE bx) M k (dF dedK (dedN.take k) (.map []))
  env : w.cell? ⟨bx, 0, none⟩ = some (.pointer (some ⟨P, 0, none⟩))
  lo : B ≤ bx ∧ bx < M
  lt : M < w.heap.size
  bel : Below B w0 w
theorem DdI.step {B M bx P : Nat} {w0 w w1 : World} {k n : Nat} {f : List UInt8 × List Nat} (h : DdI B M bx P w0 k w) (hk : k < 13) (hf : dedK[k]? = some f) (hn : dedN[k]? = some n)
    (hown : w1.ownsMap Tryz.prog 9 (fnE bx) M (k + 1) ((dF dedK (dedN.take k) (.map [])).put (.string f.1) (.lit (.int .i64 ((4 * n + 0 : Nat) : Int)))))
    (hg : w.grownBy w1 (some M)) : DdI B M bx P w0 (k + 1) w1 := by
  have hlo := h.lo
  have hlen : (dedN.take k).length = k := by rw [List.length_take]; show min k 13 = k; omega
  have hf2 : f.2 = [] := by
    have := List.mem_of_getElem? hf
    obtain ⟨g, _, rfl⟩ := List.mem_map.1 this
    rfl
  refine ⟨?_, ?_, h.lo, Nat.lt_of_lt_of_le h.lt hg.size, ?_⟩
  · have e := dF_snoc dedK (dedN.take k) (.map []) n f (by rw [hlen]; exact hf)
    rw [List.take_add_one, hn]
    show w1.ownsMap _ _ _ _ _ (dF dedK (dedN.take k ++ [n]) (.map []))
    rw [e, hf2]
    exact hown
  · have hlt : bx < w.heap.size := World.block_lt_of_cell? w ⟨bx, 0, none⟩ h.env
    have := hg.block bx hlt (fun e => by have := Option.some.inj e; omega)
    have h2 := h.env
    unfold World.cell? at h2 ⊢
    simp only at h2 ⊢
    rw [this]
    exact h2
  · exact h.bel.grown hg (by have := h.lt; omega) (fun j hj => by cases hj; omega)

theorem upon_deed {B M bx P : Nat} {w0 w : World} {k n : Nat} {f : List UInt8 × List Nat} {ky : ByteArray} {β : Type} {R : Result β → Prop} {c : Unit → World → Result β}
    (h : DdI B M bx P w0 k w) (hk : k < 13) (hf : dedK[k]? = some f) (hn : dedN[k]? = some n) (hky : ky = bA f.1) (hl : f.1.length ≤ 4)
    (hK : ∀ w', DdI B M bx P w0 (k + 1) w' → R (c () w')) :
    R (((Instr.mapUpdate 70 (.map (some M)) (.string ky) (.func (.func n) #[] #[.pointer (some ⟨bx, 0, none⟩)])).run Tryz.prog w).andThen c) := by
  subst hky
  have hkey : keyOf Tryz.prog 9 (.string (bA f.1)) = some (.string f.1) := by
    have := keyOf_string_mk (s := bA f.1) Tryz.underlying9 (by unfold maxLen; rw [show (bA f.1).size = f.1.length from size_of rfl]; omega)
    rw [this]
    unfold bA
    simp
  obtain ⟨w', hrun, r1, r2⟩ := h.own.update lawSb Tryz.underlying70 (by unfold maxLen; omega) hkey (fnE_mk bx n)
  rw [hrun]
  exact hK w' (h.step hk hf hn r1 r2)

theorem DdI.first (P : Nat) (w : World) : DdI w.heap.size (w.heap.size + 1) w.heap.size P w 0 ((w.alloc (.cells #[.pointer (some ⟨P, 0, none⟩)] 45)).alloc (.map #[] 0)) := by
  have hsz : (w.alloc (.cells #[.pointer (some ⟨P, 0, none⟩)] 45)).heap.size = w.heap.size + 1 := World.size_alloc _ _
  refine ⟨?_, ?_, ⟨by omega, by omega⟩, by rw [World.size_alloc, hsz]; omega, ((Below.refl _ w).alloc (Nat.le_refl _) _).alloc (by rw [hsz]; omega) _⟩
  · have := World.ownsMap_made (H := Unit) (w.alloc (.cells #[.pointer (some ⟨P, 0, none⟩)] 45)) Tryz.prog 9 (fnE w.heap.size)
    rw [hsz] at this
    exact this
  · rw [World.cell?_alloc_old _ _ _ (by simp only; omega), Lib.cell_of_heap (heap_alloc_new w _)]
    rfl

set_option maxHeartbeats 4000000 in
set_option maxRecDepth 100000 in
theorem newDeeds_any (P : Nat) (w : World) :
    Calls Tryz.prog 36 #[.pointer (some ⟨P, 0, none⟩)] w fun e w' => ∃ M bx, e = .returned (.map (some M)) ∧ DdI w.heap.size M bx P w 13 w' := by
  have hmm := @run_makeMap Tryz.prog
  have HF : Hid (DdI w.heap.size (w.heap.size + 1) w.heap.size P w 0 ((w.alloc (.cells #[.pointer (some ⟨P, 0, none⟩)] 45)).alloc (.map #[] 0))) := DdI.first P w
  go_enter Tryz.func36, Tryz.ntmps36
  go_wp2
  iterate 13
    refine upon_deed (R := Oper.upon _ _ _ _ _) HF.out (by decide) (by rfl) (by rfl) (by rfl) (by decide) ?_
    intro w1 hf1
    clear HF
    have HF : Hid _ := hf1
    clear hf1
    go_wp2
  go_ret
  exact ⟨_, _, rfl, HF.out⟩

theorem DdI.keep {B M bx P k : Nat} {w0 w w' : World} (h : DdI B M bx P w0 k w) (hb : w'.heap[M]? = w.heap[M]?) (hx : w'.heap[bx]? = w.heap[bx]?) (hs : w.heap.size ≤ w'.heap.size) (hbel : Below B w0 w') : DdI B M bx P w0 k w' := by
  refine ⟨omapS h.own hb, ?_, h.lo, Nat.lt_of_lt_of_le h.lt hs, hbel⟩
  have h2 := h.env
  unfold World.cell? at h2 ⊢
  simp only at h2 ⊢
  rw [hx]
  exact h2
theorem ded_look {x : List UInt8} {f : List Nat} (h : frmF x = some f) : dedK.lookup x = some [] := by
  have : ∀ (L : List (List UInt8 × List Nat)), L.lookup x = some f → (L.map fun f => (f.1, ([] : List Nat))).lookup x = some [] := by
    intro L
    induction L with
    | nil => intro h; cases h
    | cons a L ih =>
      intro h
      obtain ⟨a1, a2⟩ := a
      rw [List.lookup_cons] at h
      rw [List.map_cons, List.lookup_cons]
      simp only
      split at h
      · rfl
      · exact ih h
  exact this frmL h
theorem look_deed {B M bx P : Nat} {w0 w : World} (h : DdI B M bx P w0 13 w) (s : ByteArray) (hs : s.size ≤ maxLen) {f : List Nat} (hf : frmF s.data.toList = some f) :
    ∃ (j n : Nat), dedK[j]? = some (s.data.toList, []) ∧ dedN[j]? = some n ∧ ∀ W : World, W.heap[M]? = w.heap[M]? → (Instr.lookup 70 (.map (some M)) (.string s) false).run Tryz.prog W = .ok (.func (.func n) #[] #[.pointer (some ⟨bx, 0, none⟩)]) W := by
  have hnd : (dedK.map (·.1)).Nodup := by decide
  obtain ⟨j, n, k1, k2, k3, _⟩ := (dF_at s.data.toList (.lit (.int .i64 (-1))) dedK dedN (.map []) tidy_empty rfl hnd).2 [] (ded_look hf)
  refine ⟨j, n, k1, k2, fun W hW => ?_⟩
  obtain ⟨v, ps, hr, hv⟩ := (omapS h.own hW).lookup lawSb Tryz.underlying70 (zeroD W) (zd := .lit (.int .i64 (-1))) (zp := []) rfl (keyOf_string_mk Tryz.underlying9 hs)
  rw [show dedN.take 13 = dedN from rfl, k3] at hv
  rw [fnE_inv hv] at hr
  exact hr
end Go.Proofs.YtapiedeekbfpnaaGreatDoor

/- The files that a machine made. -/
namespace Go.Proofs.YtapiedeekbfpnaaGreatDoor
open Go.RowKit Go.Shelf Go.Maps Go.WideMaps Go.Sort

theorem nodup_of {L : List Fl} (h : (L.map pth).Nodup) : L.Nodup := (List.pairwise_map.1 h).imp fun h e => h (by rw [e])
theorem allF_byD {L F : List Fl} (hn : (L.map pth).Nodup) (h : AllF (byD L) F) : F.Perm L := by
  obtain ⟨ks, hl, hnd, hks, hat⟩ := h
  have hp : ∀ (j : Nat) (h2 : j < F.length), F[j] ∈ L ∧ pth F[j] = ks[j]'(by omega) := fun j h2 => by
    have h1 : j < ks.length := by omega
    have h3 := (hks _).1 (List.getElem_mem h1)
    rw [has_byD, List.any_eq_true] at h3
    obtain ⟨f, hf, e⟩ := h3
    have e : pth f = ks[j] := by simpa using e
    have h4 := hat j h1 h2 (.lit (.int .i64 0))
    rw [← e, at_byD hn hf] at h4
    have e2 := fD_inj h4
    rw [← e2]
    exact ⟨hf, e⟩
  have hFk : F.map pth = ks := by
    apply List.ext_getElem
    · rw [List.length_map]; omega
    · intro j h1 h2
      rw [List.getElem_map]
      exact (hp j (by simpa using h1)).2
  have n1 : F.Nodup := nodup_of (by rw [hFk]; exact hnd)
  have n2 : L.Nodup := nodup_of hn
  refine (List.perm_ext_iff_of_nodup n1 n2).2 fun x => ⟨fun hx => ?_, fun hx => ?_⟩
  · obtain ⟨j, hj, rfl⟩ := List.getElem_of_mem hx
    exact (hp j hj).1
  · have h3 : pth x ∈ ks := (hks _).2 (by rw [has_byD, List.any_eq_true]; exact ⟨x, hx, by simp⟩)
    rw [← hFk] at h3
    obtain ⟨y, hy, e⟩ := List.mem_map.1 h3
    obtain ⟨j, hj, rfl⟩ := List.getElem_of_mem hy
    have hyL := (hp j hj).1
    have e2 : F[j] = x := by
      have h5 := at_byD hn hyL (.lit (.int .i64 0))
      have h6 := at_byD hn hx (.lit (.int .i64 0))
      rw [e] at h5
      exact fD_inj (h5.symm.trans h6)
    rw [← e2]
    exact hy
theorem McAt.c1 {w : World} {P : Nat} {m : Mc} (h : McAt w P m) : w.cell? ⟨P, 1, none⟩ = some (.map (some m.mp)) := h.cell 1

set_option maxHeartbeats 2000000 in
set_option maxRecDepth 100000 in
theorem madeFiles_any (m : Mc) (P n : Nat) (L : List Fl) (w : World) (h : McAt w P m) (ho : w.ownsMap Tryz.prog 9 fileE m.mp n (byD L)) (hn : n ≤ 1000000) (hL : L.Pairwise fun f g => pth f < pth g) (hl : L.length ≤ 1000000) :
    Calls Tryz.prog 22 #[.pointer (some ⟨P, 0, none⟩)] w fun e w' => ∃ v, e = .returned v ∧ w'.ownsRow w.heap.size 35 3 v L.length (flCells L) ∧ Below w.heap.size w w' := by
  have c1 := h.c1
  have hnd : (L.map pth).Nodup := List.pairwise_map.2 (hL.imp fun hh e => by rw [e] at hh; exact List.lt_irrefl _ hh)
  have HO : Hid (w.ownsMap Tryz.prog 9 fileE m.mp n (byD L)) := ho
  have HV : Hid (Calls Tryz.prog 38 #[.map (some m.mp)] w fun e w' => e = .returned (.func (.func 91) #[] #[.pointer (some ⟨w.heap.size, 0, none⟩)]) ∧ w' = w.alloc (.cells #[.map (some m.mp)] 49)) := Values_any (some m.mp) w
  have HP : Hid (L.Pairwise (fun f g => pth f < pth g) ∧ L.length ≤ 1000000 ∧ n ≤ 1000000 ∧ ∀ F, AllF (byD L) F → F.Perm L) := ⟨hL, hl, hn, fun F hF => allF_byD hnd hF⟩
  clear h ho hL hl hnd hn
  generalize m.mp = mp at *
  go_enter Tryz.func22, Tryz.ntmps22
  go_wp2_with fail
  refine HV.out.mono ?_
  rintro e w3 ⟨rfl, hw3⟩
  have hb3 : Below w.heap.size w w3 := by rw [hw3]; exact (Below.refl _ w).alloc (Nat.le_refl _) _
  have hsz3 : w3.heap.size = w.heap.size + 1 := by rw [hw3]; exact World.size_alloc _ _
  have hD3 : w3.ownsMap Tryz.prog 9 fileE mp n (byD L) := ownsMap_heap HO.out (hb3.block _ HO.out.lt)
  have hc3 : w3.cell? ⟨w.heap.size, 0, none⟩ = some (.map (some mp)) := by rw [hw3]; exact Lib.cell_of_heap (heap_alloc_new w _) 0
  have HS : Hid (Calls Tryz.prog 37 #[.func (.func 91) #[] #[.pointer (some ⟨w.heap.size, 0, none⟩)], .func (.func 39) #[] #[]] w3 fun e w' => ∃ v, e = .returned v ∧ w'.ownsRow w3.heap.size 35 3 v L.length (flCells L) ∧ Below w3.heap.size w3 w') :=
    SortedF 91 #[.pointer (some ⟨w.heap.size, 0, none⟩)] (enters_of Tryz.func91 (by kernel_rfl) rfl) (byD L) (Maps.size (byD L)) (Nat.le_trans hD3.size_le (by have := HP.out.2.2.1; omega)) L HP.out.1 HP.out.2.1 HP.out.2.2.2 w3
      (values1 Fence.wide 3 trivial rfl (by decide) w.heap.size mp n (byD L) w3 (by omega) hc3 hD3)
  have HB3 : Hid (Below w.heap.size w w3) := hb3
  clear hb3 hsz3 hD3 hc3 hw3 HV HO HP
  go_wp2_with fail
  refine HS.out.mono ?_
  rintro e w4 ⟨v, rfl, hr4, hb4⟩
  have HE : Hid (w4.ownsRow w.heap.size 35 3 v L.length (flCells L) ∧ Below w.heap.size w w4) := ⟨row_low hr4 HB3.out.size, below_low HB3.out hb4 HB3.out.size⟩
  clear hr4 hb4 HS
  go_wp2
  go_ret
  exact ⟨v, rfl, HE.out⟩

/-- May a file be made there? -/
def mayF (L : List Fl) (s : ByteArray) : Bool := L.any (fun f => decide (pth f = s.data.toList)) || (!decide (L.length = 60) && !L.any fun f => meetB s f.pa)
theorem bA_pth (f : Fl) : bA (pth f) = f.pa := bA_data f.pa

set_option maxHeartbeats 4000000 in
set_option maxRecDepth 100000 in
theorem mayMake_any (m : Mc) (P n : Nat) (L : List Fl) (s : ByteArray) (w : World) (h : McAt w P m) (ho : w.ownsMap Tryz.prog 9 fileE m.mp n (byD L)) (hn : (L.map pth).Nodup) (hs : s.size ≤ maxLen) :
    Calls Tryz.prog 123 #[.pointer (some ⟨P, 0, none⟩), .string s] w fun e w' => e = .returned (.bool (mayF L s)) ∧ Below w.heap.size w w' := by
  have c1 := h.c1
  obtain ⟨f0, _, hlk⟩ := lookF ho s hs
  have hlk1 := hlk w rfl
  rw [has_byD] at hlk1
  unfold encF at hlk1
  obtain ⟨W, hW⟩ : ∃ W, W = w.alloc (.cells #[.string f0.pa, .string f0.tx, .bool f0.rn] 35) := ⟨_, rfl⟩
  have hbW : Below w.heap.size w W := by rw [hW]; exact (Below.refl _ w).alloc (Nat.le_refl _) _
  have c1W : W.cell? ⟨P, 1, none⟩ = some (.map (some m.mp)) := (hbW.cell (p := ⟨P, 1, none⟩) h.lt).trans c1
  have hoW : W.ownsMap Tryz.prog 9 fileE m.mp n (byD L) := ownsMap_heap ho (hbW.block _ ho.lt)
  have hlen := hoW.len Tryz.underlying49 3
  rw [(size_byD L).2.2 hn] at hlen
  have HBW : Hid (Below w.heap.size w W) := hbW
  have HMP : Hid (m.mp < w.heap.size) := ho.lt
  have HOW : Hid (W.ownsMap Tryz.prog 9 fileE m.mp n (byD L)) := hoW
  have HM : Hid (∀ (x : ByteArray) (V : World), Calls Tryz.prog 140 #[.string s, .string x] V fun e w' => e = .returned (.bool (meetB s x)) ∧ w' = V) := fun x V => Meets_any s x V
  clear h ho hlk hn hbW hoW
  generalize m.mp = mp at *
  unfold mayF
  cases hh : L.any (fun f => decide (pth f = s.data.toList)) with
  | true =>
    rw [hh] at hlk1
    rw [Bool.true_or]
    rw [hW] at HBW
    clear hh c1W hlen HOW hW
    go_enter Tryz.func123, Tryz.ntmps123
    go_wp2
    go_ret
    exact ⟨rfl, HBW.out⟩
  | false =>
    rw [hh] at hlk1
    rw [Bool.false_or]
    rw [hW] at HBW HOW c1W hlen
    clear hh
    by_cases h60 : L.length = 60
    · rw [decide_eq_true h60]
      rw [h60] at hlen
      clear h60 hW
      go_enter Tryz.func123, Tryz.ntmps123
      go_wp2
      go_ret
      exact ⟨rfl, HBW.out⟩
    · rw [decide_eq_false h60]
      have h60i : ((L.length : Int) == 60) = false := by simp; omega
      obtain ⟨b, hb⟩ : ∃ b, L.any (fun f => meetB s f.pa) = b := ⟨_, rfl⟩
      have HB : Hid (L.any (fun f => meetB s f.pa) = b) := hb
      rw [hb]
      obtain ⟨n2, hn2⟩ : ∃ n2, L.length = n2 := ⟨_, rfl⟩
      rw [hn2] at hlen h60i
      clear h60 hb hn2
      go_enter Tryz.func123, Tryz.ntmps123
      go_wp2_with (first
        | (at_range; refine wpList_range_own _ rfl _ 49 rfl 9 35 lawS Tryz.underlying49 fileE mp n _ rfl HOW.out ?_; intro w0 hrg0 hg0 hs0)
        | go_in)
      go_frame
      rw [← hW] at hrg0 hg0 HBW ⊢
      have hsz : W.heap.size = w.heap.size + 1 := by rw [hW]; exact World.size_alloc _ _
      rw [hsz]
      have H0 : Hid (w0.ranges Tryz.prog 9 fileE mp (w.heap.size + 1) n (byD L) (Maps.has (byD L)) (Maps.size (byD L)) ∧ Below w.heap.size w w0 ∧ w.heap.size + 1 ≤ w0.heap.size) := ⟨by rw [← hsz]; exact hrg0, below_low HBW.out (⟨hg0.os, hg0.tape, hg0.output, hg0.size, fun g hg => hg0.block g hg (by simp)⟩ : Below W.heap.size W w0) HBW.out.size, by rw [← hsz]; exact hg0.size⟩
      clear hrg0 hg0 hs0 hlen c1W HOW hsz hW
      go_loopw [7] (fun _ wr => ∃ (left : Lit → Bool) (cnt : Nat), Hid (wr.ranges Tryz.prog 9 fileE mp (w.heap.size + 1) n (byD L) left cnt ∧ (Below w.heap.size w wr ∧ w.heap.size + 1 ≤ wr.heap.size) ∧ ∀ f ∈ L, left (.string (pth f)) = false → meetB s f.pa = false)) (fun _ wr => wr.rangeLeft mp (w.heap.size + 1))
      case atStart =>
        refine ⟨_, _, H0.out.1, H0.out.2, fun f hf hl => ?_⟩
        rw [has_byD, List.any_eq_false] at hl
        exact absurd (decide_eq_true rfl) (hl f hf)
      case round =>
        obtain ⟨left, cnt, HI⟩ := hrel
        have hrg := HI.out.1
        go_wp2_with (first
          | (at_next; refine wpList_next_ranges _ rfl _ rfl 9 lawS fileE encStr encF invKF invVF mp (w.heap.size + 1) n _ _ _ rfl hrg ?_ ?_)
          | go_in)
        · intro hc0 hl0
          have HBF : Hid (b = false) := by
            show b = false
            rw [← HB.out, List.any_eq_false]
            intro f hf
            rw [HI.out.2.2 f hf (by rw [hl0])]
            simp
          obtain rfl := HBF.out
          clear hc0 hl0 hrg
          go_wp2
          go_ret
          exact ⟨rfl, HI.out.2.1.1⟩
        · intro x f kl yd yp w1 cnt1 hkey hlx hv hat hrg1 hlt hg1 hs1 hen
          obtain ⟨x', ex, rfl, _⟩ := Maps.keyOf_str Tryz.underlying9 hkey
          obtain rfl : x = x' := encStr_inj ex
          have hex : ∃ g ∈ L, pth g = x := by
            refine Classical.byContradiction fun hne => ?_
            have h1 : ∀ g ∈ L, pth g ≠ x := fun g hg e => hne ⟨g, hg, e⟩
            have h2 := hat (.lit (.int .i64 0))
            have h3 := hat (.lit (.int .i64 1))
            rw [atNo_byD h1] at h2 h3
            rw [← h2] at h3
            injection h3 with h3
            injection h3 with _ h3
            cases h3
          obtain ⟨g, hgL, hgx⟩ := hex
          have hM := HM.out (bA x)
          have hxg : bA x = g.pa := by rw [← hgx]; exact bA_pth g
          have HR1 : Hid (w1.ranges Tryz.prog 9 fileE mp (w.heap.size + 1) n (byD L) (fun z => left z && !z.sameKey (.string x)) cnt1 ∧ cnt1 < cnt ∧ Below w.heap.size w w1 ∧ w.heap.size + 1 ≤ w1.heap.size) := ⟨hrg1, hlt, HI.out.2.1.1.grown hg1 (by have := HI.out.2.1.2; omega) (fun j hj => by have := Option.some.inj hj; omega), by rw [hs1]; exact HI.out.2.1.2⟩
          cases hmb : meetB s (bA x) with
          | true =>
            have HBT : Hid (b = true) := by
              show b = true
              rw [← HB.out, List.any_eq_true]
              exact ⟨g, hgL, by rw [← hxg]; exact hmb⟩
            obtain rfl := HBT.out
            rw [hmb] at hM
            have HM2 : Hid (∀ V, Calls Tryz.prog 140 #[.string s, encStr x] V fun e w' => e = .returned (.bool true) ∧ w' = V) := hM
            clear hM hmb hxg hrg hrg1 hg1 hs1 hlx hat hv hlt
            go_wp2_with (first | (go_at_call 140; refine (HM2.out _).mono ?_; rintro e w5 ⟨rfl, hw⟩; subst w5) | go_in)
            go_ret
            exact ⟨rfl, HR1.out.2.2.1⟩
          | false =>
            rw [hmb] at hM
            have HM2 : Hid (∀ V, Calls Tryz.prog 140 #[.string s, encStr x] V fun e w' => e = .returned (.bool false) ∧ w' = V) := hM
            have HL : Hid (∀ f ∈ L, (left (.string (pth f)) && !(Lit.string (pth f)).sameKey (.string x)) = false → meetB s f.pa = false) := by
              intro f hf hl
              by_cases e : pth f = x
              · rw [← bA_pth f, e]
                exact hmb
              · refine HI.out.2.2 f hf ?_
                have hsk : (Lit.string (pth f)).sameKey (.string x) = false := by
                  cases hq : (Lit.string (pth f)).sameKey (.string x) with
                  | false => rfl
                  | true => exact absurd (by injection (WideAt.sameKey_eq hq)) e
                rw [hsk] at hl
                simpa using hl
            clear hM hmb hxg hrg hrg1 hg1 hs1 hlx hat hv hlt
            go_wp2_with (first | (go_at_call 140; refine (HM2.out _).mono ?_; rintro e w5 ⟨rfl, hw⟩; subst w5) | go_in)
            refine ⟨⟨_, cnt1, HR1.out.1, HR1.out.2.2, HL.out⟩, ?_⟩
            rw [HR1.out.1.left_eq, HI.out.1.left_eq]
            exact HR1.out.2.1
end Go.Proofs.YtapiedeekbfpnaaGreatDoor

/- A machine makes a file. -/
namespace Go.Proofs.YtapiedeekbfpnaaGreatDoor
open Go.RowKit Go.Shelf Go.Maps Go.WideMaps Go.Sort

theorem UpB.keep {P g : Nat} {w w' : World} (h : UpB P w w') (hg : g < w.heap.size) (hn : g ≠ P) : w'.heap[g]? = w.heap[g]? := h.block g hg hn
theorem burnM_mp (m : Mc) (b : Nat) : (burnM m b).1.mp = m.mp := by unfold burnM; split <;> rfl
theorem endM_mp (m : Mc) (c : Nat) : (endM m c).mp = m.mp := by
  unfold endM
  split
  · exact burnM_mp m 0
  · exact burnM_mp m 0
/-- Two blocks may turn, and what is new. -/
structure UpC (P M : Nat) (w w' : World) : Prop where
  os : w'.os = w.os
  tape : w'.tape = w.tape
  output : w'.output = w.output
  size : w.heap.size ≤ w'.heap.size
  block : ∀ g : Nat, g < w.heap.size → g ≠ P → g ≠ M → w'.heap[g]? = w.heap[g]?
theorem UpC.of {P M : Nat} {w w' : World} (h : UpB P w w') : UpC P M w w' := ⟨h.os, h.tape, h.output, h.size, fun g hg hn _ => h.block g hg hn⟩
theorem UpC.trans {P M : Nat} {a b c : World} (h : UpC P M a b) (k : UpC P M b c) : UpC P M a c :=
  ⟨k.os.trans h.os, k.tape.trans h.tape, k.output.trans h.output, Nat.le_trans h.size k.size, fun g hg hn hm => (k.block g (Nat.lt_of_lt_of_le hg h.size) hn hm).trans (h.block g hg hn hm)⟩
/-- A file is made. -/
def mkM (m : Mc) (L : List Fl) (f : Fl) : Mc := if mayF L f.pa = true then (burnM m f.tx.size).1 else endM m 103
def mkD (m : Mc) (L : List Fl) (f : Fl) (D : DataW Unit) : DataW Unit := if mayF L f.pa = true ∧ (burnM m f.tx.size).2 = true then D.put (.string (pth f)) (fD f) else D
theorem mkM_mp (m : Mc) (L : List Fl) (f : Fl) : (mkM m L f).mp = m.mp := by
  unfold mkM
  split
  · exact burnM_mp m _
  · exact endM_mp m _

set_option maxHeartbeats 4000000 in
set_option maxRecDepth 100000 in
theorem makeFile_any (m : Mc) (P n : Nat) (L : List Fl) (f : Fl) (w : World) (h : McAt w P m) (ho : w.ownsMap Tryz.prog 9 fileE m.mp n (byD L)) (hn : (L.map pth).Nodup) (hnn : n ≤ 1000000) (hne : m.mp ≠ P) (hs : f.pa.size ≤ 1000000) (ht : f.tx.size ≤ 1000000) (hf : m.fuel ≤ 1000000) :
    Calls Tryz.prog 81 #[.pointer (some ⟨P, 0, none⟩), encF f] w fun e w' => e = .returned (.tuple #[]) ∧ McAt w' P (mkM m L f) ∧ (∃ n', n' ≤ n + 1 ∧ w'.ownsMap Tryz.prog 9 fileE m.mp n' (mkD m L f (byD L))) ∧ UpC P m.mp w w' := by
  obtain ⟨W, hW⟩ : ∃ W, W = w.alloc (.cells #[.string f.pa, .string f.tx, .bool f.rn] 35) := ⟨_, rfl⟩
  have hbW : Below w.heap.size w W := by rw [hW]; exact (Below.refl _ w).alloc (Nat.le_refl _) _
  have hF : W.heap[w.heap.size]? = some (.cells #[.string f.pa, .string f.tx, .bool f.rn] 35 (0, 0)) := by rw [hW]; exact heap_alloc_new w _
  have hsz : W.heap.size = w.heap.size + 1 := by rw [hW]; exact World.size_alloc _ _
  have hmc := h.below hbW
  have hoW : W.ownsMap Tryz.prog 9 fileE m.mp n (byD L) := ownsMap_heap ho (hbW.block _ ho.lt)
  have hMay := mayMake_any m P n L f.pa W hmc hoW hn (by unfold maxLen; omega)
  have hPl := h.lt
  have hMl := ho.lt
  unfold mkM mkD
  cases hm : mayF L f.pa with
  | false =>
    rw [hm] at hMay
    have HM : Hid (Calls Tryz.prog 123 #[.pointer (some ⟨P, 0, none⟩), .string f.pa] W fun e w' => e = .returned (.bool false) ∧ Hid (Below W.heap.size W w')) := hMay
    rw [if_neg (by simp), if_neg (by simp)]
    have HE : Hid (∀ V, Hid (Below W.heap.size W V) → Calls Tryz.prog 88 #[.pointer (some ⟨P, 0, none⟩), .int .i64 (103 : Int)] V fun e w' => e = .returned (.tuple #[]) ∧ Hid (McAt w' P (endM m 103) ∧ w'.ownsMap Tryz.prog 9 fileE m.mp n (byD L) ∧ UpC P m.mp w w')) := by
      intro V hV
      have h1 := hmc.below hV.out
      refine (end_any m P 103 V h1 hf).mono ?_
      rintro e w' ⟨rfl, q1, q2⟩
      have hVw : Below w.heap.size w V := below_low hbW hV.out hbW.size
      refine ⟨rfl, q1, ownsMap_heap hoW ((q2.block m.mp (by have := hV.out.size; omega) hne).trans (hV.out.block _ (by omega))), ?_⟩
      exact ⟨q2.os.trans hVw.os, q2.tape.trans hVw.tape, q2.output.trans hVw.output, Nat.le_trans hVw.size q2.size, fun g hg hgn _ => (q2.block g (by have := hVw.size; omega) hgn).trans (hVw.block g hg)⟩
    rw [hW] at HM HE
    clear hMay hm hmc hoW hF hsz hbW hW h ho hn hf
    unfold encF
    go_enter Tryz.func81, Tryz.ntmps81
    go_wp2_with (first
      | (go_at_call 123; refine HM.out.mono ?_; rintro e w1 ⟨rfl, HB1⟩)
      | (go_at_call 88; refine (HE.out _ HB1).mono ?_; rintro e w2 ⟨rfl, H2⟩)
      | go_in)
    refine bodyPost_ret (v := .tuple #[]) (by simp [results, Tryz.results81]) rfl ?_
    exact ⟨rfl, H2.out.1, ⟨n, by omega, H2.out.2.1⟩, H2.out.2.2⟩
  | true =>
    rw [hm] at hMay
    have HM : Hid (Calls Tryz.prog 123 #[.pointer (some ⟨P, 0, none⟩), .string f.pa] W fun e w' => e = .returned (.bool true) ∧ Hid (Below W.heap.size W w')) := hMay
    rw [if_pos rfl]
    obtain ⟨bm, hbm⟩ : ∃ bm, burnM m f.tx.size = bm := ⟨_, rfl⟩
    rw [hbm]
    obtain ⟨m1, b⟩ := bm
    have hmp : m1.mp = m.mp := by have := burnM_mp m f.tx.size; rw [hbm] at this; exact this
    have HBn : Hid (∀ V, Hid (Below W.heap.size W V) → Calls Tryz.prog 111 #[.pointer (some ⟨P, 0, none⟩), .int .i64 (f.tx.size : Int)] V fun e w' => e = .returned (.bool b) ∧ Hid (McAt w' P m1 ∧ w'.ownsMap Tryz.prog 9 fileE m.mp n (byD L) ∧ UpC P m.mp w w' ∧ w'.heap[w.heap.size]? = some (.cells #[.string f.pa, .string f.tx, .bool f.rn] 35 (0, 0)))) := by
      intro V hV
      have h1 := hmc.below hV.out
      have h2 := burn_any m P f.tx.size V h1 ht hf
      rw [hbm] at h2
      refine h2.mono ?_
      rintro e w' ⟨rfl, q1, q2⟩
      have hVw : Below w.heap.size w V := below_low hbW hV.out hbW.size
      refine ⟨rfl, q1, ownsMap_heap hoW ((q2.block m.mp (by have := hV.out.size; omega) hne).trans (hV.out.block _ (by omega))), ?_, ?_⟩
      · exact ⟨q2.os.trans hVw.os, q2.tape.trans hVw.tape, q2.output.trans hVw.output, Nat.le_trans hVw.size q2.size, fun g hg hgn _ => (q2.block g (by have := hVw.size; omega) hgn).trans (hVw.block g hg)⟩
      · exact (q2.block w.heap.size (by have := hV.out.size; omega) (by omega)).trans ((hV.out.block _ (by omega)).trans hF)
    have cfw : ∀ V : World, Hid (Below W.heap.size W V) → V.cell? ⟨w.heap.size, 1, none⟩ = some (.string f.tx) := fun V hV => by
      rw [Lib.cell_of_heap ((hV.out.block w.heap.size (by omega)).trans hF)]
      rfl
    have HCF : Hid (∀ V : World, Hid (Below W.heap.size W V) → V.cell? ⟨w.heap.size, 1, none⟩ = some (.string f.tx)) := cfw
    have hts : (f.tx.size : Int) ≤ 9223372036854775807 := by omega
    have hps : f.pa.size ≤ maxLen := by unfold maxLen; omega
    rw [hW] at HM HBn HCF
    have HX : Hid (m1.mp = m.mp ∧ n < maxLen ∧ f.pa.size ≤ maxLen) := ⟨hmp, by unfold maxLen; omega, hps⟩
    clear hMay hm hmc hoW hF hsz hbW hW h ho hn hf hbm cfw hmp
    unfold encF
    cases b with
    | false =>
      rw [if_neg (by simp)]
      go_enter Tryz.func81, Tryz.ntmps81
      go_wp2_with (first
        | (go_at_call 123; refine HM.out.mono ?_; rintro e w1 ⟨rfl, HB1⟩; have cf := HCF.out w1 HB1)
        | (go_at_call 111; refine (HBn.out _ HB1).mono ?_; rintro e w2 ⟨rfl, H2⟩)
        | go_in)
      go_end0
      exact ⟨rfl, H2.out.1, ⟨n, by omega, H2.out.2.1⟩, H2.out.2.2.1⟩
    | true =>
      rw [if_pos ⟨rfl, rfl⟩]
      go_enter Tryz.func81, Tryz.ntmps81
      go_wp2_with (first
        | (go_at_call 123; refine HM.out.mono ?_; rintro e w1 ⟨rfl, HB1⟩; have cf := HCF.out w1 HB1)
        | (go_at_call 111; refine (HBn.out _ HB1).mono ?_; rintro e w2 ⟨rfl, H2⟩)
        | go_in)
      have hmc2 := H2.out.1
      have g1 := hmc2.c1
      rw [HX.out.1] at g1
      have g2 : w2.cell? ⟨w.heap.size, 0, none⟩ = some (.string f.pa) := by rw [Lib.cell_of_heap H2.out.2.2.2]; rfl
      have g3 : w2.cell? ⟨w.heap.size, 1, none⟩ = some (.string f.tx) := by rw [Lib.cell_of_heap H2.out.2.2.2]; rfl
      have g4 : w2.cell? ⟨w.heap.size, 2, none⟩ = some (.bool f.rn) := by rw [Lib.cell_of_heap H2.out.2.2.2]; rfl
      have hod : w2.drew.ownsMap Tryz.prog 9 fileE m.mp n (byD L) := ownsMap_heap H2.out.2.1 rfl
      obtain ⟨w3, hrun, r1, r2⟩ := hod.update lawS Tryz.underlying49 HX.out.2.1 (keyOf_string_mk Tryz.underlying9 HX.out.2.2) (fileE_mk f)
      unfold encF at hrun
      have HR : Hid (w3.ownsMap Tryz.prog 9 fileE m.mp (n + 1) ((byD L).put (.string (pth f)) (fD f)) ∧ w2.drew.grownBy w3 (some m.mp)) := ⟨r1, r2⟩
      clear r1 r2 hod hmc2
      go_region
      go_wp2
      go_end0
      have hu := H2.out.2.2.1
      refine ⟨rfl, ⟨(HR.out.2.block P (by have := hu.size; show P < w2.heap.size; omega) (fun e => hne (Option.some.inj e).symm)).trans H2.out.1.at_, H2.out.1.len⟩, ⟨n + 1, by omega, HR.out.1⟩, ?_⟩
      exact ⟨HR.out.2.os.trans hu.os, HR.out.2.tape.trans hu.tape, HR.out.2.output.trans hu.output, Nat.le_trans hu.size HR.out.2.size, fun g hg hgn hgm => (HR.out.2.block g (by have := hu.size; show g < w2.heap.size; omega) (fun e => hgm (Option.some.inj e))).trans (hu.block g hg hgn hgm)⟩
end Go.Proofs.YtapiedeekbfpnaaGreatDoor

/- A machine does a line; two lines are run. -/
namespace Go.Proofs.YtapiedeekbfpnaaGreatDoor
open Go.RowKit Go.Shelf Go.Maps Go.WideMaps Go.Sort

set_option maxHeartbeats 1000000 in
set_option maxRecDepth 100000 in
theorem deed_set (m : Mc) (P bx : Nat) (l : Ln) (w : World) (h : McAt w P m) (hx : w.cell? ⟨bx, 0, none⟩ = some (.pointer (some ⟨P, 0, none⟩))) (hf : m.fuel ≤ 1000000) (hr : l.r < 8) (ht : l.tx.size ≤ 1000000) :
    Calls Tryz.prog 67 #[.agg (lnC l), .pointer (some ⟨bx, 0, none⟩)] w fun e w' => e = .returned (.tuple #[]) ∧ McAt w' P (putM m l.r l.tx) ∧ UpB P w w' := by
  have hbl : bx < w.heap.size := World.block_lt_of_cell? w ⟨bx, 0, none⟩ hx
  obtain ⟨W, hW⟩ : ∃ W, W = w.alloc (.cells (lnC l) 67) := ⟨_, rfl⟩
  have hb : Below w.heap.size w W := by rw [hW]; exact (Below.refl _ w).alloc (Nat.le_refl _) _
  have hP := put_any m P l.r l.tx W (h.below hb) hf hr ht
  have HP : Hid (Calls Tryz.prog 68 #[.pointer (some ⟨P, 0, none⟩), .int .i64 (l.r : Int), .string l.tx] W fun e w' => e = .returned (.tuple #[]) ∧ Hid (McAt w' P (putM m l.r l.tx) ∧ UpB P w w')) := hP.mono fun e w' q => ⟨q.1, q.2.1, (UpB.of_below hb).trans q.2.2⟩
  have hx2 : W.cell? ⟨bx, 0, none⟩ = some (.pointer (some ⟨P, 0, none⟩)) := (hb.cell (p := ⟨bx, 0, none⟩) hbl).trans hx
  rw [hW] at HP hx2
  clear h hf hr ht hP hb hW hx
  unfold lnC at *
  go_enter Tryz.func67, Tryz.ntmps67
  go_wp2_with (first
    | (go_at_call 68; refine HP.out.mono ?_; rintro e w1 ⟨rfl, H1⟩)
    | go_in)
  go_end0
  exact ⟨rfl, H1.out⟩

theorem burnM_tx (m : Mc) (b : Nat) : (burnM m b).1.tx = m.tx := by unfold burnM; split <;> rfl
theorem endM_tx (m : Mc) (c : Nat) : (endM m c).tx = m.tx := by
  unfold endM
  split
  · exact burnM_tx m 0
  · exact burnM_tx m 0
theorem mkM_tx (m : Mc) (L : List Fl) (f : Fl) : (mkM m L f).tx = m.tx := by
  unfold mkM
  split
  · exact burnM_tx m _
  · exact endM_tx m _
theorem map_no_cell {w : World} {M n b : Nat} {D : DataW Unit} (h : w.ownsMap Tryz.prog 9 fileE M n D) {v : Value} (hc : w.cell? ⟨b, 0, none⟩ = some v) : b ≠ M := by
  rintro rfl
  obtain ⟨es, clock, hb, _⟩ := h
  unfold World.cell? at hc
  simp [hb] at hc

set_option maxHeartbeats 2000000 in
set_option maxRecDepth 100000 in
theorem deed_make (m : Mc) (P bx n : Nat) (L : List Fl) (l : Ln) (t : ByteArray) (w : World) (h : McAt w P m) (hx : w.cell? ⟨bx, 0, none⟩ = some (.pointer (some ⟨P, 0, none⟩))) (hf : m.fuel ≤ 1000000) (hr : l.r < 8) (ht : m.tx[l.r]? = some t) (hts : t.size ≤ 1000000) (hps : l.pa.size ≤ 1000000)
    (ho : w.ownsMap Tryz.prog 9 fileE m.mp n (byD L)) (hn : (L.map pth).Nodup) (hnn : n ≤ 1000000) (hne : m.mp ≠ P) (hbp : bx ≠ P) :
    Calls Tryz.prog 80 #[.agg (lnC l), .pointer (some ⟨bx, 0, none⟩)] w fun e w' => e = .returned (.tuple #[]) ∧ McAt w' P (mkM m L ⟨l.pa, t, false⟩) ∧ (∃ n', n' ≤ n + 1 ∧ w'.ownsMap Tryz.prog 9 fileE m.mp n' (mkD m L ⟨l.pa, t, false⟩ (byD L))) ∧ UpC P m.mp w w' := by
  have hbl : bx < w.heap.size := World.block_lt_of_cell? w ⟨bx, 0, none⟩ hx
  obtain ⟨W, hW⟩ : ∃ W, W = w.alloc (.cells (lnC l) 67) := ⟨_, rfl⟩
  have hb : Below w.heap.size w W := by rw [hW]; exact (Below.refl _ w).alloc (Nat.le_refl _) _
  have hMl := ho.lt
  have hM := makeFile_any m P n L ⟨l.pa, t, false⟩ W.drew ⟨(h.below hb).at_, h.len⟩ (ownsMap_heap ho (hb.block _ hMl)) hn hnn hne hps hts hf
  have hx2 : W.cell? ⟨bx, 0, none⟩ = some (.pointer (some ⟨P, 0, none⟩)) := (hb.cell (p := ⟨bx, 0, none⟩) hbl).trans hx
  have ct : W.cell? ⟨P, 2 + l.r, none⟩ = some (.string t) := ((h.below hb).cell _).trans (mcL_lo l.r t ht)
  have hL : W.heap[w.heap.size]? = some (.cells (lnC l) 67 (0, 0)) := by rw [hW]; exact heap_alloc_new w _
  have q3 : W.cell? ⟨w.heap.size, 3, none⟩ = some (.string l.pa) := by rw [Lib.cell_of_heap hL]; rfl
  have q1 : W.cell? ⟨w.heap.size, 1, none⟩ = some (.int .i64 (l.r : Int)) := by rw [Lib.cell_of_heap hL]; rfl
  have hsz : W.heap.size = w.heap.size + 1 := by rw [hW]; exact World.size_alloc _ _
  have hPl := h.lt
  have hbm : bx ≠ m.mp := map_no_cell ho hx
  have HM : Hid (Calls Tryz.prog 81 #[.pointer (some ⟨P, 0, none⟩), .agg #[.string l.pa, .string t, .bool false]] W.drew fun e w' => e = .returned (.tuple #[]) ∧ (w'.cell? ⟨bx, 0, none⟩ = some (.pointer (some ⟨P, 0, none⟩)) ∧ w'.cell? ⟨P, 2 + l.r, none⟩ = some (.string t) ∧ w'.cell? ⟨w.heap.size, 3, none⟩ = some (.string l.pa) ∧ w'.cell? ⟨w.heap.size, 1, none⟩ = some (.int .i64 (l.r : Int))) ∧ Hid (McAt w' P (mkM m L ⟨l.pa, t, false⟩) ∧ (∃ n', n' ≤ n + 1 ∧ w'.ownsMap Tryz.prog 9 fileE m.mp n' (mkD m L ⟨l.pa, t, false⟩ (byD L))) ∧ UpC P m.mp w w')) := hM.mono fun e w' q => by
    obtain ⟨q0, k1, k2, k3⟩ := q
    have hLn : w'.heap[w.heap.size]? = some (.cells (lnC l) 67 (0, 0)) := (k3.block w.heap.size (by show w.heap.size < W.heap.size; omega) (by omega) (by omega)).trans hL
    refine ⟨q0, ⟨?_, ?_, ?_, ?_⟩, k1, k2, ⟨k3.os.trans hb.os, k3.tape.trans hb.tape, k3.output.trans hb.output, Nat.le_trans hb.size k3.size, fun g hg h1 h2 => (k3.block g (Nat.lt_of_lt_of_le hg hb.size) h1 h2).trans (hb.block g hg)⟩⟩
    · exact (cell_same (w := W) (k3.block bx (by show bx < W.heap.size; omega) hbp hbm) 0).trans hx2
    · exact (k1.cell _).trans (mcL_lo l.r t (by rw [mkM_tx]; exact ht))
    · rw [Lib.cell_of_heap hLn]; rfl
    · rw [Lib.cell_of_heap hLn]; rfl
  have hri : (l.r : Int) < 8 := by omega
  rw [hW] at HM hx2 ct q3 q1
  have HS : Hid ((w.alloc (.cells (lnC l) 67)).drew.cell? ⟨bx, 0, none⟩ = some (.pointer (some ⟨P, 0, none⟩)) ∧ (w.alloc (.cells (lnC l) 67)).drew.cell? ⟨P, 2 + l.r, none⟩ = some (.string t) ∧ (w.alloc (.cells (lnC l) 67)).drew.cell? ⟨w.heap.size, 3, none⟩ = some (.string l.pa) ∧ (w.alloc (.cells (lnC l) 67)).drew.cell? ⟨w.heap.size, 1, none⟩ = some (.int .i64 (l.r : Int))) := ⟨hx2, ct, q3, q1⟩
  clear h hf ht hM hb hW hx hL ho hn hnn hne hbl hMl hsz hPl hbm hbp hr hts hps
  unfold lnC at *
  go_enter Tryz.func80, Tryz.ntmps80
  go_wp2
  go_region_held3 (fun V => V.cell? ⟨bx, 0, none⟩ = some (.pointer (some ⟨P, 0, none⟩)) ∧ V.cell? ⟨P, 2 + l.r, none⟩ = some (.string t) ∧ V.cell? ⟨w.heap.size, 3, none⟩ = some (.string l.pa) ∧ V.cell? ⟨w.heap.size, 1, none⟩ = some (.int .i64 (l.r : Int))) (first | assumption | exact HS.out | go_keep) (first
    | (go_at_call 81; refine HM.out.mono ?_; rintro e w1 ⟨rfl, hS1, H1⟩)
    | fail)
  all_goals
    go_wp2
    go_end0
    exact ⟨rfl, H1.out⟩
end Go.Proofs.YtapiedeekbfpnaaGreatDoor

/- A machine does a line: it joins, it goes elsewhere, it ends. -/
namespace Go.Proofs.YtapiedeekbfpnaaGreatDoor
open Go.RowKit Go.Shelf Go.Maps Go.WideMaps Go.Sort

set_option maxHeartbeats 1000000 in
set_option maxRecDepth 100000 in
theorem deed_goto (m : Mc) (P bx : Nat) (l : Ln) (w : World) (h : McAt w P m) (hx : w.cell? ⟨bx, 0, none⟩ = some (.pointer (some ⟨P, 0, none⟩))) (hf : m.fuel ≤ 1000000) :
    Calls Tryz.prog 86 #[.agg (lnC l), .pointer (some ⟨bx, 0, none⟩)] w fun e w' => e = .returned (.tuple #[]) ∧ McAt w' P (goM m true l.n) ∧ UpB P w w' := by
  have hbl : bx < w.heap.size := World.block_lt_of_cell? w ⟨bx, 0, none⟩ hx
  obtain ⟨W, hW⟩ : ∃ W, W = w.alloc (.cells (lnC l) 67) := ⟨_, rfl⟩
  have hb : Below w.heap.size w W := by rw [hW]; exact (Below.refl _ w).alloc (Nat.le_refl _) _
  have hP := goIf_any m P true l.n W (h.below hb) hf
  have HP : Hid (Calls Tryz.prog 84 #[.pointer (some ⟨P, 0, none⟩), .bool true, .int .i64 (l.n : Int)] W fun e w' => e = .returned (.tuple #[]) ∧ Hid (McAt w' P (goM m true l.n) ∧ UpB P w w')) := hP.mono fun e w' q => ⟨q.1, q.2.1, (UpB.of_below hb).trans q.2.2⟩
  have hx2 : W.cell? ⟨bx, 0, none⟩ = some (.pointer (some ⟨P, 0, none⟩)) := (hb.cell (p := ⟨bx, 0, none⟩) hbl).trans hx
  rw [hW] at HP hx2
  clear h hf hP hb hW hx
  unfold lnC at *
  go_enter Tryz.func86, Tryz.ntmps86
  go_wp2_with (first
    | (go_at_call 84; refine HP.out.mono ?_; rintro e w1 ⟨rfl, H1⟩)
    | go_in)
  go_end0
  exact ⟨rfl, H1.out⟩

set_option maxHeartbeats 1000000 in
set_option maxRecDepth 100000 in
theorem deed_exit (m : Mc) (P bx : Nat) (l : Ln) (w : World) (h : McAt w P m) (hx : w.cell? ⟨bx, 0, none⟩ = some (.pointer (some ⟨P, 0, none⟩))) (hf : m.fuel ≤ 1000000) :
    Calls Tryz.prog 87 #[.agg (lnC l), .pointer (some ⟨bx, 0, none⟩)] w fun e w' => e = .returned (.tuple #[]) ∧ McAt w' P (endM m l.n) ∧ UpB P w w' := by
  have hbl : bx < w.heap.size := World.block_lt_of_cell? w ⟨bx, 0, none⟩ hx
  obtain ⟨W, hW⟩ : ∃ W, W = w.alloc (.cells (lnC l) 67) := ⟨_, rfl⟩
  have hb : Below w.heap.size w W := by rw [hW]; exact (Below.refl _ w).alloc (Nat.le_refl _) _
  have hP := end_any m P l.n W (h.below hb) hf
  have HP : Hid (Calls Tryz.prog 88 #[.pointer (some ⟨P, 0, none⟩), .int .i64 (l.n : Int)] W fun e w' => e = .returned (.tuple #[]) ∧ Hid (McAt w' P (endM m l.n) ∧ UpB P w w')) := hP.mono fun e w' q => ⟨q.1, q.2.1, (UpB.of_below hb).trans q.2.2⟩
  have hx2 : W.cell? ⟨bx, 0, none⟩ = some (.pointer (some ⟨P, 0, none⟩)) := (hb.cell (p := ⟨bx, 0, none⟩) hbl).trans hx
  rw [hW] at HP hx2
  clear h hf hP hb hW hx
  unfold lnC at *
  go_enter Tryz.func87, Tryz.ntmps87
  go_wp2_with (first
    | (go_at_call 88; refine HP.out.mono ?_; rintro e w1 ⟨rfl, H1⟩)
    | go_in)
  go_end0
  exact ⟨rfl, H1.out⟩

set_option maxHeartbeats 2000000 in
set_option maxRecDepth 100000 in
theorem deed_join (m : Mc) (P bx : Nat) (l : Ln) (t u tu : ByteArray) (w : World) (h : McAt w P m) (hx : w.cell? ⟨bx, 0, none⟩ = some (.pointer (some ⟨P, 0, none⟩))) (hf : m.fuel ≤ 1000000) (hr : l.r < 8) (hs : l.s < 8) (ht : m.tx[l.r]? = some t) (hu : m.tx[l.s]? = some u) (htu : ∀ W : World, (Op.stringOp .add t u).run Tryz.prog W = .ok (.string tu) W) (hz : tu.size ≤ 1000000) :
    Calls Tryz.prog 73 #[.agg (lnC l), .pointer (some ⟨bx, 0, none⟩)] w fun e w' => e = .returned (.tuple #[]) ∧ McAt w' P (putM m l.r tu) ∧ UpB P w w' := by
  have hbl : bx < w.heap.size := World.block_lt_of_cell? w ⟨bx, 0, none⟩ hx
  obtain ⟨W, hW⟩ : ∃ W, W = w.alloc (.cells (lnC l) 67) := ⟨_, rfl⟩
  have hb : Below w.heap.size w W := by rw [hW]; exact (Below.refl _ w).alloc (Nat.le_refl _) _
  have hP := put_any m P l.r tu W.drew ⟨(h.below hb).at_, h.len⟩ hf hr hz
  have HP : Hid (Calls Tryz.prog 68 #[.pointer (some ⟨P, 0, none⟩), .int .i64 (l.r : Int), .string tu] W.drew fun e w' => e = .returned (.tuple #[]) ∧ Hid (McAt w' P (putM m l.r tu) ∧ UpB P w w')) := hP.mono fun e w' q => ⟨q.1, q.2.1, (UpB.of_below hb).trans ⟨q.2.2.os, q.2.2.tape, q.2.2.output, q.2.2.size, q.2.2.block⟩⟩
  have hx2 : W.cell? ⟨bx, 0, none⟩ = some (.pointer (some ⟨P, 0, none⟩)) := (hb.cell (p := ⟨bx, 0, none⟩) hbl).trans hx
  have ct : W.cell? ⟨P, 2 + l.r, none⟩ = some (.string t) := ((h.below hb).cell _).trans (mcL_lo l.r t ht)
  have cu : W.cell? ⟨P, 2 + l.s, none⟩ = some (.string u) := ((h.below hb).cell _).trans (mcL_lo l.s u hu)
  have hL : W.heap[w.heap.size]? = some (.cells (lnC l) 67 (0, 0)) := by rw [hW]; exact heap_alloc_new w _
  have q2 : W.cell? ⟨w.heap.size, 2, none⟩ = some (.int .i64 (l.s : Int)) := by rw [Lib.cell_of_heap hL]; rfl
  have q1 : W.cell? ⟨w.heap.size, 1, none⟩ = some (.int .i64 (l.r : Int)) := by rw [Lib.cell_of_heap hL]; rfl
  have hri : (l.r : Int) < 8 := by omega
  have hsi : (l.s : Int) < 8 := by omega
  rw [hW] at HP hx2 ct cu q2 q1
  clear h hf ht hu hP hb hW hx hL hbl hr hs hz
  unfold lnC at *
  go_enter Tryz.func73, Tryz.ntmps73
  go_wp2
  obtain ⟨V, hV⟩ : ∃ V, V = (w.alloc (.cells #[.string l.wd, .int .i64 (l.r : Int), .int .i64 (l.s : Int), .string l.pa, .string l.tx, .int .i64 (l.n : Int), .int .i64 (l.m : Int)] 67)).drew := ⟨_, rfl⟩
  have hx2 : V.cell? ⟨bx, 0, none⟩ = some (.pointer (some ⟨P, 0, none⟩)) := by rw [hV]; exact hx2
  have ct : V.cell? ⟨P, 2 + l.r, none⟩ = some (.string t) := by rw [hV]; exact ct
  have cu : V.cell? ⟨P, 2 + l.s, none⟩ = some (.string u) := by rw [hV]; exact cu
  have q2 : V.cell? ⟨w.heap.size, 2, none⟩ = some (.int .i64 (l.s : Int)) := by rw [hV]; exact q2
  have q1 : V.cell? ⟨w.heap.size, 1, none⟩ = some (.int .i64 (l.r : Int)) := by rw [hV]; exact q1
  rw [← hV] at HP
  refine wp_region_still_tail 18 (by kernel_rfl) (by kernel_rfl) ?_
  simp only [List.take_succ_cons, List.take_zero, List.drop_succ_cons, List.drop_zero]
  change wpStill _ _ (w.alloc (.cells #[.string l.wd, .int .i64 (l.r : Int), .int .i64 (l.s : Int), .string l.pa, .string l.tx, .int .i64 (l.n : Int), .int .i64 (l.m : Int)] 67)).drew (fun a' => wpList _ _ _ _ a' (w.alloc (.cells #[.string l.wd, .int .i64 (l.r : Int), .int .i64 (l.s : Int), .string l.pa, .string l.tx, .int .i64 (l.n : Int), .int .i64 (l.m : Int)] 67)).drew) _ _
  rw [← hV]
  clear hV
  repeat still_step
  refine wpStill_nil ?_
  go_wp2_with (first
    | (go_at_call 68; refine HP.out.mono ?_; rintro e w1 ⟨rfl, H1⟩)
    | go_in)
  go_end0
  exact ⟨rfl, H1.out⟩

set_option maxHeartbeats 2000000 in
set_option maxRecDepth 100000 in
theorem deed_same (m : Mc) (P bx : Nat) (l : Ln) (t u : ByteArray) (w : World) (h : McAt w P m) (hx : w.cell? ⟨bx, 0, none⟩ = some (.pointer (some ⟨P, 0, none⟩))) (hf : m.fuel ≤ 1000000) (hr : l.r < 8) (hs : l.s < 8) (ht : m.tx[l.r]? = some t) (hu : m.tx[l.s]? = some u) :
    Calls Tryz.prog 83 #[.agg (lnC l), .pointer (some ⟨bx, 0, none⟩)] w fun e w' => e = .returned (.tuple #[]) ∧ ∃ b : Bool, (b = true ↔ t.data.toList = u.data.toList) ∧ McAt w' P (goM m b l.n) ∧ UpB P w w' := by
  have hbl : bx < w.heap.size := World.block_lt_of_cell? w ⟨bx, 0, none⟩ hx
  obtain ⟨W, hW⟩ : ∃ W, W = w.alloc (.cells (lnC l) 67) := ⟨_, rfl⟩
  have hb : Below w.heap.size w W := by rw [hW]; exact (Below.refl _ w).alloc (Nat.le_refl _) _
  have hP := fun b : Bool => goIf_any m P b l.n W.drew ⟨(h.below hb).at_, h.len⟩ hf
  have HP : Hid (∀ b : Bool, Calls Tryz.prog 84 #[.pointer (some ⟨P, 0, none⟩), .bool b, .int .i64 (l.n : Int)] W.drew fun e w' => e = .returned (.tuple #[]) ∧ Hid (McAt w' P (goM m b l.n) ∧ UpB P w w')) := fun b => (hP b).mono fun e w' q => ⟨q.1, q.2.1, (UpB.of_below hb).trans ⟨q.2.2.os, q.2.2.tape, q.2.2.output, q.2.2.size, q.2.2.block⟩⟩
  have hx2 : W.cell? ⟨bx, 0, none⟩ = some (.pointer (some ⟨P, 0, none⟩)) := (hb.cell (p := ⟨bx, 0, none⟩) hbl).trans hx
  have ct : W.cell? ⟨P, 2 + l.r, none⟩ = some (.string t) := ((h.below hb).cell _).trans (mcL_lo l.r t ht)
  have cu : W.cell? ⟨P, 2 + l.s, none⟩ = some (.string u) := ((h.below hb).cell _).trans (mcL_lo l.s u hu)
  have hL : W.heap[w.heap.size]? = some (.cells (lnC l) 67 (0, 0)) := by rw [hW]; exact heap_alloc_new w _
  have q2 : W.cell? ⟨w.heap.size, 2, none⟩ = some (.int .i64 (l.s : Int)) := by rw [Lib.cell_of_heap hL]; rfl
  have q1 : W.cell? ⟨w.heap.size, 1, none⟩ = some (.int .i64 (l.r : Int)) := by rw [Lib.cell_of_heap hL]; rfl
  have q5 : W.cell? ⟨w.heap.size, 5, none⟩ = some (.int .i64 (l.n : Int)) := by rw [Lib.cell_of_heap hL]; rfl
  have hri : (l.r : Int) < 8 := by omega
  have hsi : (l.s : Int) < 8 := by omega
  rw [hW] at HP hx2 ct cu q2 q1 q5
  clear h hf ht hu hP hb hW hx hL hbl hr hs
  unfold lnC at *
  go_enter Tryz.func83, Tryz.ntmps83
  go_wp2
  obtain ⟨V, hV⟩ : ∃ V, V = (w.alloc (.cells #[.string l.wd, .int .i64 (l.r : Int), .int .i64 (l.s : Int), .string l.pa, .string l.tx, .int .i64 (l.n : Int), .int .i64 (l.m : Int)] 67)).drew := ⟨_, rfl⟩
  have hx2 : V.cell? ⟨bx, 0, none⟩ = some (.pointer (some ⟨P, 0, none⟩)) := by rw [hV]; exact hx2
  have ct : V.cell? ⟨P, 2 + l.r, none⟩ = some (.string t) := by rw [hV]; exact ct
  have cu : V.cell? ⟨P, 2 + l.s, none⟩ = some (.string u) := by rw [hV]; exact cu
  have q2 : V.cell? ⟨w.heap.size, 2, none⟩ = some (.int .i64 (l.s : Int)) := by rw [hV]; exact q2
  have q1 : V.cell? ⟨w.heap.size, 1, none⟩ = some (.int .i64 (l.r : Int)) := by rw [hV]; exact q1
  have q5 : V.cell? ⟨w.heap.size, 5, none⟩ = some (.int .i64 (l.n : Int)) := by rw [hV]; exact q5
  rw [← hV] at HP
  refine wp_region_still_tail 18 (by kernel_rfl) (by kernel_rfl) ?_
  simp only [List.take_succ_cons, List.take_zero, List.drop_succ_cons, List.drop_zero]
  change wpStill _ _ (w.alloc (.cells #[.string l.wd, .int .i64 (l.r : Int), .int .i64 (l.s : Int), .string l.pa, .string l.tx, .int .i64 (l.n : Int), .int .i64 (l.m : Int)] 67)).drew (fun a' => wpList _ _ _ _ a' (w.alloc (.cells #[.string l.wd, .int .i64 (l.r : Int), .int .i64 (l.s : Int), .string l.pa, .string l.tx, .int .i64 (l.n : Int), .int .i64 (l.m : Int)] 67)).drew) _ _
  rw [← hV]
  clear hV
  repeat still_step
  refine wpStill_nil ?_
  go_wp2_with (first
    | (go_at_call 84; refine (HP.out _).mono ?_; rintro e w1 ⟨rfl, H1⟩)
    | go_in)
  go_end0
  exact ⟨rfl, _, by simp [Lib.toList_data], H1.out⟩

set_option maxHeartbeats 2000000 in
set_option maxRecDepth 100000 in
theorem deed_less (m : Mc) (P bx : Nat) (l : Ln) (t u : ByteArray) (w : World) (h : McAt w P m) (hx : w.cell? ⟨bx, 0, none⟩ = some (.pointer (some ⟨P, 0, none⟩))) (hf : m.fuel ≤ 1000000) (hr : l.r < 8) (hs : l.s < 8) (ht : m.tx[l.r]? = some t) (hu : m.tx[l.s]? = some u) :
    Calls Tryz.prog 85 #[.agg (lnC l), .pointer (some ⟨bx, 0, none⟩)] w fun e w' => e = .returned (.tuple #[]) ∧ ∃ b : Bool, (b = true ↔ t.data.toList < u.data.toList) ∧ McAt w' P (goM m b l.n) ∧ UpB P w w' := by
  have hbl : bx < w.heap.size := World.block_lt_of_cell? w ⟨bx, 0, none⟩ hx
  obtain ⟨W, hW⟩ : ∃ W, W = w.alloc (.cells (lnC l) 67) := ⟨_, rfl⟩
  have hb : Below w.heap.size w W := by rw [hW]; exact (Below.refl _ w).alloc (Nat.le_refl _) _
  have hP := fun b : Bool => goIf_any m P b l.n W.drew ⟨(h.below hb).at_, h.len⟩ hf
  have HP : Hid (∀ b : Bool, Calls Tryz.prog 84 #[.pointer (some ⟨P, 0, none⟩), .bool b, .int .i64 (l.n : Int)] W.drew fun e w' => e = .returned (.tuple #[]) ∧ Hid (McAt w' P (goM m b l.n) ∧ UpB P w w')) := fun b => (hP b).mono fun e w' q => ⟨q.1, q.2.1, (UpB.of_below hb).trans ⟨q.2.2.os, q.2.2.tape, q.2.2.output, q.2.2.size, q.2.2.block⟩⟩
  have hx2 : W.cell? ⟨bx, 0, none⟩ = some (.pointer (some ⟨P, 0, none⟩)) := (hb.cell (p := ⟨bx, 0, none⟩) hbl).trans hx
  have ct : W.cell? ⟨P, 2 + l.r, none⟩ = some (.string t) := ((h.below hb).cell _).trans (mcL_lo l.r t ht)
  have cu : W.cell? ⟨P, 2 + l.s, none⟩ = some (.string u) := ((h.below hb).cell _).trans (mcL_lo l.s u hu)
  have hL : W.heap[w.heap.size]? = some (.cells (lnC l) 67 (0, 0)) := by rw [hW]; exact heap_alloc_new w _
  have q2 : W.cell? ⟨w.heap.size, 2, none⟩ = some (.int .i64 (l.s : Int)) := by rw [Lib.cell_of_heap hL]; rfl
  have q1 : W.cell? ⟨w.heap.size, 1, none⟩ = some (.int .i64 (l.r : Int)) := by rw [Lib.cell_of_heap hL]; rfl
  have q5 : W.cell? ⟨w.heap.size, 5, none⟩ = some (.int .i64 (l.n : Int)) := by rw [Lib.cell_of_heap hL]; rfl
  have hri : (l.r : Int) < 8 := by omega
  have hsi : (l.s : Int) < 8 := by omega
  rw [hW] at HP hx2 ct cu q2 q1 q5
  clear h hf ht hu hP hb hW hx hL hbl hr hs
  unfold lnC at *
  go_enter Tryz.func85, Tryz.ntmps85
  go_wp2
  obtain ⟨V, hV⟩ : ∃ V, V = (w.alloc (.cells #[.string l.wd, .int .i64 (l.r : Int), .int .i64 (l.s : Int), .string l.pa, .string l.tx, .int .i64 (l.n : Int), .int .i64 (l.m : Int)] 67)).drew := ⟨_, rfl⟩
  have hx2 : V.cell? ⟨bx, 0, none⟩ = some (.pointer (some ⟨P, 0, none⟩)) := by rw [hV]; exact hx2
  have ct : V.cell? ⟨P, 2 + l.r, none⟩ = some (.string t) := by rw [hV]; exact ct
  have cu : V.cell? ⟨P, 2 + l.s, none⟩ = some (.string u) := by rw [hV]; exact cu
  have q2 : V.cell? ⟨w.heap.size, 2, none⟩ = some (.int .i64 (l.s : Int)) := by rw [hV]; exact q2
  have q1 : V.cell? ⟨w.heap.size, 1, none⟩ = some (.int .i64 (l.r : Int)) := by rw [hV]; exact q1
  have q5 : V.cell? ⟨w.heap.size, 5, none⟩ = some (.int .i64 (l.n : Int)) := by rw [hV]; exact q5
  rw [← hV] at HP
  refine wp_region_still_tail 18 (by kernel_rfl) (by kernel_rfl) ?_
  simp only [List.take_succ_cons, List.take_zero, List.drop_succ_cons, List.drop_zero]
  change wpStill _ _ (w.alloc (.cells #[.string l.wd, .int .i64 (l.r : Int), .int .i64 (l.s : Int), .string l.pa, .string l.tx, .int .i64 (l.n : Int), .int .i64 (l.m : Int)] 67)).drew (fun a' => wpList _ _ _ _ a' (w.alloc (.cells #[.string l.wd, .int .i64 (l.r : Int), .int .i64 (l.s : Int), .string l.pa, .string l.tx, .int .i64 (l.n : Int), .int .i64 (l.m : Int)] 67)).drew) _ _
  rw [← hV]
  clear hV
  repeat still_step
  refine wpStill_nil ?_
  go_wp2_with (first
    | (go_at_call 84; refine (HP.out _).mono ?_; rintro e w1 ⟨rfl, H1⟩)
    | go_in)
  go_end0
  exact ⟨rfl, _, by rw [bytesLess_eq, Lib.toList_data, Lib.toList_data]; exact decide_eq_true_iff, H1.out⟩

set_option maxHeartbeats 2000000 in
set_option maxRecDepth 100000 in
theorem deed_run (m : Mc) (P bx n : Nat) (L : List Fl) (l : Ln) (t : ByteArray) (w : World) (h : McAt w P m) (hx : w.cell? ⟨bx, 0, none⟩ = some (.pointer (some ⟨P, 0, none⟩))) (hf : m.fuel ≤ 1000000) (hr : l.r < 8) (ht : m.tx[l.r]? = some t) (hts : t.size ≤ 1000000) (hps : l.pa.size ≤ 1000000)
    (ho : w.ownsMap Tryz.prog 9 fileE m.mp n (byD L)) (hn : (L.map pth).Nodup) (hnn : n ≤ 1000000) (hne : m.mp ≠ P) (hbp : bx ≠ P) :
    Calls Tryz.prog 82 #[.agg (lnC l), .pointer (some ⟨bx, 0, none⟩)] w fun e w' => e = .returned (.tuple #[]) ∧ McAt w' P (mkM m L ⟨l.pa, t, true⟩) ∧ (∃ n', n' ≤ n + 1 ∧ w'.ownsMap Tryz.prog 9 fileE m.mp n' (mkD m L ⟨l.pa, t, true⟩ (byD L))) ∧ UpC P m.mp w w' := by
  have hbl : bx < w.heap.size := World.block_lt_of_cell? w ⟨bx, 0, none⟩ hx
  obtain ⟨W, hW⟩ : ∃ W, W = w.alloc (.cells (lnC l) 67) := ⟨_, rfl⟩
  have hb : Below w.heap.size w W := by rw [hW]; exact (Below.refl _ w).alloc (Nat.le_refl _) _
  have hMl := ho.lt
  have hM := makeFile_any m P n L ⟨l.pa, t, true⟩ W.drew ⟨(h.below hb).at_, h.len⟩ (ownsMap_heap ho (hb.block _ hMl)) hn hnn hne hps hts hf
  have hx2 : W.cell? ⟨bx, 0, none⟩ = some (.pointer (some ⟨P, 0, none⟩)) := (hb.cell (p := ⟨bx, 0, none⟩) hbl).trans hx
  have ct : W.cell? ⟨P, 2 + l.r, none⟩ = some (.string t) := ((h.below hb).cell _).trans (mcL_lo l.r t ht)
  have hL : W.heap[w.heap.size]? = some (.cells (lnC l) 67 (0, 0)) := by rw [hW]; exact heap_alloc_new w _
  have q3 : W.cell? ⟨w.heap.size, 3, none⟩ = some (.string l.pa) := by rw [Lib.cell_of_heap hL]; rfl
  have q1 : W.cell? ⟨w.heap.size, 1, none⟩ = some (.int .i64 (l.r : Int)) := by rw [Lib.cell_of_heap hL]; rfl
  have hsz : W.heap.size = w.heap.size + 1 := by rw [hW]; exact World.size_alloc _ _
  have hPl := h.lt
  have hbm : bx ≠ m.mp := map_no_cell ho hx
  have HM : Hid (Calls Tryz.prog 81 #[.pointer (some ⟨P, 0, none⟩), .agg #[.string l.pa, .string t, .bool true]] W.drew fun e w' => e = .returned (.tuple #[]) ∧ (w'.cell? ⟨bx, 0, none⟩ = some (.pointer (some ⟨P, 0, none⟩)) ∧ w'.cell? ⟨P, 2 + l.r, none⟩ = some (.string t) ∧ w'.cell? ⟨w.heap.size, 3, none⟩ = some (.string l.pa) ∧ w'.cell? ⟨w.heap.size, 1, none⟩ = some (.int .i64 (l.r : Int))) ∧ Hid (McAt w' P (mkM m L ⟨l.pa, t, true⟩) ∧ (∃ n', n' ≤ n + 1 ∧ w'.ownsMap Tryz.prog 9 fileE m.mp n' (mkD m L ⟨l.pa, t, true⟩ (byD L))) ∧ UpC P m.mp w w')) := hM.mono fun e w' q => by
    obtain ⟨q0, k1, k2, k3⟩ := q
    have hLn : w'.heap[w.heap.size]? = some (.cells (lnC l) 67 (0, 0)) := (k3.block w.heap.size (by show w.heap.size < W.heap.size; omega) (by omega) (by omega)).trans hL
    refine ⟨q0, ⟨?_, ?_, ?_, ?_⟩, k1, k2, ⟨k3.os.trans hb.os, k3.tape.trans hb.tape, k3.output.trans hb.output, Nat.le_trans hb.size k3.size, fun g hg h1 h2 => (k3.block g (Nat.lt_of_lt_of_le hg hb.size) h1 h2).trans (hb.block g hg)⟩⟩
    · exact (cell_same (w := W) (k3.block bx (by show bx < W.heap.size; omega) hbp hbm) 0).trans hx2
    · exact (k1.cell _).trans (mcL_lo l.r t (by rw [mkM_tx]; exact ht))
    · rw [Lib.cell_of_heap hLn]; rfl
    · rw [Lib.cell_of_heap hLn]; rfl
  have hri : (l.r : Int) < 8 := by omega
  rw [hW] at HM hx2 ct q3 q1
  have HS : Hid ((w.alloc (.cells (lnC l) 67)).drew.cell? ⟨bx, 0, none⟩ = some (.pointer (some ⟨P, 0, none⟩)) ∧ (w.alloc (.cells (lnC l) 67)).drew.cell? ⟨P, 2 + l.r, none⟩ = some (.string t) ∧ (w.alloc (.cells (lnC l) 67)).drew.cell? ⟨w.heap.size, 3, none⟩ = some (.string l.pa) ∧ (w.alloc (.cells (lnC l) 67)).drew.cell? ⟨w.heap.size, 1, none⟩ = some (.int .i64 (l.r : Int))) := ⟨hx2, ct, q3, q1⟩
  clear h hf ht hM hb hW hx hL ho hn hnn hne hbl hMl hsz hPl hbm hbp hr hts hps
  unfold lnC at *
  go_enter Tryz.func82, Tryz.ntmps82
  go_wp2
  go_region_held3 (fun V => V.cell? ⟨bx, 0, none⟩ = some (.pointer (some ⟨P, 0, none⟩)) ∧ V.cell? ⟨P, 2 + l.r, none⟩ = some (.string t) ∧ V.cell? ⟨w.heap.size, 3, none⟩ = some (.string l.pa) ∧ V.cell? ⟨w.heap.size, 1, none⟩ = some (.int .i64 (l.r : Int))) (first | assumption | exact HS.out | go_keep) (first
    | (go_at_call 81; refine HM.out.mono ?_; rintro e w1 ⟨rfl, hS1, H1⟩)
    | fail)
  all_goals
    go_wp2
    go_end0
    exact ⟨rfl, H1.out⟩

/-- Bytes are cut out. -/
def cutM (s : ByteArray) (a b : Nat) : ByteArray := s.extract (min a (min b s.size)) (min b s.size)

set_option maxHeartbeats 1000000 in
set_option maxRecDepth 100000 in
theorem cut_any (s : ByteArray) (a b : Nat) (w : World) (hs : s.size ≤ 1000000) :
    Calls Tryz.prog 75 #[.string s, .int .i64 (a : Int), .int .i64 (b : Int)] w fun e w' => e = .returned (.string (cutM s a b)) ∧ w' = w := by
  unfold cutM
  have hsz9 : (s.size : Int) ≤ 9223372036854775807 := by omega
  obtain ⟨c, hc⟩ : ∃ c : Nat, min b s.size = c := ⟨_, rfl⟩
  obtain ⟨d, hd⟩ : ∃ d : Nat, min a c = d := ⟨_, rfl⟩
  rw [hc, hd]
  have e1 : min (b : Int) (s.size : Int) = (c : Int) := by omega
  have e2 : min (a : Int) (c : Int) = (d : Int) := by omega
  have e3 : d ≤ c := by omega
  have e4 : c ≤ s.size := by omega
  have e5 : (d : Int) ≤ (c : Int) := by omega
  have e6 : (c : Int) ≤ (s.size : Int) := by omega
  clear hc hd hs
  go_enter Tryz.func75, Tryz.ntmps75
  go_wp2
  go_ret
  exact ⟨rfl, rfl⟩

set_option maxHeartbeats 2000000 in
set_option maxRecDepth 100000 in
theorem deed_cut (m : Mc) (P bx : Nat) (l : Ln) (t : ByteArray) (w : World) (h : McAt w P m) (hx : w.cell? ⟨bx, 0, none⟩ = some (.pointer (some ⟨P, 0, none⟩))) (hf : m.fuel ≤ 1000000) (hr : l.r < 8) (ht : m.tx[l.r]? = some t) (hz : t.size ≤ 1000000) :
    Calls Tryz.prog 74 #[.agg (lnC l), .pointer (some ⟨bx, 0, none⟩)] w fun e w' => e = .returned (.tuple #[]) ∧ McAt w' P (putM m l.r (cutM t l.n l.m)) ∧ UpB P w w' := by
  have hbl : bx < w.heap.size := World.block_lt_of_cell? w ⟨bx, 0, none⟩ hx
  obtain ⟨W, hW⟩ : ∃ W, W = w.alloc (.cells (lnC l) 67) := ⟨_, rfl⟩
  have hb : Below w.heap.size w W := by rw [hW]; exact (Below.refl _ w).alloc (Nat.le_refl _) _
  have hP := put_any m P l.r (cutM t l.n l.m) W.drew ⟨(h.below hb).at_, h.len⟩ hf hr (by unfold cutM; simp; omega)
  have HP : Hid (Calls Tryz.prog 68 #[.pointer (some ⟨P, 0, none⟩), .int .i64 (l.r : Int), .string (cutM t l.n l.m)] W.drew fun e w' => e = .returned (.tuple #[]) ∧ Hid (McAt w' P (putM m l.r (cutM t l.n l.m)) ∧ UpB P w w')) := hP.mono fun e w' q => ⟨q.1, q.2.1, (UpB.of_below hb).trans ⟨q.2.2.os, q.2.2.tape, q.2.2.output, q.2.2.size, q.2.2.block⟩⟩
  have hx2 : W.cell? ⟨bx, 0, none⟩ = some (.pointer (some ⟨P, 0, none⟩)) := (hb.cell (p := ⟨bx, 0, none⟩) hbl).trans hx
  have ct : W.cell? ⟨P, 2 + l.r, none⟩ = some (.string t) := ((h.below hb).cell _).trans (mcL_lo l.r t ht)
  have HC : Hid (∀ V : World, Calls Tryz.prog 75 #[.string t, .int .i64 (l.n : Int), .int .i64 (l.m : Int)] V fun e w' => e = .returned (.string (cutM t l.n l.m)) ∧ w' = V) := fun V => cut_any t l.n l.m V hz
  have hL : W.heap[w.heap.size]? = some (.cells (lnC l) 67 (0, 0)) := by rw [hW]; exact heap_alloc_new w _
  have q5 : W.cell? ⟨w.heap.size, 5, none⟩ = some (.int .i64 (l.n : Int)) := by rw [Lib.cell_of_heap hL]; rfl
  have q6 : W.cell? ⟨w.heap.size, 6, none⟩ = some (.int .i64 (l.m : Int)) := by rw [Lib.cell_of_heap hL]; rfl
  have q1 : W.cell? ⟨w.heap.size, 1, none⟩ = some (.int .i64 (l.r : Int)) := by rw [Lib.cell_of_heap hL]; rfl
  have hri : (l.r : Int) < 8 := by omega
  rw [hW] at HP hx2 ct q5 q6 q1
  clear h hf ht hP hb hW hx hL hbl hr hz
  unfold lnC at *
  go_enter Tryz.func74, Tryz.ntmps74
  go_wp2
  obtain ⟨V, hV⟩ : ∃ V, V = (w.alloc (.cells #[.string l.wd, .int .i64 (l.r : Int), .int .i64 (l.s : Int), .string l.pa, .string l.tx, .int .i64 (l.n : Int), .int .i64 (l.m : Int)] 67)).drew := ⟨_, rfl⟩
  have hx2 : V.cell? ⟨bx, 0, none⟩ = some (.pointer (some ⟨P, 0, none⟩)) := by rw [hV]; exact hx2
  have ct : V.cell? ⟨P, 2 + l.r, none⟩ = some (.string t) := by rw [hV]; exact ct
  have q5 : V.cell? ⟨w.heap.size, 5, none⟩ = some (.int .i64 (l.n : Int)) := by rw [hV]; exact q5
  have q6 : V.cell? ⟨w.heap.size, 6, none⟩ = some (.int .i64 (l.m : Int)) := by rw [hV]; exact q6
  have q1 : V.cell? ⟨w.heap.size, 1, none⟩ = some (.int .i64 (l.r : Int)) := by rw [hV]; exact q1
  rw [← hV] at HP
  refine wp_region_still_tail 15 (by kernel_rfl) (by kernel_rfl) ?_
  simp only [List.take_succ_cons, List.take_zero, List.drop_succ_cons, List.drop_zero]
  change wpStill _ _ (w.alloc (.cells #[.string l.wd, .int .i64 (l.r : Int), .int .i64 (l.s : Int), .string l.pa, .string l.tx, .int .i64 (l.n : Int), .int .i64 (l.m : Int)] 67)).drew (fun a' => wpList _ _ _ _ a' (w.alloc (.cells #[.string l.wd, .int .i64 (l.r : Int), .int .i64 (l.s : Int), .string l.pa, .string l.tx, .int .i64 (l.n : Int), .int .i64 (l.m : Int)] 67)).drew) _ _
  rw [← hV]
  clear hV
  repeat still_step
  still_call (HC.out _)
  refine wpStill_nil ?_
  go_wp2_with (first
    | (go_at_call 68; refine HP.out.mono ?_; rintro e w1 ⟨rfl, H1⟩)
    | go_in)
  go_end0
  exact ⟨rfl, H1.out⟩
end Go.Proofs.YtapiedeekbfpnaaGreatDoor

/- A machine comes to an end: each deed burns, or ends it. -/
namespace Go.Proofs.YtapiedeekbfpnaaGreatDoor
open Go.RowKit Go.Shelf

/-- There is less fuel, or it has ended; never more fuel, and as many registers. -/
def Goes (m m' : Mc) : Prop := (m'.fuel < m.fuel ∨ m'.ended = true) ∧ m'.fuel ≤ m.fuel ∧ m'.tx.length = m.tx.length ∧ m'.mp = m.mp ∧ m'.fv = m.fv
theorem burn_goes (m : Mc) (b : Nat) : Goes m (burnM m b).1 := by
  unfold burnM
  split
  · exact ⟨.inr rfl, Nat.zero_le _, rfl, rfl, rfl⟩
  · refine ⟨.inl ?_, ?_, rfl, rfl, rfl⟩
    · show m.fuel - (1 + b / 16) < m.fuel
      omega
    · show m.fuel - (1 + b / 16) ≤ m.fuel
      omega
theorem end_goes (m : Mc) (c : Nat) : Goes m (endM m c) := by
  unfold endM
  have h := burn_goes m 0
  split
  · exact ⟨.inr rfl, h.2.1, h.2.2.1, h.2.2.2.1, h.2.2.2.2⟩
  · exact h
theorem put_goes (m : Mc) (r : Nat) (t : ByteArray) : Goes m (putM m r t) := by
  unfold putM
  have h := burn_goes m t.size
  split
  · exact end_goes m 102
  · split
    · refine ⟨h.1, h.2.1, ?_, h.2.2.2.1, h.2.2.2.2⟩
      show ((burnM m t.size).1.tx.set r t).length = _
      rw [List.length_set]
      exact h.2.2.1
    · exact h
theorem go_goes (m : Mc) (b : Bool) (n : Nat) : Goes m (goM m b n) := by
  unfold goM
  have h := burn_goes m 0
  split
  · exact ⟨h.1, h.2.1, h.2.2.1, h.2.2.2.1, h.2.2.2.2⟩
  · exact h
theorem mk_goes (m : Mc) (L : List Fl) (f : Fl) : Goes m (mkM m L f) := by
  unfold mkM
  split
  · exact burn_goes m _
  · exact end_goes m 103
end Go.Proofs.YtapiedeekbfpnaaGreatDoor

/- Arrays of numbers, as they lie in blocks. -/
namespace Go.Proofs.YtapiedeekbfpnaaGreatDoor
open Go.RowKit

/-- An array of these numbers. -/
def nums (l : List Int) : List Value := l.map (Value.int .u32)
def arr (l : List Int) : Value := .agg (nums l).toArray
/-- It lies whole in block b, which is of type T. -/
def ArrAt (w : World) (b : Nat) (T : TypeId) (l : List Int) : Prop := w.heap[b]? = some (.cells (nums l).toArray T (0, 0))

theorem ArrAt.set {w : World} {b : Nat} {T : TypeId} {l : List Int} (h : ArrAt w b T l) (k : Nat) (v : Int) : ArrAt (w.setCell ⟨b, k, none⟩ (.int .u32 v)) b T (l.set k v) := by
  have := heap_setCell_same w b k _ T (.int .u32 v) h
  unfold ArrAt nums at *
  rw [this]
  congr 2
  apply Array.toList_inj.1
  simp [List.map_set]
theorem ArrAt.other {w : World} {b b' : Nat} {T : TypeId} {l : List Int} (h : ArrAt w b T l) (k : Nat) (v : Value) (hb : b ≠ b') : ArrAt (w.setCell ⟨b', k, none⟩ v) b T l := by
  unfold ArrAt at *
  rw [Below.heap_setCell w ⟨b', k, none⟩ v b hb]
  exact h
theorem ArrAt.cell {w : World} {b : Nat} {T : TypeId} {l : List Int} (h : ArrAt w b T l) (k : Nat) (hk : k < l.length) : w.cell? ⟨b, k, none⟩ = some (.int .u32 l[k]) := by
  rw [Lib.cell_of_heap h]
  simp [nums, hk]
theorem ArrAt.fro {w : World} {b : Nat} {T : TypeId} {l : List Int} (h : ArrAt w b T l) (k : Nat) : w.frozen? ⟨b, k, none⟩ = false := Lib.frozen_of_heap h k
theorem ArrAt.up {B : Nat} {w w' : World} {b : Nat} {T : TypeId} {l : List Int} (h : ArrAt w b T l) (hb : Below B w w') (hB : b < B) : ArrAt w' b T l := (hb.block b hB).trans h
theorem ArrAt.new (w : World) (T : TypeId) (l : List Int) : ArrAt (w.alloc (.cells (nums l).toArray T)) w.heap.size T l := heap_alloc_new w _

theorem take_set (l : List Int) (k : Nat) (v : Int) (hk : k < l.length) : (l.set k v).take (k + 1) = l.take k ++ [v] := by
  rw [List.take_succ_eq_append_getElem (by simpa using hk), List.getElem_set_self, List.take_set]
  congr 1
  exact List.set_eq_of_length_le (by rw [List.length_take]; omega)
theorem get_take (l m : List Int) (k j : Nat) (h : l.take k = m) (hj : j < k) (hl : j < l.length) : l[j] = m.getD j 0 := by
  rw [← h, List.getD, List.getElem?_take, if_pos hj, List.getElem?_eq_getElem hl]
  rfl

theorem nums_len (l : List Int) : (nums l).length = l.length := by simp [nums]
theorem ArrAt.range {w : World} {b : Nat} {T : TypeId} {l : List Int} (h : ArrAt w b T l) : w.rangeAt b 0 (nums l) := fun j v hv => by
  rw [Nat.zero_add, Lib.cell_of_heap h]
  simpa using hv
theorem ArrAt.there {w : World} {b : Nat} {T : TypeId} {l : List Int} (h : ArrAt w b T l) (n : Nat) (hn : n = l.length) : w.there b 0 n := fun j hj => by
  subst hn
  rw [Nat.zero_add]
  exact ⟨by rw [h.cell j hj]; rfl, h.fro j⟩
theorem nums_one (l : List Int) : (nums l).toArray.all (·.oneCell') = true := all_oneCell_toArray fun v hv => by
  obtain ⟨n, _, rfl⟩ := List.mem_map.1 hv
  rfl
theorem results_one {fn : Func} {p : Tmp} {ty : TypeId} {P : Program} {b : Nat} {v : Value} (h : fn.results = #[.cell p ty]) (tmps : Array Value) (w : World) (hp : tmps.getD p undef = .pointer (some ⟨b, 0, none⟩)) (hl : (loadVar ty ⟨b, 0, none⟩).run P w = .ok v w) : (results fn tmps).run P w = .ok v w := by
  have hp2 : tmps[p]?.getD undef = .pointer (some ⟨b, 0, none⟩) := by simpa using hp
  simp [results, h, hp2, hl, asAddr]
theorem below_setCells {B b : Nat} (hb : B ≤ b) : ∀ (vs : List Value) (o : Nat) {w w' : World}, Below B w w' → Below B w (w'.setCells b o vs)
  | [], _, _, _, h => h
  | v :: vs, o, _, _, h => below_setCells hb vs (o + 1) (h.setCell (p := ⟨b, o, none⟩) hb v)
theorem wpList_store_any {P : Program} {ops : Array Oper} {rest : List Oper} {op : Oper} {a : Act} {w : World} {Q : Exit → Act → World → Prop} (hgd : op.guard = none) (ty : TypeId) (x y : Operand) (ho : op.op = .store ty x y)
    (b o : Nat) (cells : Array Value) (hx : a.eval x = .pointer (some ⟨b, o, none⟩)) (hy : a.eval y = .agg cells)
    (ht : w.there b o cells.size) (hi : (P.info? ty).map (·.size) = some cells.size) (h1 : cells.all (·.oneCell') = true) (F : World → Prop) (hF : F (w.setCells b o cells.toList))
    (h : ∀ W, F W → wpList P ops Q rest (a.put op.dst undef) W) : wpList P ops Q (op :: rest) a w :=
  wpList_store_mid hgd ty x y ho b o cells hx hy ht hi h1 (h _ hF)
end Go.Proofs.YtapiedeekbfpnaaGreatDoor

/- The digest's own sum: what each step of it does. -/
namespace Go.Proofs.YtapiedeekbfpnaaGreatDoor
open Go.RowKit

def rotR (x : Int) (n : Nat) : Int := bits .or .u32 (IntKind.u32.wrap (x * 2 ^ (32 - n))) (x / 2 ^ n)

theorem rot_and : ∀ n : Nat, n < 32 → 1 ≤ n → bits .and .u64 (IntKind.u64.wrap (-(n : Int))) 31 = ((32 - n : Nat) : Int) := by decide

set_option maxHeartbeats 1000000 in
theorem rl_any (x : Int) (n : Nat) (w : World) (h1 : 1 ≤ n) (h2 : n ≤ 31) :
    Calls Tryz.prog 163 #[.int .u32 x, .int .i64 (-(n : Int))] w fun e w' => e = .returned (.int .u32 (rotR x n)) ∧ w' = w := by
  have hb := rot_and n (by omega) h1
  obtain ⟨m, hm⟩ : ∃ m, m = 32 - n := ⟨_, rfl⟩
  rw [← hm] at hb
  have hs1 : Op.shift .shl .u32 x .u64 (m : Int) = pure (.int .u32 (IntKind.u32.wrap (x * 2 ^ m))) := by
    rw [shift_shl _ _ _ _ (by omega) (by show (m : Int) ≤ 32; omega)]
    rfl
  have hs2 : Op.shift .shr .u32 x .u64 (n : Int) = pure (.int .u32 (x / 2 ^ n)) := by
    rw [shift_shr _ _ _ _ (by omega) (by show (n : Int) ≤ 32; omega)]
    rfl
  have hw : IntKind.u64.wrap (32 - (m : Int)) = n := by rw [IntKind.wrap_u64]; omega
  have HR : Hid (rotR x n = bits .or .u32 (IntKind.u32.wrap (x * 2 ^ m)) (x / 2 ^ n)) := by show _ = _; unfold rotR; rw [hm]
  clear hm h1 h2
  go_enter Tryz.func163, Tryz.ntmps163
  go_wp2
  go_ret
  exact ⟨by rw [HR.out]; rfl, rfl⟩

set_option maxHeartbeats 1000000 in
theorem turned_any (x : Int) (n : Nat) (w : World) (h1 : 1 ≤ n) (h2 : n ≤ 31) :
    Calls Tryz.prog 139 #[.int .u32 x, .int .i64 n] w fun e w' => e = .returned (.int .u32 (rotR x n)) ∧ w' = w := by
  have hw : IntKind.i64.wrap (-(n : Int)) = -(n : Int) := by rw [IntKind.wrap_i64]; omega
  go_enter Tryz.func139, Tryz.ntmps139
  go_wp2_with fail
  refine (rl_any x n w h1 h2).mono ?_
  rintro e w1 ⟨rfl, rfl⟩
  go_wp2
  go_ret
  exact ⟨rfl, rfl⟩

theorem below8 {B b : Nat} {w w' : World} (h : Below B w w') (hb : B ≤ b) (v0 v1 v2 v3 v4 v5 v6 v7 : Value) : Below B w ((((((((w'.setCell ⟨b, 0, none⟩ v0).setCell ⟨b, 1, none⟩ v1).setCell ⟨b, 2, none⟩ v2).setCell ⟨b, 3, none⟩ v3).setCell ⟨b, 4, none⟩ v4).setCell ⟨b, 5, none⟩ v5).setCell ⟨b, 6, none⟩ v6).setCell ⟨b, 7, none⟩ v7) :=
  (((((((h.setCell (p := ⟨b, 0, none⟩) hb _).setCell (p := ⟨b, 1, none⟩) hb _).setCell (p := ⟨b, 2, none⟩) hb _).setCell (p := ⟨b, 3, none⟩) hb _).setCell (p := ⟨b, 4, none⟩) hb _).setCell (p := ⟨b, 5, none⟩) hb _).setCell (p := ⟨b, 6, none⟩) hb _).setCell (p := ⟨b, 7, none⟩) hb _
theorem eight {l : List Int} (h : l.length = 8) : ∃ a0 a1 a2 a3 a4 a5 a6 a7, l = [a0, a1, a2, a3, a4, a5, a6, a7] := by
  match l, h with
  | [a0, a1, a2, a3, a4, a5, a6, a7], _ => exact ⟨a0, a1, a2, a3, a4, a5, a6, a7, rfl⟩

/-- The numbers of a variable of the program lie where they were laid. -/
def LaidAt (g : Nat) (w : World) (l : List Int) : Prop := ∀ j (hj : j < l.length), w.cell? ⟨g, j, none⟩ = some (.int .u32 l[j])
theorem LaidAt.up {g B : Nat} {w w' : World} {l : List Int} (h : LaidAt g w l) (hb : Below B w w') (hB : g < B) : LaidAt g w' l := fun j hj => (hb.cell (p := ⟨g, j, none⟩) hB).trans (h j hj)

set_option maxHeartbeats 4000000 in
set_option maxRecDepth 100000 in
theorem newState_any (w : World) (sq : List Int) (hl : sq.length = 8) (hg : LaidAt 0 w sq) :
    Calls Tryz.prog 119 #[] w fun e w' => e = .returned (arr sq) ∧ Below w.heap.size w w' := by
  have hz : 0 < w.heap.size := World.block_lt_of_cell? w ⟨0, 0, none⟩ (hg 0 (by omega))
  have HG : Hid _ := hg
  clear hg
  go_enter Tryz.func119, Tryz.ntmps119
  go_wp2
  go_loopw [3] (fun i wr => ∃ (k : Nat) (l : List Int), k ≤ 8 ∧ i = .int .i64 k ∧ l.length = 8 ∧ (∀ j (hj : j < sq.length) (hj' : j < l.length), j < k → l[j] = sq[j]) ∧ ArrAt wr (w.heap.size + 1) 127 l ∧ ArrAt wr w.heap.size 127 [0, 0, 0, 0, 0, 0, 0, 0] ∧ Below w.heap.size w wr) (fun i _ => 8 - (intOf i).toNat)
  case atStart =>
    refine ⟨0, [0, 0, 0, 0, 0, 0, 0, 0], by omega, rfl, rfl, by omega, ?_, ?_, ((Below.refl _ _).alloc (Nat.le_refl _) _).alloc (by simp) _⟩
    · have := ArrAt.new (w.alloc (.cells #[.int .u32 0, .int .u32 0, .int .u32 0, .int .u32 0, .int .u32 0, .int .u32 0, .int .u32 0, .int .u32 0] 127)) 127 [0, 0, 0, 0, 0, 0, 0, 0]
      rw [World.size_alloc] at this
      exact this
    · exact (ArrAt.new w 127 [0, 0, 0, 0, 0, 0, 0, 0]).up ((Below.refl (w.heap.size + 1) _).alloc (by simp) _) (Nat.lt_succ_self _)
  case round =>
    obtain ⟨k, l, hk, rfl, hll, hlo, hA, hR, hb⟩ := hrel
    have HLO : Hid _ := hlo
    have HA : Hid (ArrAt wr (w.heap.size + 1) 127 l) := hA
    have HR : Hid (ArrAt wr w.heap.size 127 [0, 0, 0, 0, 0, 0, 0, 0]) := hR
    have HB : Hid (Below w.heap.size w wr) := hb
    clear hlo hA hR hb
    by_cases hlt : k < 8
    · have c0 := LaidAt.up HG.out HB.out hz k (by omega)
      have c1 := HA.out.cell k (by omega)
      have c2 := HA.out.fro k
      have i2 : (k : Int) < 8 := by omega
      go_wp2
      refine ⟨⟨k + 1, l.set k sq[k], by omega, by go_num, by simpa using hll, fun j hj hj' hjk => ?_, HA.out.set k _, HR.out.other k _ (by omega), HB.out.setCell (p := ⟨w.heap.size + 1, k, none⟩) (Nat.le_succ _) _⟩, by simp [intOf]; omega⟩
      rw [List.getElem_set]
      by_cases h : k = j
      · subst h; simp
      · rw [if_neg h]
        exact HLO.out j hj (by simpa using hj') (by omega)
    · obtain rfl : k = 8 := by omega
      obtain rfl : l = sq := List.ext_getElem (by omega) fun j h1 h2 => HLO.out j h2 h1 (by omega)
      obtain ⟨a0, a1, a2, a3, a4, a5, a6, a7, rfl⟩ := eight hl
      have c0 := HA.out.cell 0 (by simp)
      have c1 := HA.out.cell 1 (by simp)
      have c2 := HA.out.cell 2 (by simp)
      have c3 := HA.out.cell 3 (by simp)
      have c4 := HA.out.cell 4 (by simp)
      have c5 := HA.out.cell 5 (by simp)
      have c6 := HA.out.cell 6 (by simp)
      have c7 := HA.out.cell 7 (by simp)
      have z0 := HR.out.cell 0 (by decide)
      have f0 := HR.out.fro 0
      have z1 := HR.out.cell 1 (by decide)
      have f1 := HR.out.fro 1
      have z2 := HR.out.cell 2 (by decide)
      have f2 := HR.out.fro 2
      have z3 := HR.out.cell 3 (by decide)
      have f3 := HR.out.fro 3
      have z4 := HR.out.cell 4 (by decide)
      have f4 := HR.out.fro 4
      have z5 := HR.out.cell 5 (by decide)
      have f5 := HR.out.fro 5
      have z6 := HR.out.cell 6 (by decide)
      have f6 := HR.out.fro 6
      have z7 := HR.out.cell 7 (by decide)
      have f7 := HR.out.fro 7
      simp only [List.getElem_cons_zero, List.getElem_cons_succ] at c0 c1 c2 c3 c4 c5 c6 c7 z0 z1 z2 z3 z4 z5 z6 z7
      go_wp2
      refine bodyPost_ret (v := arr [a0, a1, a2, a3, a4, a5, a6, a7]) (by simp [results, Tryz.results119, go_sem, z0, z1, z2, z3, z4, z5, z6, z7, arr, nums]) rfl ⟨rfl, below8 HB.out (Nat.le_refl _) _ _ _ _ _ _ _ _⟩
end Go.Proofs.YtapiedeekbfpnaaGreatDoor
