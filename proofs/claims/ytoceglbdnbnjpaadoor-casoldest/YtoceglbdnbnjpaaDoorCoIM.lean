/- CasOldest, walked. -/
import Derived.Test.YtoceglbdnbnjpaaDoorCoHM
import Derived.Test.YtoceglbdnbnjpaaDoorCsChM
import Derived.Laws.IdiomStrings
namespace Go.Proofs.YtoceglbdnbnjpaaDoor
open Go.RowKit Go.Shelf Go.Maps Go.WideMaps

attribute [local go_sem ↓] appG_eq
/-- The digests so far. -/
def dgV (size j : Nat) : List Value := (List.range j).map fun i => .string (smB (repB size i))
theorem dgV_len (size j : Nat) : (dgV size j).length = j := by unfold dgV; simp
theorem dgV_next (size j : Nat) : dgV size (j + 1) = dgV size j ++ [.string (smB (repB size j))] := by
  unfold dgV
  rw [List.range_succ, List.map_append]
  rfl
theorem dgV_get (size j i : Nat) (h : i < j) : (dgV size j)[i]? = some (.string (smB (repB size i))) := by
  unfold dgV
  rw [List.getElem?_map, List.getElem?_range h]
  rfl
structure OlW (w0 wr : World) (B P M rm size j : Nat) (v : Value) : Prop where
  st : OSt B P M rm size w0 j wr
  row : wr.ownsRow w0.heap.size 9 1 v j (dgV size j)
  ok : j = 0 ∨ size ≤ rm
/-- Bytes under way. -/
structure Fil (w wr : World) (b size j k : Nat) : Prop where
  be : Below w.heap.size w wr
  bl : ∃ cur : Array Value, wr.heap[b]? = some (.cells cur 5 (0, 0)) ∧ cur.size = size ∧ ∀ i, i < k → cur[i]? = some (.int .u8 (j : Int))
theorem Fil.set {w wr : World} {b size j k : Nat} (h : Fil w wr b size j k) (hb : w.heap.size ≤ b) (hk : k < size) : Fil w (wr.setCell ⟨b, k, none⟩ (.int .u8 (j : Int))) b size j (k + 1) := by
  obtain ⟨cur, h1, h2, h3⟩ := h.bl
  refine ⟨h.be.setCell (p := ⟨b, k, none⟩) hb _, _, Go.Joins.block_setCell h1 _, by simpa using h2, fun i hi => ?_⟩
  rw [Array.getElem?_setIfInBounds]
  by_cases e : k = i
  · subst e
    rw [if_pos rfl, if_pos (by omega)]
  · rw [if_neg e]
    exact h3 i (by omega)
theorem Fil.text {w wr : World} {b size j : Nat} (h : Fil w wr b size j size) (hj : j < 256) : (convert 56 9 (.slice (some ⟨b, 0, none⟩) size size)).run Tryd.prog wr = .ok (.string (repB size j)) wr := by
  obtain ⟨cur, h1, h2, h3⟩ := h.bl
  have := run_convert_bytes_back (P := Tryd.prog) wr 56 9 5 ⟨b, 0, none⟩ size (List.replicate size (UInt8.ofNat j)) Tryd.underlying56 Tryd.underlying5 Tryd.underlying9 (fun i hi => by
    rw [List.length_replicate] at hi
    rw [addr_add, Nat.zero_add, Lib.cell_of_heap h1, h3 i hi, List.getElem_replicate]
    have : (UInt8.ofNat j).toNat = j := by simp [UInt8.toNat_ofNat']; omega
    rw [this])
  rw [List.length_replicate] at this
  exact this

theorem row_obj {w : World} {B : Nat} {v : Value} {n : Nat} {xs : List Value} (h : w.ownsRow B 9 1 v n xs) {g : Nat} (hg : v.ownBlock = some g) : ∃ cur, w.heap[g]? = some (.cells cur 9 (0, 0)) := by
  rcases h.2 with ⟨e, _⟩ | ⟨g', c', cur, e, _, hc, _⟩
  · rw [e] at hg; cases hg
  · rw [e] at hg
    have : g' = g := by simpa [Value.ownBlock] using hg
    subst this
    exact ⟨cur, hc⟩
theorem OSt.others {B P M rm size : Nat} {w0 : World} {j : Nat} {w w' : World} {v : Value} {n : Nat} {xs : List Value} (h : OSt B P M rm size w0 j w) (hr : w.ownsRow w0.heap.size 9 1 v n xs) (ho : w'.os = w.os) (ht : w'.tape = w.tape) (hp : w'.output = w.output) (hs : w.heap.size ≤ w'.heap.size) (hk : ∀ g, g < w.heap.size → v.ownBlock ≠ some g → w'.heap[g]? = w.heap[g]?) : OSt B P M rm size w0 j w' := by
  obtain ⟨E, I, h1, h2⟩ := h.st
  refine ⟨⟨E, I, h1.keep fun g hg => hk g (h1.lt g hg).2 fun q => ?_, h2⟩, ⟨ho.trans h.be.os, ht.trans h.be.tape, hp.trans h.be.output, Nat.le_trans h.be.size hs, fun g hg => ?_⟩, h.lo, Nat.le_trans h.hi hs⟩
  · obtain ⟨cur, hc⟩ := row_obj hr q
    exact h1.not_in hc rfl hg
  · have := h.be.size
    exact (hk g (by omega) fun q => by have := (hr.lt g q).1; omega).trans (h.be.block g hg)
/-- A digest more. -/
theorem OlW.app {w0 w : World} {B P M rm size j : Nat} {v : Value} (hst : OSt B P M rm size w0 (j + 1) w) (hrow : w.ownsRow w0.heap.size 9 1 v j (dgV size j)) (hr : size ≤ rm) (hj : j < 30) :
    ∃ g cap w5, (appG #[30, 30] 30 #[v, .slice (some ⟨w.heap.size, 0, none⟩) 1 1]).run Tryd.prog (w.alloc (.cells #[.string (smB (repB size j))] 9)) = .ok (.slice (some ⟨g, 0, none⟩) (j + 1) cap) w5 ∧ OlW w0 w5 B P M rm size (j + 1) (.slice (some ⟨g, 0, none⟩) (j + 1) cap) := by
  obtain ⟨j0, hi', hy0, hy1, hy2⟩ := info_p infS
  obtain ⟨W, hW⟩ : ∃ W, W = w.alloc (.cells #[.string (smB (repB size j))] 9) := ⟨_, rfl⟩
  have hnew : W.heap[w.heap.size]? = some (.cells #[.string (smB (repB size j))] 9 (0, 0)) := by rw [hW]; exact heap_alloc_new w _
  have hbW : Below w.heap.size w W := by rw [hW]; exact (Below.refl _ w).alloc (Nat.le_refl _) _
  have hsz : W.heap.size = w.heap.size + 1 := by rw [hW]; exact World.size_alloc _ _
  have hrW : W.ownsRow w0.heap.size 9 1 v j (dgV size j) := by rw [hW]; exact hrow.alloc _
  have hb0 := hst.be.size
  obtain ⟨g, cap, w5, a1, a2, a3, a4, _⟩ := run_append_lies (P := Tryd.prog) W 30 30 w0.heap.size 9 j0 (.string ⟨#[]⟩) 1 16 Tryd.underlying30 hi' hy0 hy1 hy2 rfl (by decide) v j (dgV size j) hrW ⟨w.heap.size, 0, none⟩ 1 1 [.string (smB (repB size j))] rfl (fun i u hu => by rw [addr_add, Nat.zero_add, Lib.cell_of_heap hnew]; simpa using hu) (fun u hu => by simp at hu; subst hu; rfl) (by decide) (by unfold maxLen; omega) (by omega) (by omega) W.heap.size rfl
  rw [← dgV_next] at a2
  refine ⟨g, cap, w5, by rw [← hW]; exact a1, ⟨hst.others hrow (a3.os.trans hbW.os) (a3.tape.trans hbW.tape) (a3.output.trans hbW.output) (by have := a3.size; omega) fun q hq hn => (a3.block q (by omega) (fun e => hn e.symm)).trans (hbW.block q hq), a2, .inr hr⟩⟩

set_option maxHeartbeats 8000000 in
set_option maxRecDepth 100000 in
theorem oldest_out (r c1 c2 : Int) (w : World) (hr : r < 0 ∨ 9007199254740991 < r) (hR : Roots w) :
    Calls Tryd.prog 5 #[.int .i64 r, .int .i64 c1, .int .i64 c2] w fun e w' => e = .returned (.bool true) ∧ Below w.heap.size w w' := by
  have HB : Hid (Calls Tryd.prog 6 #[] w fun e w' => e = .returned (.bool true) ∧ Below w.heap.size w w') := casBegun_any w hR
  have HN : Hid (∀ W, Calls Tryd.prog 7 #[.int .i64 r] W fun e w' => e = .returned (.tuple #[.pointer none, .int .i64 3]) ∧ w' = W) := fun W => New_no r W hr
  clear hr hR
  go_enter Tryd.func5, Tryd.ntmps5
  go_wp2_with (first
    | (go_at_call 6; refine HB.out.mono ?_; rintro e w1 ⟨rfl, hb1⟩)
    | (go_at_call 7; refine (HN.out _).mono ?_; rintro e w2 ⟨rfl, rfl⟩)
    | go_in)
  go_ret
  exact ⟨rfl, hb1⟩

set_option maxHeartbeats 8000000 in
set_option maxRecDepth 100000 in
theorem oldest_in (rm : Nat) (c1 c2 : Int) (w : World) (hr : rm ≤ 9007199254740991) (h1 : -9223372036854775808 ≤ c1 ∧ c1 ≤ 9223372036854775807) (h2 : -9223372036854775808 ≤ c2 ∧ c2 ≤ 9223372036854775807) (hR : Roots w) :
    Calls Tryd.prog 5 #[.int .i64 (rm : Int), .int .i64 c1, .int .i64 c2] w fun e w' => e = .returned (.bool true) ∧ Below w.heap.size w w' := by
  obtain ⟨i0, hi, hz0, hz1, hz2⟩ := info_p infB
  obtain ⟨j0, hi', hy0, hy1, hy2⟩ := info_p infS
  have HB : Hid (Calls Tryd.prog 6 #[] w fun e w' => e = .returned (.bool true) ∧ Below w.heap.size w w') := casBegun_any w hR
  have HN : Hid (∀ W, Calls Tryd.prog 7 #[.int .i64 (rm : Int)] W (NwP rm W)) := fun W => New_yes rm W hr
  have hpn : ∀ (P : Nat) (W : World), (binOp BinOp.eql 24 (kp P) (.pointer none)).run Tryd.prog W = .ok (.bool false) W := fun P W => by kernel_rfl
  obtain ⟨sz, hsz⟩ : ∃ sz, sz = chs c1 60 := ⟨_, rfl⟩
  obtain ⟨many, hmany⟩ : ∃ many, many = chs c2 30 := ⟨_, rfl⟩
  have hs60 : sz < 60 := by rw [hsz]; exact chs_lt c1 (by decide)
  have hm30 : many < 30 := by rw [hmany]; exact chs_lt c2 (by decide)
  have HC1 : Hid (∀ W, Calls Tryd.prog 9 #[.int .i64 c1, .int .i64 60] W fun e w' => e = .returned (.int .i64 (sz : Int)) ∧ w' = W) := fun W => by rw [hsz]; exact choose_any c1 60 W h1.1 h1.2 (by decide)
  have HC2 : Hid (∀ W, Calls Tryd.prog 9 #[.int .i64 c2, .int .i64 30] W fun e w' => e = .returned (.int .i64 (many : Int)) ∧ w' = W) := fun W => by rw [hmany]; exact choose_any c2 30 W h2.1 h2.2 (by decide)
  obtain ⟨size, hsize⟩ : ∃ size, size = 1 + sz := ⟨_, rfl⟩
  have s1 : (1 : Int) + (sz : Int) = (size : Int) := by omega
  have s2 : IntKind.i64.wrap (size : Int) = (size : Int) := by rw [IntKind.wrap_i64]; omega
  have HSZ : Hid (1 ≤ size ∧ size ≤ 60 ∧ many < 30) := ⟨by omega, by omega, hm30⟩
  have hszi : (size : Int) ≤ 60 := by omega
  have HR : Hid (Roots w) := hR
  clear hsz hmany hsize h1 h2 hR
  go_enter Tryd.func5, Tryd.ntmps5
  go_wp2_with fail
  refine HB.out.mono ?_
  rintro e w1 ⟨rfl, hb1⟩
  have HB1 : Hid (Below w.heap.size w w1) := hb1
  clear hb1
  go_wp2_with fail
  refine (HN.out _).mono ?_
  rintro e w2 ⟨P, M, I, rfl, hc2, hb2⟩
  have HO : Hid (OlW w w2 w1.heap.size P M rm size 0 (.slice none 0 0)) := ⟨⟨⟨[], I, hc2, ⟨by simp, fun e he => by cases he⟩⟩, HB1.out.trans (hb2.mono HB1.out.size), HB1.out.size, hb2.size⟩, World.ownsRow_nil _ _ _ _, .inl rfl⟩
  clear hc2 hb2 HN HB
  go_wp2_with fail
  refine (HC1.out _).mono ?_
  rintro e w3 ⟨rfl, rfl⟩
  go_wp2_with fail
  refine (HC2.out _).mono ?_
  rintro e w3 ⟨rfl, rfl⟩
  go_wp2
  clear HC1 HC2 s1 s2 hpn
  go_loopw [9, 10] (fun lv i wr => ∃ j : Nat, j ≤ many ∧ i = .int .i64 (j : Int) ∧ Hid (OlW w wr w1.heap.size P M rm size j lv)) (fun _ i _ => many - (intOf i).toNat)
  case atStart => exact ⟨0, Nat.zero_le _, rfl, HO⟩
  case round =>
    obtain ⟨j, hj, rfl, HS⟩ := hrel
    clear HO
    by_cases hlt : j < many
    · have hji : (j : Int) < (many : Int) := by omega
      obtain ⟨wo, hwo⟩ : ∃ wo, wo = wr := ⟨_, rfl⟩
      have hmk : (Instr.makeSlice 56 (.int .i64 (size : Int)) (.int .i64 (size : Int))).run Tryd.prog wr = .ok (.slice (some ⟨wr.heap.size, 0, none⟩) size size) (wr.alloc (.cells (madeCells #[.int .u8 0] size) 5)) := by
        have hq := HSZ.out
        have := run_make (P := Tryd.prog) wr 56 5 i0 (.int .u8 0) Tryd.underlying56 hi hz0 .i64 .i64 (size : Int) (size : Int) (by omega) (Int.le_refl _) (by rw [hz2]; omega) (by omega)
        rw [hz1] at this
        simp only [Int.toNat_natCast, Nat.mul_one] at this
        exact this
      have HF0 : Hid (Fil wo (wr.alloc (.cells (madeCells #[.int .u8 0] size) 5)) wo.heap.size size j 0) := by
        rw [hwo]
        exact ⟨(Below.refl _ wr).alloc (Nat.le_refl _) _, _, heap_alloc_new wr _, by simp [madeCells], fun i hi => absurd hi (Nat.not_lt_zero i)⟩
      have u8j : IntKind.u8.wrap (j : Int) = (j : Int) := by
        have hq := HSZ.out
        rw [IntKind.wrap_u8]; omega
      have HS2 : Hid (OlW w wo w1.heap.size P M rm size j u9) := by rw [hwo]; exact HS
      have HJ : Hid (j < many ∧ many < 30) := ⟨hlt, HSZ.out.2.2⟩
      clear HS hlt
      go_wp2
      rw [← hwo]
      rw [← hwo] at HF0
      clear hwo hmk
      go_loopw [12] (fun k wi => ∃ q : Nat, q ≤ size ∧ k = .int .i64 (q : Int) ∧ Hid (Fil wo wi wo.heap.size size j q)) (fun k _ => size - (intOf k).toNat)
      case atStart => exact ⟨0, Nat.zero_le _, rfl, HF0⟩
      case round =>
        obtain ⟨q, hq, rfl, HF⟩ := hrel
        clear HF0
        by_cases hlq : q < size
        · have hqi : (q : Int) < (size : Int) := by omega
          obtain ⟨cur, f1, f2, f3⟩ := HF.out.bl
          have cz : wr.cell? ⟨wo.heap.size, q, none⟩ = some (cur.getD q default) := by
            rw [Lib.cell_of_heap f1, Array.getElem?_eq_getElem (by omega)]
            simp [show q < cur.size by omega]
          have fz : wr.frozen? ⟨wo.heap.size, q, none⟩ = false := Lib.frozen_of_heap f1 q
          have HF2 : Hid (Fil wo (wr.setCell ⟨wo.heap.size, q, none⟩ (.int .u8 (j : Int))) wo.heap.size size j (q + 1)) := HF.out.set (Nat.le_refl _) hlq
          obtain ⟨y, hy⟩ : ∃ y, y = q + 1 := ⟨_, rfl⟩
          rw [← hy] at HF2
          have y1 : (q : Int) + 1 = (y : Int) := by omega
          have y2 : IntKind.i64.wrap (y : Int) = (y : Int) := by rw [IntKind.wrap_i64]; omega
          have HY : Hid (y ≤ size ∧ y = q + 1) := ⟨by omega, hy⟩
          clear f1 f2 f3 HF hlq hy hq
          go_wp2
          obtain ⟨z1, z2⟩ := HY.out
          refine ⟨⟨y, z1, rfl, HF2⟩, ?_⟩
          simp [RowKit.intOf]
          omega
        · have hqs : size = q := by omega
          subst hqs
          have htx := HF.out.text (by have := HJ.out; omega)
          have hst := HS2.out.st.up HF.out.be
          have hrow : wr.ownsRow w.heap.size 9 1 u9 j (dgV size j) := own_heap HS2.out.row fun g hg => HF.out.be.block g (HS2.out.row.lt g hg).2
          have hok := HS2.out.ok
          by_cases hle : size ≤ rm
          · have hput := o_put hst HR.out HSZ.out.1 HSZ.out.2.1 (by have := HJ.out; omega) hle
            have HRow : Hid (∀ w4 : World, (∀ (g : Nat) (o : Obj), wr.heap[g]? = some o → NotS o = true → w4.heap[g]? = some o) → w4.ownsRow w.heap.size 9 1 u9 j (dgV size j)) := fun w4 hw4 => own_heap hrow fun g hg => by
              obtain ⟨cur, hc⟩ := row_obj hrow hg
              exact (hw4 g _ hc rfl).trans hc.symm
            have HLE : Hid (size ≤ rm) := hle
            obtain ⟨y, hy⟩ : ∃ y, y = j + 1 := ⟨_, rfl⟩
            have y1 : (j : Int) + 1 = (y : Int) := by omega
            have y2 : IntKind.i64.wrap (y : Int) = (y : Int) := by have := HJ.out; rw [IntKind.wrap_i64]; omega
            have HY : Hid (y = j + 1) := hy
            clear HF hst hrow hok hle hlq hq HS2 hy
            go_wp2_with fail
            refine hput.mono ?_
            rintro e w4 ⟨rfl, hk4, H4⟩
            obtain ⟨g, cap, w5, happ, h5⟩ := OlW.app H4.out (HRow.out w4 hk4) HLE.out (by have := HJ.out; omega)
            rw [← HY.out] at happ h5
            have H5 : Hid (OlW w w5 w1.heap.size P M rm size y (.slice (some ⟨g, 0, none⟩) y cap)) := h5
            clear hk4 H4 h5 hput htx
            generalize smB (repB size j) = d at *
            go_wp2
            refine ⟨⟨y, by have := HJ.out; have := HY.out; omega, rfl, H5⟩, ?_⟩
            have := HJ.out
            have := HY.out
            simp [RowKit.intOf]
            omega
          · have hj0 : j = 0 := by omega
            subst hj0
            have hput := o_no hst HR.out HSZ.out.2.1 0 (by omega)
            have k1 : (rm : Int) < (size : Int) := by omega
            clear HF hst hrow hok hle hlq hq HS2
            go_wp2_with fail
            refine hput.mono ?_
            rintro e w4 ⟨rfl, hb4⟩
            go_wp2
            go_ret
            exact ⟨rfl, hb4⟩
    · have hjm : many = j := by omega
      subst hjm
      have hii : ¬ (many : Int) < (many : Int) := by omega
      clear hlt hj
      go_wp2
      clear hii
      go_loopw [15] (fun i wi => ∃ q : Nat, q ≤ many ∧ i = .int .i64 (q : Int) ∧ Hid (OlW w wi w1.heap.size P M rm size many u9)) (fun i _ => many - (intOf i).toNat)
      case atStart => exact ⟨0, Nat.zero_le _, rfl, HS⟩
      case round =>
        clear HS
        obtain ⟨q, hq, rfl, HS⟩ := hrel
        by_cases hlq : q < many
        · have hqi : (q : Int) < (many : Int) := by omega
          have hle : size ≤ rm := by
            rcases HS.out.ok with h | h
            · omega
            · exact h
          obtain ⟨g, cap, hu9, hcq⟩ : ∃ g cap, u9 = .slice (some ⟨g, 0, none⟩) many cap ∧ wr.cell? ⟨g, q, none⟩ = some (.string (smB (repB size q))) := by
            rcases HS.out.row.2 with ⟨_, h0⟩ | ⟨g, c, cur, e, _⟩
            · omega
            · refine ⟨g, c, e, ?_⟩
              have := HS.out.row.cells (g := g) (by rw [e]; rfl) q _ (dgV_get size many q hlq)
              rwa [addr_add, Nat.zero_add] at this
          subst hu9
          obtain ⟨m1, hm1⟩ : ∃ m1, m1 = many - q := ⟨_, rfl⟩
          obtain ⟨pr, hpr⟩ : ∃ pr, pr = m1 * size := ⟨_, rfl⟩
          have hpl : pr ≤ 1800 := by
            have hz := HSZ.out
            rw [hpr]
            exact Nat.le_trans (Nat.mul_le_mul (show m1 ≤ 30 by omega) hz.2.1) (by decide)
          have p1 : (many : Int) - (q : Int) = (m1 : Int) := by omega
          have p2 : IntKind.i64.wrap (m1 : Int) = (m1 : Int) := by have hz := HSZ.out; rw [IntKind.wrap_i64]; omega
          have p3 : (m1 : Int) * (size : Int) = (pr : Int) := by rw [hpr]; push_cast; rfl
          have p4 : IntKind.i64.wrap (pr : Int) = (pr : Int) := by rw [IntKind.wrap_i64]; omega
          obtain ⟨y, hy⟩ : ∃ y, y = q + 1 := ⟨_, rfl⟩
          have y1 : (q : Int) + 1 = (y : Int) := by omega
          have y2 : IntKind.i64.wrap (y : Int) = (y : Int) := by have hz := HSZ.out; rw [IntKind.wrap_i64]; omega
          have HY : Hid (q < many ∧ y = q + 1) := ⟨hlq, hy⟩
          have hfind : ∀ b : Bool, b = decide (pr ≤ rm) → Calls Tryd.prog 21 #[kp P, .string (smB (repB size q))] wr fun r w' => ∃ s p : Int, r = .returned (.tuple #[.agg #[.bool b, .int .i64 s, .int .i64 p], .int .i64 0]) ∧ Below wr.heap.size wr w' := fun b hb => o_find HS.out.st HSZ.out.1 HSZ.out.2.1 (by have hz := HSZ.out; omega) q hlq b (by rw [hb, hpr, hm1])
          have HN : Hid (∀ W : World, Below wr.heap.size wr W → OlW w W w1.heap.size P M rm size many (.slice (some ⟨g, 0, none⟩) many cap)) := fun W hW => ⟨HS.out.st.up hW, own_heap HS.out.row fun g hg => hW.block g (HS.out.row.lt g hg).2, HS.out.ok⟩
          by_cases hb : pr ≤ rm
          · have k1 : (pr : Int) ≤ (rm : Int) := by omega
            have hf := hfind true (decide_eq_true hb).symm
            clear hfind hb hlq hq hle HS hm1 hpr hpl hy
            generalize smB (repB size q) = d at *
            go_wp2_with fail
            refine hf.mono ?_
            rintro e w4 ⟨s, p, rfl, hb4⟩
            have H5 : Hid (OlW w (w4.alloc (.cells #[.bool true, .int .i64 s, .int .i64 p] 47)) w1.heap.size P M rm size many (.slice (some ⟨g, 0, none⟩) many cap)) := HN.out _ (hb4.alloc hb4.size _)
            clear hf hb4 HN
            go_wp2
            obtain ⟨z1, z2⟩ := HY.out
            refine ⟨⟨y, by omega, rfl, H5⟩, ?_⟩
            simp [RowKit.intOf]
            omega
          · have k1 : ¬ (pr : Int) ≤ (rm : Int) := by omega
            have hf := hfind false (decide_eq_false hb).symm
            clear hfind hb hlq hq hle HS hm1 hpr hpl hy
            generalize smB (repB size q) = d at *
            go_wp2_with fail
            refine hf.mono ?_
            rintro e w4 ⟨s, p, rfl, hb4⟩
            have H5 : Hid (OlW w (w4.alloc (.cells #[.bool false, .int .i64 s, .int .i64 p] 47)) w1.heap.size P M rm size many (.slice (some ⟨g, 0, none⟩) many cap)) := HN.out _ (hb4.alloc hb4.size _)
            clear hf hb4 HN
            go_wp2
            obtain ⟨z1, z2⟩ := HY.out
            refine ⟨⟨y, by omega, rfl, H5⟩, ?_⟩
            simp [RowKit.intOf]
            omega
        · have hqm : many = q := by omega
          subst hqm
          have HBe : Hid (Below w.heap.size w wr) := HS.out.st.be
          clear hlq hq HS
          go_wp2
          go_ret
          exact ⟨rfl, HBe.out⟩
end Go.Proofs.YtoceglbdnbnjpaaDoor
