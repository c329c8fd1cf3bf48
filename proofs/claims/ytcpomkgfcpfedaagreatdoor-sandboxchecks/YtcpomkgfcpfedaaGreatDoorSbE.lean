/- A line is taken apart, part by part. -/
import Derived.Test.YtcpomkgfcpfedaaGreatDoorSbD
namespace Go.Proofs.YtcpomkgfcpfedaaGreatDoor
open Go.RowKit Go.Shelf Go.Maps Go.WideMaps

theorem frm_small : ∀ f ∈ frmL, 3 ≤ f.1.length ∧ 1 ≤ f.2.length ∧ f.2.length ≤ 3 := by decide
theorem frmF_small {x : List UInt8} {f : List Nat} (h : frmF x = some f) : 3 ≤ x.length ∧ 1 ≤ f.length ∧ f.length ≤ 3 := frm_small _ (lookup_mem x frmL h)
theorem cut_len (s : List UInt8) : (Lib.cut s [32]).1.length ≤ s.length := by
  unfold Lib.cut
  split
  · simp only [List.length_take]; omega
  · exact Nat.le_refl _
theorem wdN_size : ∀ (k : Nat) (s : List UInt8) (p : List UInt8), p ∈ wdN k s → p.length ≤ s.length := by
  intro k
  induction k with
  | zero => intro s p hp; obtain rfl := List.mem_singleton.1 hp; exact Nat.le_refl _
  | succ k ih =>
    intro s p hp
    unfold wdN Lib.splitK at hp
    split at hp
    · obtain rfl := List.mem_singleton.1 hp; exact Nat.le_refl _
    · rcases List.mem_cons.1 hp with rfl | hp
      · rw [List.length_take]; omega
      · have := ih _ p hp
        rw [List.length_drop] at this
        omega
theorem wdN_len (k : Nat) (s : List UInt8) : (wdN k s).length ≤ k + 1 := by
  have h1 : ∀ (k : Nat) (s : List UInt8), (Lib.splitK [32] 0 k s).length ≤ k + 1 := by
    intro k
    induction k with
    | zero => intro s; exact Nat.le_refl _
    | succ k ih =>
      intro s
      unfold Lib.splitK
      split
      · simp
      · have := ih (s.drop ((Lib.index s [32]).toNat + ([32] : List UInt8).length))
        simp only [List.length_cons] at *
        omega
  exact h1 k s

/-- How it stands when a line's words are parted. -/
structure Spl (w : World) (b bn bl bp lines : Nat) (f : List Nat) (ps : List (List UInt8)) (X : Nat) (w3 : World) : Prop where
  cells : ∀ j, j < ps.length → w3.cell? ⟨X, j, none⟩ = some (.string (bA (ps.getD j [])))
  r0 : w3.heap[w.heap.size]? = some (.cells #[.string ⟨#[]⟩, .int .i64 0, .int .i64 0, .string ⟨#[]⟩, .string ⟨#[]⟩, .int .i64 0, .int .i64 0] 43 (0, 0))
  row : w3.heap[b]? = some (.cells (f.map (cvP bn bl bp)).toArray 68 (0, 0))
  env : PrtE w3 bn bl bp lines
  mx : MaxIs w3
  bel : Below w.heap.size w w3
  sz : ∀ p ∈ ps, p.length ≤ 1000000
  lt : X < w3.heap.size ∧ w.heap.size < w3.heap.size

theorem front {B M bn bl bp lines : Nat} {w0 w : World} {bs : List Nat} (h : FmI B M bn bl bp lines w0 bs w) (hB : B ≤ w.heap.size) (hl : bs.length = 13) (s : ByteArray) (hs : s.size ≤ 100000) (hm : MaxIs w) {f : List Nat} (hf : frmF (Lib.cut s.data.toList [32]).1 = some f) (k1 : Nat) (hk1 : k1 = 1 + f.length) :
    ∃ b, Hid (Calls Tryz.prog 37 #[.string s, .string blank] (w.alloc (.cells #[.string ⟨#[]⟩, .int .i64 0, .int .i64 0, .string ⟨#[]⟩, .string ⟨#[]⟩, .int .i64 0, .int .i64 0] 43)) fun e w' => ∃ (r c : Value) (W2 : World), e = .returned (.tuple #[.string (bA (Lib.cut s.data.toList [32]).1), r, c]) ∧ w' = W2.alloc (.cells #[.string ⟨#[]⟩, .int .i64 0, .int .i64 0, .string ⟨#[]⟩, .string ⟨#[]⟩, .int .i64 0, .int .i64 0] 43) ∧ w.heap.size = W2.heap.size ∧
      (Instr.lookup 40 (.map (some M)) (.string (bA (Lib.cut s.data.toList [32]).1)) true).run Tryz.prog (W2.alloc (.cells #[.string ⟨#[]⟩, .int .i64 0, .int .i64 0, .string ⟨#[]⟩, .string ⟨#[]⟩, .int .i64 0, .int .i64 0] 43)) = .ok (.tuple #[.slice (some ⟨b, 0, none⟩) f.length f.length, .bool true]) (W2.alloc (.cells #[.string ⟨#[]⟩, .int .i64 0, .int .i64 0, .string ⟨#[]⟩, .string ⟨#[]⟩, .int .i64 0, .int .i64 0] 43)) ∧
      Hid (Calls Tryz.prog 38 #[.string s, .string blank, .int .i64 (k1 : Int)] (W2.alloc (.cells #[.string ⟨#[]⟩, .int .i64 0, .int .i64 0, .string ⟨#[]⟩, .string ⟨#[]⟩, .int .i64 0, .int .i64 0] 43)) fun e w3 => ∃ X, e = .returned (.slice (some ⟨X, 0, none⟩) (wdN f.length s.data.toList).length k1) ∧ Hid (Spl w b bn bl bp lines f (wdN f.length s.data.toList) X w3))) := by
  obtain ⟨q1, q2, q3⟩ := frmF_small hf
  have hsl : s.size = s.data.toList.length := size_of rfl
  have hcl := cut_len s.data.toList
  have hcs : (bA (Lib.cut s.data.toList [32]).1).size = (Lib.cut s.data.toList [32]).1.length := size_of rfl
  obtain ⟨b, hb, hlk⟩ := look_yes h hl (bA (Lib.cut s.data.toList [32]).1) (by unfold maxLen; omega) (f := f) (by unfold bA; simpa using hf)
  refine ⟨b, ?_⟩
  refine (Cut_blank s _ (by omega) (hm.up ((Below.refl _ w).alloc (Nat.le_refl _) _))).mono ?_
  rintro e w' ⟨r, c, rfl, n, rfl⟩
  have hbe : ∀ o, Below w.heap.size w ((w.drewN n).alloc o) := fun o => (below_drewN (Below.refl _ w) n).alloc (Nat.le_refl _) o
  refine ⟨r, c, w.drewN n, rfl, rfl, rfl, hlk _ ((hbe _).block M h.lt), ?_⟩
  rw [hk1]
  refine (splitN_any s f.length _ (by omega) q3 (by omega) (hm.up (hbe _))).mono ?_
  rintro e w3 ⟨rfl, hc, hlt, hb3⟩
  have hsz : ((w.drewN n).alloc (.cells #[.string ⟨#[]⟩, .int .i64 0, .int .i64 0, .string ⟨#[]⟩, .string ⟨#[]⟩, .int .i64 0, .int .i64 0] 43)).heap.size = w.heap.size + 1 := World.size_alloc _ _
  have hbw : Below w.heap.size w w3 := ⟨hb3.os.trans (hbe _).os, hb3.tape.trans (hbe _).tape, hb3.output.trans (hbe _).output, Nat.le_trans (hbe _).size hb3.size, fun g hg => (hb3.block g (by omega)).trans ((hbe _).block g hg)⟩
  have hF := h.keep hbw hB
  have hbl : b < w.heap.size := (Array.getElem?_eq_some_iff.1 hb).1
  refine ⟨_, rfl, ⟨hc, ?_, (hbw.block b hbl).trans hb, hF.env, hm.up hbw, hbw, fun p hp => ?_, hlt, by omega⟩⟩
  · exact (hb3.block w.heap.size (by omega)).trans (heap_alloc_new (w.drewN n) _)
  · have := wdN_size _ _ p hp
    omega

theorem ln_cells {w : World} {R : Nat} {a0 a1 a2 a3 a4 a5 a6 : Value} (h : w.heap[R]? = some (.cells #[a0, a1, a2, a3, a4, a5, a6] 43 (0, 0))) :
    (w.cell? ⟨R, 0, none⟩ = some a0 ∧ w.frozen? ⟨R, 0, none⟩ = false) ∧ (w.cell? ⟨R, 1, none⟩ = some a1 ∧ w.frozen? ⟨R, 1, none⟩ = false) ∧ (w.cell? ⟨R, 2, none⟩ = some a2 ∧ w.frozen? ⟨R, 2, none⟩ = false) ∧ (w.cell? ⟨R, 3, none⟩ = some a3 ∧ w.frozen? ⟨R, 3, none⟩ = false) ∧ (w.cell? ⟨R, 4, none⟩ = some a4 ∧ w.frozen? ⟨R, 4, none⟩ = false) ∧ (w.cell? ⟨R, 5, none⟩ = some a5 ∧ w.frozen? ⟨R, 5, none⟩ = false) ∧ (w.cell? ⟨R, 6, none⟩ = some a6 ∧ w.frozen? ⟨R, 6, none⟩ = false) :=
  ⟨⟨by rw [Lib.cell_of_heap h]; rfl, Lib.frozen_of_heap h 0⟩, ⟨by rw [Lib.cell_of_heap h]; rfl, Lib.frozen_of_heap h 1⟩, ⟨by rw [Lib.cell_of_heap h]; rfl, Lib.frozen_of_heap h 2⟩, ⟨by rw [Lib.cell_of_heap h]; rfl, Lib.frozen_of_heap h 3⟩, ⟨by rw [Lib.cell_of_heap h]; rfl, Lib.frozen_of_heap h 4⟩, ⟨by rw [Lib.cell_of_heap h]; rfl, Lib.frozen_of_heap h 5⟩, ⟨by rw [Lib.cell_of_heap h]; rfl, Lib.frozen_of_heap h 6⟩⟩

/-- A line is stored. -/
def st7 (w : World) (R : Nat) (l : Ln) : World := ((((((w.setCell ⟨R, 0, none⟩ (.string l.wd)).setCell ⟨R, 1, none⟩ (.int .i64 (l.r : Int))).setCell ⟨R, 2, none⟩ (.int .i64 (l.s : Int))).setCell ⟨R, 3, none⟩ (.string l.pa)).setCell ⟨R, 4, none⟩ (.string l.tx)).setCell ⟨R, 5, none⟩ (.int .i64 (l.n : Int))).setCell ⟨R, 6, none⟩ (.int .i64 (l.m : Int))
theorem st7_at {w : World} {R : Nat} {l0 : Ln} (h : LnAt w R l0) (l : Ln) : LnAt (st7 w R l) R l := by
  unfold st7
  have h0 : (w.setCell ⟨R, 0, none⟩ (.string l.wd)).heap[R]? = some (.cells #[.string l.wd, .int .i64 (l0.r : Int), .int .i64 (l0.s : Int), .string l0.pa, .string l0.tx, .int .i64 (l0.n : Int), .int .i64 (l0.m : Int)] 43 (0, 0)) := Go.Joins.block_setCell (i := 0) h _
  generalize (w.setCell ⟨R, 0, none⟩ (.string l.wd)) = w0 at *
  have h1 : (w0.setCell ⟨R, 1, none⟩ (.int .i64 (l.r : Int))).heap[R]? = some (.cells #[.string l.wd, .int .i64 (l.r : Int), .int .i64 (l0.s : Int), .string l0.pa, .string l0.tx, .int .i64 (l0.n : Int), .int .i64 (l0.m : Int)] 43 (0, 0)) := Go.Joins.block_setCell (i := 1) h0 _
  generalize (w0.setCell ⟨R, 1, none⟩ (.int .i64 (l.r : Int))) = w1 at *
  have h2 : (w1.setCell ⟨R, 2, none⟩ (.int .i64 (l.s : Int))).heap[R]? = some (.cells #[.string l.wd, .int .i64 (l.r : Int), .int .i64 (l.s : Int), .string l0.pa, .string l0.tx, .int .i64 (l0.n : Int), .int .i64 (l0.m : Int)] 43 (0, 0)) := Go.Joins.block_setCell (i := 2) h1 _
  generalize (w1.setCell ⟨R, 2, none⟩ (.int .i64 (l.s : Int))) = w2 at *
  have h3 : (w2.setCell ⟨R, 3, none⟩ (.string l.pa)).heap[R]? = some (.cells #[.string l.wd, .int .i64 (l.r : Int), .int .i64 (l.s : Int), .string l.pa, .string l0.tx, .int .i64 (l0.n : Int), .int .i64 (l0.m : Int)] 43 (0, 0)) := Go.Joins.block_setCell (i := 3) h2 _
  generalize (w2.setCell ⟨R, 3, none⟩ (.string l.pa)) = w3 at *
  have h4 : (w3.setCell ⟨R, 4, none⟩ (.string l.tx)).heap[R]? = some (.cells #[.string l.wd, .int .i64 (l.r : Int), .int .i64 (l.s : Int), .string l.pa, .string l.tx, .int .i64 (l0.n : Int), .int .i64 (l0.m : Int)] 43 (0, 0)) := Go.Joins.block_setCell (i := 4) h3 _
  generalize (w3.setCell ⟨R, 4, none⟩ (.string l.tx)) = w4 at *
  have h5 : (w4.setCell ⟨R, 5, none⟩ (.int .i64 (l.n : Int))).heap[R]? = some (.cells #[.string l.wd, .int .i64 (l.r : Int), .int .i64 (l.s : Int), .string l.pa, .string l.tx, .int .i64 (l.n : Int), .int .i64 (l0.m : Int)] 43 (0, 0)) := Go.Joins.block_setCell (i := 5) h4 _
  generalize (w4.setCell ⟨R, 5, none⟩ (.int .i64 (l.n : Int))) = w5 at *
  have h6 : (w5.setCell ⟨R, 6, none⟩ (.int .i64 (l.m : Int))).heap[R]? = some (.cells #[.string l.wd, .int .i64 (l.r : Int), .int .i64 (l.s : Int), .string l.pa, .string l.tx, .int .i64 (l.n : Int), .int .i64 (l.m : Int)] 43 (0, 0)) := Go.Joins.block_setCell (i := 6) h5 _
  exact h6
theorem st7_up (w : World) (R : Nat) (l : Ln) : UpB R w (st7 w R l) := (((((((UpB.set R 0 w _).trans (UpB.set R 1 _ _)).trans (UpB.set R 2 _ _)).trans (UpB.set R 3 _ _)).trans (UpB.set R 4 _ _)).trans (UpB.set R 5 _ _)).trans (UpB.set R 6 _ _))

set_option maxHeartbeats 2000000 in
set_option maxRecDepth 100000 in
theorem lineOf_few {B M bn bl bp lines : Nat} {w0 w : World} {bs : List Nat} (h : FmI B M bn bl bp lines w0 bs w) (hB : B ≤ w.heap.size) (hl : bs.length = 13) (s : ByteArray) (hs : s.size ≤ 100000) (hm : MaxIs w) {f : List Nat} (hf : frmF (Lib.cut s.data.toList [32]).1 = some f) (hw : (wdN f.length s.data.toList).length ≤ f.length) :
    Calls Tryz.prog 14 #[.string s, .map (some M)] w fun e w' => e = .returned (.tuple (linV lines s.data.toList)) ∧ Below w.heap.size w w' := by
  have hv : linV lines s.data.toList = #[.agg (lnC Ln.none), .bool false] := by
    unfold linV linF
    rw [hf]
    simp only
    rw [if_pos hw]
  rw [hv]
  obtain ⟨k1, hk1⟩ : ∃ k1, k1 = 1 + f.length := ⟨_, rfl⟩
  obtain ⟨b, HC⟩ := front h hB hl s hs hm hf k1 hk1
  have hq := frmF_small hf
  have hne := List.length_pos_iff.2 (wdN_ne f.length s.data.toList)
  generalize (wdN f.length s.data.toList) = ps at *
  generalize bA (Lib.cut s.data.toList [32]).1 = wd at *
  obtain ⟨n, hn⟩ : ∃ n, ps.length = n + 1 := ⟨ps.length - 1, by omega⟩
  rw [hn] at HC
  obtain ⟨k, hk⟩ : ∃ k, f.length = k := ⟨_, rfl⟩
  rw [hk] at HC
  have e1 : (1 : Int) + (k : Int) = (k1 : Int) := by omega
  have e2 : IntKind.i64.wrap (k1 : Int) = (k1 : Int) := by rw [IntKind.wrap_i64]; omega
  have e3 : (n : Int) < (k : Int) := by omega
  have e4 : (k : Int) ≤ 9223372036854775807 := by omega
  have e5 : n + 1 ≤ k1 := by omega
  have e6 : 1 ≤ k1 := by omega
  clear hv hf hs h hm hk1 hq hne hw hn hk
  go_enter Tryz.func14, Tryz.ntmps14
  go_wp2_with (first
    | (go_at_call 37; refine HC.out.mono ?_; rintro e w1 ⟨r1, r2, W2, rfl, rfl, hz, hlk, HS⟩)
    | (go_at_call 38; refine HS.out.mono ?_; rintro e w3 ⟨X, rfl, HX⟩; obtain ⟨R, hR⟩ : ∃ R, R = W2.heap.size := ⟨_, rfl⟩; rw [← hR] at hz ⊢; clear hR; have hr0 := HX.out.r0; rw [hz] at hr0; have HR0 : Hid (w.heap.size = R) := hz; have HR1 : Hid (LnAt w3 R Ln.none) := hr0; obtain ⟨⟨c0, f0⟩, ⟨c1, f1⟩, ⟨c2, f2⟩, ⟨c3, f3⟩, ⟨c4, f4⟩, ⟨c5, f5⟩, ⟨c6, f6⟩⟩ := ln_cells hr0; clear hr0 hz)
    | go_in)
  change bodyPost _ _ _ _ _ (st7 w3 R Ln.none)
  have hL : LnAt (st7 w3 R Ln.none) R Ln.none := st7_at HR1.out Ln.none
  obtain ⟨⟨d0, _⟩, ⟨d1, _⟩, ⟨d2, _⟩, ⟨d3, _⟩, ⟨d4, _⟩, ⟨d5, _⟩, ⟨d6, _⟩⟩ := ln_cells hL
  have HU := st7_up w3 R Ln.none
  generalize st7 w3 R Ln.none = wf at *
  refine bodyPost_ret (v := .tuple #[.agg (lnC Ln.none), .bool false]) (by simp [results, Tryz.results14, go_sem, d0, d1, d2, d3, d4, d5, d6, lnC, Ln.none]) rfl ?_
  exact ⟨rfl, ⟨HU.os.trans HX.out.bel.os, HU.tape.trans HX.out.bel.tape, HU.output.trans HX.out.bel.output, Nat.le_trans HX.out.bel.size HU.size, fun g hg => (HU.block g (Nat.lt_trans hg HX.out.lt.2) (by have := HR0.out; omega)).trans (HX.out.bel.block g hg)⟩⟩
end Go.Proofs.YtcpomkgfcpfedaaGreatDoor
