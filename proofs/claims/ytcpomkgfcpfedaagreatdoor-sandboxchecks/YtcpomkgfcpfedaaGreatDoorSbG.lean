/- A line is taken apart: its parts, one behind the other. -/
import Derived.Test.YtcpomkgfcpfedaaGreatDoorSbE
namespace Go.Proofs.YtcpomkgfcpfedaaGreatDoor
open Go.RowKit Go.Shelf Go.Maps Go.WideMaps

theorem foldP_app (lines : Nat) : ∀ (ks : List Nat) (gs : List (List UInt8)) (ks' : List Nat) (gs' : List (List UInt8)) (l : Ln), ks.length = gs.length → foldP lines (ks ++ ks') (gs ++ gs') l = (foldP lines ks gs l).bind fun l' => foldP lines ks' gs' l' := by
  intro ks
  induction ks with
  | nil =>
    intro gs ks' gs' l h
    obtain rfl := List.length_eq_zero_iff.1 h.symm
    rfl
  | cons k ks ih =>
    intro gs ks' gs' l h
    cases gs with
    | nil => cases h
    | cons g gs =>
      show ((takP lines k l g).bind fun l' => foldP lines (ks ++ ks') (gs ++ gs') l') = (((takP lines k l g).bind fun l' => foldP lines ks gs l').bind fun l' => foldP lines ks' gs' l')
      cases takP lines k l g with
      | none => rfl
      | some l2 => exact ih gs ks' gs' l2 (by simpa using h)
theorem take_one {α : Type} {l : List α} {i : Nat} {x : α} (h : l[i]? = some x) : l.take (i + 1) = l.take i ++ [x] := by
  rw [List.take_add_one, h]
  rfl
theorem foldP_step {lines i k : Nat} {f : List Nat} {gs : List (List UInt8)} {g : List UInt8} {l l' : Ln} (hf : f[i]? = some k) (hg : gs[i]? = some g) (h : foldP lines (f.take i) (gs.take i) l = some l') : foldP lines (f.take (i + 1)) (gs.take (i + 1)) l = takP lines k l' g := by
  have h1 : i < f.length := (List.getElem?_eq_some_iff.1 hf).1
  have h2 : i < gs.length := (List.getElem?_eq_some_iff.1 hg).1
  rw [take_one hf, take_one hg, foldP_app lines _ _ _ _ _ (by rw [List.length_take, List.length_take]; omega), h]
  show ((takP lines k l' g).bind fun l'' => some l'') = _
  cases takP lines k l' g <;> rfl
theorem foldP_stop {lines i k : Nat} {f : List Nat} {gs : List (List UInt8)} {g : List UInt8} {l l' : Ln} (hf : f[i]? = some k) (hg : gs[i]? = some g) (h : foldP lines (f.take i) (gs.take i) l = some l') (ht : takP lines k l' g = none) : foldP lines f gs l = none := by
  have h1 : i < f.length := (List.getElem?_eq_some_iff.1 hf).1
  have h2 : i < gs.length := (List.getElem?_eq_some_iff.1 hg).1
  have e1 : f = f.take (i + 1) ++ f.drop (i + 1) := (List.take_append_drop _ _).symm
  have e2 : gs = gs.take (i + 1) ++ gs.drop (i + 1) := (List.take_append_drop _ _).symm
  rw [e1, e2, foldP_app lines _ _ _ _ _ (by rw [List.length_take, List.length_take]; omega), foldP_step hf hg h, ht]
  rfl
theorem cell_same {w w' : World} {b : Nat} (h : w'.heap[b]? = w.heap[b]?) (j : Nat) : w'.cell? ⟨b, j, none⟩ = w.cell? ⟨b, j, none⟩ := by
  unfold World.cell?
  simp only
  rw [h]

set_option maxHeartbeats 4000000 in
set_option maxRecDepth 100000 in
theorem lineOf_go {B M bn bl bp lines : Nat} {w0 w : World} {bs : List Nat} (h : FmI B M bn bl bp lines w0 bs w) (hB : B ≤ w.heap.size) (hl : bs.length = 13) (s : ByteArray) (hs : s.size ≤ 100000) (hm : MaxIs w) {f : List Nat} (hf : frmF (Lib.cut s.data.toList [32]).1 = some f) (hw : f.length < (wdN f.length s.data.toList).length) :
    Calls Tryz.prog 14 #[.string s, .map (some M)] w fun e w' => e = .returned (.tuple (linV lines s.data.toList)) ∧ Below w.heap.size w w' := by
  have hv : linV lines s.data.toList = match foldP lines f (wdN f.length s.data.toList).tail { Ln.none with wd := bA (Lib.cut s.data.toList [32]).1 } with
      | some l => #[.agg (lnC l), .bool true]
      | none => #[.agg (lnC Ln.none), .bool false] := by
    unfold linV linF
    rw [hf]
    simp only
    rw [if_neg (by omega)]
    rfl
  obtain ⟨LV, hLV⟩ : ∃ LV, linV lines s.data.toList = LV := ⟨_, rfl⟩
  rw [hLV] at hv ⊢
  clear hLV
  obtain ⟨k1, hk1⟩ : ∃ k1, k1 = 1 + f.length := ⟨_, rfl⟩
  obtain ⟨b, HC⟩ := front h hB hl s hs hm hf k1 hk1
  have hq := frmF_small hf
  have hwl := wdN_len f.length s.data.toList
  generalize (wdN f.length s.data.toList) = ps at *
  generalize bA (Lib.cut s.data.toList [32]).1 = wd at *
  obtain ⟨k, hk⟩ : ∃ k, f.length = k := ⟨_, rfl⟩
  have hn : ps.length = k + 1 := by omega
  have HLP : Hid (f.length = k ∧ ps.tail.length = k ∧ ∀ i, i < k → ps.tail[i]? = some (ps.getD (1 + i) [])) := by
    refine ⟨hk, by rw [List.length_tail]; omega, fun i hi => ?_⟩
    rw [List.getElem?_tail, List.getD_eq_getElem?_getD, List.getElem?_eq_getElem (show i + 1 < ps.length by omega), List.getElem?_eq_getElem (show 1 + i < ps.length by omega)]
    simp only [Option.getD_some, Nat.add_comm]
  rw [hn, hk] at HC
  have e1 : (1 : Int) + (k : Int) = (k1 : Int) := by omega
  have e2 : IntKind.i64.wrap (k1 : Int) = (k1 : Int) := by rw [IntKind.wrap_i64]; omega
  have e3 : ¬ (k : Int) < (k : Int) := by omega
  have e4 : (k : Int) ≤ 9223372036854775807 := by omega
  have e5 : k + 1 ≤ k1 := by omega
  have e6 : 1 ≤ k1 := by omega
  have e7 : k ≤ 3 := by omega
  have e8 : ¬ k1 = 1 := by omega
  have HK1 : Hid (k1 = 1 + k ∧ ps.length = k + 1) := by refine ⟨by omega, hn⟩
  obtain ⟨l0, hl0⟩ : ∃ l0 : Ln, l0 = { Ln.none with wd := wd } := ⟨_, rfl⟩
  rw [← hl0] at hv
  have HL0 : Hid (l0 = { Ln.none with wd := wd }) := hl0
  have HVN : Hid (foldP lines f ps.tail l0 = none → LV = #[.agg (lnC Ln.none), .bool false]) := by
    intro e
    rw [e] at hv
    exact hv
  have HVS : Hid (∀ l, foldP lines f ps.tail l0 = some l → LV = #[.agg (lnC l), .bool true]) := by
    intro l e
    rw [e] at hv
    exact hv
  clear hv hf hs h hm hk1 hq hw hn hk hwl hl0
  go_enter Tryz.func14, Tryz.ntmps14
  go_wp2_with (first
    | (go_at_call 37; refine HC.out.mono ?_; rintro e w1 ⟨r1, r2, W2, rfl, rfl, hz, hlk, HS⟩)
    | (go_at_call 38; refine HS.out.mono ?_; rintro e w3 ⟨X, rfl, HX⟩; obtain ⟨R, hR⟩ : ∃ R, R = W2.heap.size := ⟨_, rfl⟩; rw [← hR] at hz ⊢; clear hR; have HR0 : Hid (w.heap.size = R) := hz; clear hz)
    | go_in)
  have hP4 : LnAt (w3.alloc (.cells #[.string wd, .int .i64 0, .int .i64 0, .string ⟨#[]⟩, .string ⟨#[]⟩, .int .i64 0, .int .i64 0] 43)) w3.heap.size l0 := by
    rw [HL0.out]
    exact heap_alloc_new w3 _
  have hb4 : Below w3.heap.size w3 (w3.alloc (.cells #[.string wd, .int .i64 0, .int .i64 0, .string ⟨#[]⟩, .string ⟨#[]⟩, .int .i64 0, .int .i64 0] 43)) := (Below.refl _ _).alloc (Nat.le_refl _) _
  have HP4 : Hid (LnAt (w3.alloc (.cells #[.string wd, .int .i64 0, .int .i64 0, .string ⟨#[]⟩, .string ⟨#[]⟩, .int .i64 0, .int .i64 0] 43)) w3.heap.size l0 ∧ Below w3.heap.size w3 (w3.alloc (.cells #[.string wd, .int .i64 0, .int .i64 0, .string ⟨#[]⟩, .string ⟨#[]⟩, .int .i64 0, .int .i64 0] 43))) := ⟨hP4, hb4⟩
  clear hP4 hb4
  generalize (w3.alloc (.cells #[.string wd, .int .i64 0, .int .i64 0, .string ⟨#[]⟩, .string ⟨#[]⟩, .int .i64 0, .int .i64 0] 43)) = w4 at *
  obtain ⟨P, hP⟩ : ∃ P, P = w3.heap.size := ⟨_, rfl⟩
  rw [← hP] at HP4 ⊢
  have HPe : Hid (P = w3.heap.size) := hP
  clear hP
  go_loopw [46] (fun v wr => ∃ (i : Nat) (l' : Ln), i ≤ k ∧ v = .int .i64 (i : Int) ∧ Hid (foldP lines (f.take i) (ps.tail.take i) l0 = some l' ∧ LnAt wr P l' ∧ UpB P w4 wr)) (fun v _ => k - (intOf v).toNat)
  case atStart => exact ⟨0, l0, by omega, rfl, by rw [List.take_zero, List.take_zero]; rfl, HP4.out.1, UpB.refl _ _⟩
  case round =>
    obtain ⟨i, l', hi, rfl, HI⟩ := hrel
    have hup : ∀ g, g < w3.heap.size → wr.heap[g]? = w3.heap[g]? := fun g hg => (HI.out.2.2.block g (by have := HP4.out.2.size; omega) (by have := HPe.out; omega)).trans (HP4.out.2.block g (by have := HPe.out; omega))
    have HUP : Hid (∀ g, g < w3.heap.size → wr.heap[g]? = w3.heap[g]?) := hup
    have BEL : Hid (∀ w5, UpB P wr w5 → Below w.heap.size w w5) := by
      intro w5 hu
      have h1 := HX.out.lt.2
      have h2 := HPe.out
      have h4 : w3.heap.size ≤ wr.heap.size := Nat.le_trans HP4.out.2.size HI.out.2.2.size
      have hq := HX.out.bel
      have u4 := HP4.out.2
      have u5 := HI.out.2.2
      exact ⟨hu.os.trans (u5.os.trans (u4.os.trans hq.os)), hu.tape.trans (u5.tape.trans (u4.tape.trans hq.tape)), hu.output.trans (u5.output.trans (u4.output.trans hq.output)), Nat.le_trans hq.size (Nat.le_trans h4 hu.size), fun g hg => (hu.block g (by omega) (by omega)).trans ((hup g (by omega)).trans (hq.block g hg))⟩
    clear hup
    by_cases hik : i < k
    · obtain ⟨kk, hkk⟩ : ∃ kk, f[i]? = some kk := ⟨f[i]'(by rw [HLP.out.1]; exact hik), List.getElem?_eq_getElem _⟩
      obtain ⟨g0, hg0⟩ : ∃ g0, ps.getD (1 + i) [] = g0 := ⟨_, rfl⟩
      have hgt : ps.tail[i]? = some g0 := by rw [HLP.out.2.2 i hik, hg0]
      have hgm : g0 ∈ ps := by
        rw [← hg0, List.getD_eq_getElem?_getD, List.getElem?_eq_getElem (show 1 + i < ps.length by have := HK1.out.2; omega)]
        exact List.getElem_mem _
      have hgs : (bA g0).size ≤ 1000000 := by rw [show (bA g0).size = g0.length from size_of rfl]; exact HX.out.sz g0 hgm
      obtain ⟨N, caps, hcv, eg, hpart⟩ := part_any bn bl bp lines kk P
      have hbX := HX.out.lt.1
      have hbb : b < w3.heap.size := (Array.getElem?_eq_some_iff.1 HX.out.row).1
      have cf : wr.cell? ⟨b, i, none⟩ = some (.func (.func N) #[] caps) := by
        rw [cell_same (HUP.out b hbb), Lib.cell_of_heap HX.out.row, List.getElem?_toArray, List.getElem?_map, hkk, ← hcv]
        rfl
      have cp : wr.cell? ⟨X, 1 + i, none⟩ = some (.string (bA g0)) := by
        rw [cell_same (HUP.out X hbX), HX.out.cells (1 + i) (by have := HK1.out.2; omega), hg0]
      have hPE : PrtE wr bn bl bp lines := by
        obtain ⟨p1, p2, p3⟩ := HX.out.env
        exact ⟨(cell_same (HUP.out _ (World.block_lt_of_cell? w3 ⟨bn, 0, none⟩ p1)) 0).trans p1, (cell_same (HUP.out _ (World.block_lt_of_cell? w3 ⟨bl, 0, none⟩ p2)) 0).trans p2, (cell_same (HUP.out _ (World.block_lt_of_cell? w3 ⟨bp, 0, none⟩ p3)) 0).trans p3⟩
      have hMX : MaxIs wr := by
        obtain ⟨m, p1⟩ := HX.out.mx
        exact ⟨m, (cell_same (HUP.out _ (World.block_lt_of_cell? w3 ⟨0, 0, none⟩ p1)) 0).trans p1⟩
      have hQ := hpart l' (bA g0) wr HI.out.2.1 hgs hMX hPE
      have HR5 : Hid (∀ w5, UpB P wr w5 → w5.heap[R]? = some (.cells (lnC Ln.none) 43 (0, 0)) ∧ R ≠ P ∧ R < w5.heap.size) := by
        intro w5 hu
        have h1 := HX.out.lt.2
        have h2 := HPe.out
        have h3 := HR0.out
        have h4 : R < wr.heap.size := by
          have := HI.out.2.2.size
          have := HP4.out.2.size
          omega
        refine ⟨(hu.block R h4 (by omega)).trans ((HUP.out R (by omega)).trans ?_), by omega, Nat.lt_of_lt_of_le h4 hu.size⟩
        rw [← h3]
        exact HX.out.r0
      have hki : (i : Int) < (k : Int) := by omega
      have HG : Hid (f[i]? = some kk ∧ ps.tail[i]? = some g0) := ⟨hkk, hgt⟩
      have hba : (bA g0).data.toList = g0 := by unfold bA; simp
      unfold TkQ at hQ
      rw [hba] at hQ
      cases ht : takP lines kk l' g0 with
      | none =>
        have HQ : Hid (Calls Tryz.prog N (#[.pointer (some ⟨P, 0, none⟩), .string (bA g0)] ++ caps) wr fun e w' => e = .returned (.bool false) ∧ Hid (UpB P wr w')) := by
          refine hQ.mono ?_
          rintro e w5 ⟨rfl, _, r3⟩
          exact ⟨by rw [ht]; rfl, r3⟩
        have HV : Hid (foldP lines f ps.tail l0 = none) := foldP_stop hkk hgt HI.out.1 ht
        clear hQ ht hba hPE hMX hkk hgt hgm hgs hpart hbX hbb hg0 hcv
        generalize bA g0 = gg at *
        go_wp2_with (first
          | (go_at_fn N; refine HQ.out.mono ?_; rintro e w5 ⟨rfl, HU5⟩; obtain ⟨⟨c0, f0⟩, ⟨c1, f1⟩, ⟨c2, f2⟩, ⟨c3, f3⟩, ⟨c4, f4⟩, ⟨c5, f5⟩, ⟨c6, f6⟩⟩ := ln_cells (HR5.out w5 HU5.out).1)
          | go_in)
        obtain ⟨q1, q2, q3⟩ := HR5.out w5 HU5.out
        change bodyPost _ _ _ _ _ (st7 w5 R Ln.none)
        have hL : LnAt (st7 w5 R Ln.none) R Ln.none := st7_at (l0 := Ln.none) q1 Ln.none
        obtain ⟨⟨d0, _⟩, ⟨d1, _⟩, ⟨d2, _⟩, ⟨d3, _⟩, ⟨d4, _⟩, ⟨d5, _⟩, ⟨d6, _⟩⟩ := ln_cells hL
        have HU := st7_up w5 R Ln.none
        generalize st7 w5 R Ln.none = wf at *
        refine bodyPost_ret (v := .tuple #[.agg (lnC Ln.none), .bool false]) (by simp [results, Tryz.results14, go_sem, d0, d1, d2, d3, d4, d5, d6, lnC, Ln.none]) rfl ?_
        refine ⟨by rw [HVN.out HV.out], ?_⟩
        have hbb : Below w.heap.size w w5 := BEL.out w5 HU5.out
        exact ⟨HU.os.trans hbb.os, HU.tape.trans hbb.tape, HU.output.trans hbb.output, Nat.le_trans hbb.size HU.size, fun g hg => (HU.block g (Nat.lt_of_lt_of_le hg hbb.size) (by have := HR0.out; omega)).trans (hbb.block g hg)⟩
      | some l2 =>
        have HQ : Hid (Calls Tryz.prog N (#[.pointer (some ⟨P, 0, none⟩), .string (bA g0)] ++ caps) wr fun e w' => e = .returned (.bool true) ∧ Hid (LnAt w' P l2 ∧ UpB P wr w')) := by
          refine hQ.mono ?_
          rintro e w5 ⟨rfl, ⟨l3, r1, r2⟩, r3⟩
          refine ⟨by rw [ht]; rfl, ?_, r3⟩
          rw [← r2 l2 ht]
          exact r1
        have HV : Hid (foldP lines (f.take (i + 1)) (ps.tail.take (i + 1)) l0 = some l2) := (foldP_step hkk hgt HI.out.1).trans ht
        clear hQ ht hba hPE hMX hkk hgt hgm hgs hpart hbX hbb hg0 hcv
        generalize bA g0 = gg at *
        go_wp2_with (first
          | (go_at_fn N; refine HQ.out.mono ?_; rintro e w5 ⟨rfl, HU5⟩)
          | go_in)
        refine ⟨⟨i + 1, l2, by omega, by go_num, HV.out, HU5.out.1, HI.out.2.2.trans HU5.out.2⟩, by simp [intOf]; omega⟩
    · obtain rfl : i = k := by omega
      have hki : ¬ (i : Int) < (i : Int) := by omega
      have HFs : Hid (foldP lines f ps.tail l0 = some l') := by
        have h1 := HI.out.1
        rw [List.take_of_length_le (by rw [HLP.out.1]; exact Nat.le_refl _), List.take_of_length_le (by rw [HLP.out.2.1]; exact Nat.le_refl _)] at h1
        exact h1
      have HR5 : Hid (∀ w5, UpB P wr w5 → w5.heap[R]? = some (.cells (lnC Ln.none) 43 (0, 0)) ∧ R ≠ P ∧ R < w5.heap.size) := by
        intro w5 hu
        have h1 := HX.out.lt.2
        have h2 := HPe.out
        have h3 := HR0.out
        have h4 : R < wr.heap.size := by
          have := HI.out.2.2.size
          have := HP4.out.2.size
          omega
        refine ⟨(hu.block R h4 (by omega)).trans ((HUP.out R (by omega)).trans ?_), by omega, Nat.lt_of_lt_of_le h4 hu.size⟩
        rw [← h3]
        exact HX.out.r0
      obtain ⟨⟨c0, f0⟩, ⟨c1, f1⟩, ⟨c2, f2⟩, ⟨c3, f3⟩, ⟨c4, f4⟩, ⟨c5, f5⟩, ⟨c6, f6⟩⟩ := ln_cells (HR5.out wr (UpB.refl _ _)).1
      obtain ⟨⟨p0, _⟩, ⟨p1, _⟩, ⟨p2, _⟩, ⟨p3, _⟩, ⟨p4, _⟩, ⟨p5, _⟩, ⟨p6, _⟩⟩ := ln_cells HI.out.2.1
      have HU5 : Hid (UpB P wr wr) := UpB.refl _ _
      obtain ⟨w5, hw5⟩ : ∃ w5, w5 = wr := ⟨_, rfl⟩
      go_wp2
      subst hw5
      obtain ⟨q1, q2, q3⟩ := HR5.out w5 HU5.out
      change bodyPost _ _ _ _ _ (st7 w5 R l')
      have hL : LnAt (st7 w5 R l') R l' := st7_at (l0 := Ln.none) q1 l'
      obtain ⟨⟨d0, _⟩, ⟨d1, _⟩, ⟨d2, _⟩, ⟨d3, _⟩, ⟨d4, _⟩, ⟨d5, _⟩, ⟨d6, _⟩⟩ := ln_cells hL
      have HU := st7_up w5 R l'
      generalize st7 w5 R l' = wf at *
      refine bodyPost_ret (v := .tuple #[.agg (lnC l'), .bool true]) (by simp [results, Tryz.results14, go_sem, d0, d1, d2, d3, d4, d5, d6, lnC]) rfl ?_
      refine ⟨by rw [HVS.out _ HFs.out], ?_⟩
      have hbb : Below w.heap.size w w5 := BEL.out w5 HU5.out
      exact ⟨HU.os.trans hbb.os, HU.tape.trans hbb.tape, HU.output.trans hbb.output, Nat.le_trans hbb.size HU.size, fun g hg => (HU.block g (Nat.lt_of_lt_of_le hg hbb.size) (by have := HR0.out; omega)).trans (hbb.block g hg)⟩

theorem lineOf_any {B M bn bl bp lines : Nat} {w0 w : World} {bs : List Nat} (h : FmI B M bn bl bp lines w0 bs w) (hB : B ≤ w.heap.size) (hl : bs.length = 13) (s : ByteArray) (hs : s.size ≤ 100000) (hm : MaxIs w) :
    Calls Tryz.prog 14 #[.string s, .map (some M)] w fun e w' => e = .returned (.tuple (linV lines s.data.toList)) ∧ Below w.heap.size w w' := by
  cases hf : frmF (Lib.cut s.data.toList [32]).1 with
  | none => exact lineOf_no h hl s hs hm hf
  | some f =>
    by_cases hw : (wdN f.length s.data.toList).length ≤ f.length
    · exact lineOf_few h hB hl s hs hm hf hw
    · exact lineOf_go h hB hl s hs hm hf (by omega)
end Go.Proofs.YtcpomkgfcpfedaaGreatDoor
