/- Check: does a path go through a file? -/
import Derived.Deep.QuietTactic
import Derived.BigQuiet
import Derived.BigRegion
import Derived.Test.YtkmlooepakinfaaGreatDoorRows
import Derived.WalkKit
import Derived.WalkSpells
import Derived.WalkLawsBesides
import Derived.Lib.Strings
import Derived.Lib.Builder
import Derived.Deep.RegionHeld3
import Derived.Lib.IndexBytes
import Derived.Lib.IndexMore
import Derived.Defers
import Derived.Recover
import Derived.Laws.Pointers
import Derived.Test.YtkmlooepakinfaaGreatDoorTf1
namespace Go.Proofs.YtkmlooepakinfaaGreatDoor
open Go.RowKit Go.Shelf Go.Maps Go.WideMaps

theorem ownsMap_heap {H : Type} {w w' : World} {P : Program} {k : TypeId} {R : Value → Option (DataW H × List MemPlace)} {b n : Nat} {D : DataW H} (h : w.ownsMap P k R b n D) (hh : w'.heap[b]? = w.heap[b]?) : w'.ownsMap P k R b n D := by
  obtain ⟨es, clock, hb, rest⟩ := h
  exact ⟨es, clock, hh.trans hb, rest⟩

theorem lookF {M n : Nat} {D : DataW Unit} {w : World} (hown : w.ownsMap Tryz.prog 9 fileE M n D) (s : ByteArray) (hs : s.size ≤ maxLen) :
    ∃ f, fD f = D.atKey (.string s.data.toList) (fD ⟨⟨#[]⟩, ⟨#[]⟩, false⟩) ∧ ∀ W : World, W.heap[M]? = w.heap[M]? → (Instr.lookup 44 (.map (some M)) (.string s) true).run Tryz.prog W = .ok (.tuple #[encF f, .bool (Maps.has D (.string s.data.toList))]) W := by
  obtain ⟨v, ps, _, hv⟩ := hown.look_ok lawS Tryz.underlying44 (zeroF w) (fileE_mk ⟨⟨#[]⟩, ⟨#[]⟩, false⟩) (keyOf_string_mk Tryz.underlying9 hs)
  obtain ⟨f, rfl, hf⟩ := fileE_inv hv
  refine ⟨f, hf.symm, fun W hW => ?_⟩
  obtain ⟨v2, ps2, hr2, hv2⟩ := (ownsMap_heap hown hW).look_ok lawS Tryz.underlying44 (zeroF W) (fileE_mk ⟨⟨#[]⟩, ⟨#[]⟩, false⟩) (keyOf_string_mk Tryz.underlying9 hs)
  obtain ⟨f2, rfl, hf2⟩ := fileE_inv hv2
  rw [fD_inj (hf.symm.trans hf2)]
  exact hr2

/-- Does a path go through something that is there? -/
def thrB (p : ByteArray) (D : DataW Unit) : Bool := (List.range p.size).any fun i => decide (p.data.toList.getD i 0 = 47) && Maps.has D (.string (p.extract 0 i).data.toList)

theorem ne47 (x : UInt8) : ((x.toNat : Int) != 47) = !decide (x = 47) := by
  rw [← is47]
  rfl

set_option maxHeartbeats 4000000 in
set_option maxRecDepth 100000 in
theorem thr1_any (f : Fl) (bx M n : Nat) (D : DataW Unit) (w : World) (hbx : w.cell? ⟨bx, 0, none⟩ = some (.map (some M))) (hown : w.ownsMap Tryz.prog 9 fileE M n D) (hs : f.pa.size ≤ 1000000) :
    Calls Tryz.prog 37 #[encF f, .pointer (some ⟨bx, 0, none⟩)] w fun e w' => e = .returned (.bool (thrB f.pa D)) ∧ Below w.heap.size w w' := by
  obtain ⟨p, t, r⟩ := f
  have hbl : bx < w.heap.size := by simpa using World.block_lt_of_cell? w _ hbx
  have hMl := hown.lt
  have HX : Hid (w.cell? ⟨bx, 0, none⟩ = some (.map (some M))) := hbx
  have HO : Hid (w.ownsMap Tryz.prog 9 fileE M n D) := hown
  have hs1 : (p.size : Int) ≤ 1000000 := by simp only at hs; omega
  unfold encF
  simp only at hs ⊢
  clear hbx hown
  go_enter Tryz.func37, Tryz.ntmps37
  go_wp2
  go_loopw [10] (fun i wr => ∃ k : Nat, k ≤ p.size ∧ i = .int .i64 k ∧ (∀ j, j < k → (decide (p.data.toList.getD j 0 = 47) && Maps.has D (.string (p.extract 0 j).data.toList)) = false) ∧ Below (w.heap.size + 1) (w.alloc (.cells #[.string p, .string t, .bool r] 25)) wr) (fun i _ => p.size - (intOf i).toNat)
  case atStart => exact ⟨0, by omega, rfl, by omega, Below.refl _ _⟩
  case round =>
    obtain ⟨k, hk, rfl, hlo, hb⟩ := hrel
    have HL : Hid (∀ j, j < k → (decide (p.data.toList.getD j 0 = 47) && Maps.has D (.string (p.extract 0 j).data.toList)) = false) := hlo
    have HB : Hid (Below (w.heap.size + 1) (w.alloc (.cells #[.string p, .string t, .bool r] 25)) wr) := hb
    have hx := heap_alloc_new w (.cells #[.string p, .string t, .bool r] 25)
    have hwz : (w.alloc (.cells #[.string p, .string t, .bool r] 25)).heap.size = w.heap.size + 1 := World.size_alloc _ _
    have HF : Hid (Below w.heap.size w wr) := ((Below.refl _ w).alloc (Nat.le_refl _) _).trans (hb.mono (by omega))
    have hsz : w.heap.size + 1 ≤ wr.heap.size := by rw [← hwz]; exact hb.size
    have c0 : wr.cell? ⟨w.heap.size, 0, none⟩ = some (.string p) := by
      rw [hb.cell (p := ⟨w.heap.size, 0, none⟩) (by show w.heap.size < _; omega)]
      exact Lib.cell_of_heap hx 0
    have cb : wr.cell? ⟨bx, 0, none⟩ = some (.map (some M)) := by
      rw [HF.out.cell (p := ⟨bx, 0, none⟩) hbl]
      exact HX.out
    have hownr : wr.ownsMap Tryz.prog 9 fileE M n D := ownsMap_heap HO.out (HF.out.block M hMl)
    clear hlo hb hx hwz
    by_cases hlt : k < p.size
    · have hki : (k : Int) < p.size := by omega
      have hq : ((p[k].toNat : Int) != 47) = !decide (p.data.toList.getD k 0 = 47) := by rw [ne47, at_getD]
      by_cases h47 : p.data.toList.getD k 0 = 47
      · have H47 : Hid (p.data.toList.getD k 0 = 47) := h47
        rw [decide_eq_true h47] at hq
        have hq' : ((p[k].toNat : Int) != 47) = false := hq
        clear hq h47
        have hex : (p.extract 0 k).size ≤ maxLen := by rw [ByteArray.size_extract]; unfold maxLen; omega
        obtain ⟨f2, _, hlk⟩ := lookF hownr (p.extract 0 k) hex
        obtain ⟨fp, ft, fr⟩ := f2
        have l0 : (Instr.lookup 44 (.map (some M)) (.string (p.extract 0 k)) true).run Tryz.prog wr.drew = .ok (.tuple #[.agg #[.string fp, .string ft, .bool fr], .bool (Maps.has D (.string (p.extract 0 k).data.toList))]) wr.drew := hlk wr.drew rfl
        have l1 : ∀ o, (Instr.lookup 44 (.map (some M)) (.string (p.extract 0 k)) true).run Tryz.prog (wr.alloc o).drew = .ok (.tuple #[.agg #[.string fp, .string ft, .bool fr], .bool (Maps.has D (.string (p.extract 0 k).data.toList))]) (wr.alloc o).drew := fun o => hlk _ (Below.heap_alloc _ _ M hownr.lt)
        have hle : k ≤ p.size := by omega
        have HH : Hid ((decide (p.data.toList.getD k 0 = 47) && Maps.has D (.string (p.extract 0 k).data.toList)) = Maps.has D (.string (p.extract 0 k).data.toList)) := by
          show _ = _
          rw [decide_eq_true H47.out, Bool.true_and]
        have cA : ∀ o, (wr.alloc o).cell? ⟨w.heap.size, 0, none⟩ = some (.string p) := fun o => (((Below.refl _ wr).alloc (Nat.le_refl _) o).cell (p := ⟨w.heap.size, 0, none⟩) (by show w.heap.size < wr.heap.size; omega)).trans c0
        have cB : ∀ o, (wr.alloc o).cell? ⟨bx, 0, none⟩ = some (.map (some M)) := fun o => (((Below.refl _ wr).alloc (Nat.le_refl _) o).cell (p := ⟨bx, 0, none⟩) (by show bx < wr.heap.size; omega)).trans cb
        have HE : Hid (∀ o, Below (w.heap.size + 1) (w.alloc (.cells #[.string p, .string t, .bool r] 25)) (wr.alloc o).drew ∧ Below w.heap.size w (wr.alloc o).drew) := fun o => ⟨(HB.out.alloc (by omega) o).drew, (HF.out.alloc (by omega) o).drew⟩
        clear hlk hownr
        have HQ : Hid (∀ hb, Maps.has D (.string (p.extract 0 k).data.toList) = hb → (decide (p.data.toList.getD k 0 = 47) && Maps.has D (.string (p.extract 0 k).data.toList)) = hb) := fun hb h => HH.out.trans h
        obtain ⟨hb, hhb⟩ : ∃ hb, Maps.has D (.string (p.extract 0 k).data.toList) = hb := ⟨_, rfl⟩
        have HR : Hid ((decide (p.data.toList.getD k 0 = 47) && Maps.has D (.string (p.extract 0 k).data.toList)) = hb) := HQ.out hb hhb
        rw [hhb] at l0
        simp only [hhb] at l1
        clear hhb HH HQ
        cases hb with
        | true =>
          go_wp2
          go_region
          go_wp2
          go_ret
          refine ⟨?_, (HE.out _).2⟩
          have : thrB p D = true := List.any_eq_true.2 ⟨k, List.mem_range.2 hlt, HR.out⟩
          rw [this]
          rfl
        | false =>
          go_wp2
          go_region
          go_wp2
          refine ⟨⟨k + 1, by omega, by go_num, fun j hj => ?_, (HE.out _).1⟩, by simp [intOf]; omega⟩
          by_cases h : j < k
          · exact HL.out j h
          · obtain rfl : j = k := by omega
            exact HR.out
      · have H47 : Hid (¬ p.data.toList.getD k 0 = 47) := h47
        rw [decide_eq_false h47] at hq
        have hq' : ((p[k].toNat : Int) != 47) = true := hq
        clear hq h47 hownr
        go_wp2
        refine ⟨⟨k + 1, by omega, by go_num, fun j hj => ?_, HB.out⟩, by simp [intOf]; omega⟩
        by_cases h : j < k
        · exact HL.out j h
        · obtain rfl : j = k := by omega
          rw [decide_eq_false H47.out, Bool.false_and]
    · have hki : ¬ (k : Int) < p.size := by omega
      have e : thrB p D = false := by
        unfold thrB
        rw [List.any_eq_false]
        intro j hj
        rw [HL.out j (by have := List.mem_range.1 hj; omega)]
        decide
      have HE : Hid (thrB p D = false) := e
      clear e hownr
      go_wp2
      go_ret
      exact ⟨by rw [HE.out]; rfl, HF.out⟩

theorem thrB_byD (p : ByteArray) (M : List Fl) : thrB p (byD M) = M.any fun g => inB p g.pa := by
  rw [Bool.eq_iff_iff]
  unfold thrB
  rw [List.any_eq_true, List.any_eq_true]
  constructor
  · rintro ⟨i, hi, h⟩
    rw [Bool.and_eq_true, has_byD, List.any_eq_true] at h
    obtain ⟨h1, g, hg, h2⟩ := h
    exact ⟨g, hg, (inB_iff _ _).2 ⟨i, List.mem_range.1 hi, of_decide_eq_true h1, of_decide_eq_true h2⟩⟩
  · rintro ⟨g, hg, h⟩
    obtain ⟨i, h1, h2, h3⟩ := (inB_iff _ _).1 h
    refine ⟨i, List.mem_range.2 h1, ?_⟩
    rw [Bool.and_eq_true, has_byD, List.any_eq_true]
    exact ⟨decide_eq_true h2, g, hg, decide_eq_true h3⟩

theorem anyD (L M : List Fl) : (L.any fun f => thrB f.pa (byD M)) = thruF L M := by
  unfold thruF
  congr 1
  funext f
  exact thrB_byD _ _
end Go.Proofs.YtkmlooepakinfaaGreatDoor

/- Check: does some path go through a file? -/
namespace Go.Proofs.YtkmlooepakinfaaGreatDoor
open Go.RowKit Go.Shelf Go.Maps Go.WideMaps

/-- How the search ends. -/
def IdxP (b : Bool) (w : World) (e : Ending) (w' : World) : Prop := ∃ r : Int, e = .returned (.int .i64 r) ∧ decide (0 ≤ r) = b ∧ Below w.heap.size w w'

set_option maxHeartbeats 4000000 in
set_option maxRecDepth 100000 in
theorem idxT_any (ao : Option Addr) (cap : Nat) (L : List Fl) (bx M n : Nat) (D : DataW Unit) (w : World) (hn : L.length ≤ 1000000) (hl : IsFl w ao L) (hs : ∀ f ∈ L, f.pa.size ≤ 1000000) (hbx : w.cell? ⟨bx, 0, none⟩ = some (.map (some M))) (hown : w.ownsMap Tryz.prog 9 fileE M n D) :
    Calls Tryz.prog 63 #[.slice ao L.length cap, .func (.func 37) #[] #[.pointer (some ⟨bx, 0, none⟩)]] w (IdxP (L.any fun f => thrB f.pa D) w) := by
  have hbl : bx < w.heap.size := by simpa using World.block_lt_of_cell? w _ hbx
  have hMl := hown.lt
  have HL : Hid (IsFl w ao L) := hl
  have HS : Hid (∀ f ∈ L, f.pa.size ≤ 1000000) := hs
  have HX : Hid (w.cell? ⟨bx, 0, none⟩ = some (.map (some M))) := hbx
  have HO : Hid (w.ownsMap Tryz.prog 9 fileE M n D) := hown
  have hn1 : (L.length : Int) ≤ 1000000 := by omega
  clear hl hs hbx hown
  go_enter Tryz.func63, Tryz.ntmps63
  go_wp2
  go_loopw [8] (fun i wr => ∃ k : Nat, k ≤ L.length ∧ i = .int .i64 k ∧ (∀ j, (hj : j < L.length) → j < k → thrB L[j].pa D = false) ∧ Below w.heap.size w wr) (fun i _ => L.length - (intOf i).toNat)
  case atStart => exact ⟨0, by omega, rfl, by omega, Below.refl _ _⟩
  case round =>
    obtain ⟨k, hk, rfl, hlo, hb⟩ := hrel
    have HN : Hid (∀ j, (hj : j < L.length) → j < k → thrB L[j].pa D = false) := hlo
    have HB : Hid (Below w.heap.size w wr) := hb
    have hsz := hb.size
    clear hlo
    by_cases hlt : k < L.length
    · have HLB := HL.out.below hb (Nat.le_refl _)
      rcases HLB with h | ⟨g, o, rfl, hgr, hc⟩
      · exfalso; rw [h] at hlt; exact absurd hlt (by simp)
      obtain ⟨c0, c1, c2⟩ := hc k hlt
      have hpa := HS.out _ (List.getElem_mem hlt)
      have HC : Hid (Calls Tryz.prog 37 #[encF L[k], .pointer (some ⟨bx, 0, none⟩)] wr fun e w' => e = .returned (.bool (thrB L[k].pa D)) ∧ Below wr.heap.size wr w') :=
        thr1_any L[k] bx M n D wr ((hb.cell (p := ⟨bx, 0, none⟩) hbl).trans HX.out) (ownsMap_heap HO.out (hb.block M hMl)) hpa
      have HP : Hid (∀ b, thrB L[k].pa D = b → b = true → (L.any fun f => thrB f.pa D) = true) := fun b h1 h2 => List.any_eq_true.2 ⟨L[k], List.getElem_mem hlt, h1.trans h2⟩
      clear hc hb hpa
      unfold encF at HC
      generalize hx : L[k] = x at c0 c1 c2 HC HP
      have HK : Hid (L[k] = x) := hx
      clear hx
      obtain ⟨p, t, r⟩ := x
      simp only at c0 c1 c2 HC HP
      obtain ⟨b, hb2⟩ : ∃ b, thrB p D = b := ⟨_, rfl⟩
      have HE : Hid (thrB p D = b) := hb2
      rw [hb2] at HC
      clear hb2
      cases b with
      | true =>
        go_wp2_with (first | (go_at_call 37; refine HC.out.mono ?_; rintro e w1 ⟨rfl, hb1⟩) | go_in)
        go_ret
        refine ⟨k, rfl, ?_, HB.out.trans (hb1.mono hsz)⟩
        rw [HP.out true HE.out rfl]
        simp
      | false =>
        go_wp2_with (first | (go_at_call 37; refine HC.out.mono ?_; rintro e w1 ⟨rfl, hb1⟩) | go_in)
        refine ⟨⟨k + 1, by omega, by go_num, fun j hj hjk => ?_, HB.out.trans (hb1.mono hsz)⟩, by simp [intOf]; omega⟩
        by_cases h : j < k
        · exact HN.out j hj h
        · obtain rfl : j = k := by omega
          rw [HK.out]
          exact HE.out
    · clear hb
      go_wp2
      go_ret
      refine ⟨-1, rfl, ?_, HB.out⟩
      rw [show (L.any fun f => thrB f.pa D) = false from List.any_eq_false.2 fun f hf => by
        obtain ⟨j, hj, rfl⟩ := List.getElem_of_mem hf
        rw [HN.out j hj (by omega)]
        decide]
      rfl

set_option maxHeartbeats 2000000 in
set_option maxRecDepth 100000 in
theorem cfT_of (ao : Option Addr) (ln cap bx : Nat) (b : Bool) (w : World) (HI : Hid (Calls Tryz.prog 63 #[.slice ao ln cap, .func (.func 37) #[] #[.pointer (some ⟨bx, 0, none⟩)]] w (IdxP b w))) :
    Calls Tryz.prog 36 #[.slice ao ln cap, .func (.func 37) #[] #[.pointer (some ⟨bx, 0, none⟩)]] w fun e w' => e = .returned (.bool b) ∧ Below w.heap.size w w' := by
  go_enter Tryz.func36, Tryz.ntmps36
  go_wp2_with fail
  refine HI.out.mono ?_
  rintro e w1 ⟨r, rfl, hr, hb1⟩
  have HB1 : Hid (Below w.heap.size w w1) := hb1
  have HR : Hid (decide (0 ≤ r) = b) := hr
  clear hb1 hr
  go_wp2
  go_ret
  exact ⟨by rw [← HR.out]; rfl, HB1.out⟩

set_option maxHeartbeats 2000000 in
set_option maxRecDepth 100000 in
theorem someGo_any (ao : Option Addr) (cap : Nat) (L : List Fl) (M n : Nat) (D : DataW Unit) (w : World) (hn : L.length ≤ 1000000) (hl : IsFl w ao L) (hs : ∀ f ∈ L, f.pa.size ≤ 1000000) (hown : w.ownsMap Tryz.prog 9 fileE M n D) :
    Calls Tryz.prog 18 #[.slice ao L.length cap, .map (some M)] w fun e w' => e = .returned (.bool (L.any fun f => thrB f.pa D)) ∧ Below w.heap.size w w' := by
  have hA : Below w.heap.size w (w.alloc (.cells #[.map (some M)] 44)) := (Below.refl _ w).alloc (Nat.le_refl _) _
  have HC : Hid (Calls Tryz.prog 36 #[.slice ao L.length cap, .func (.func 37) #[] #[.pointer (some ⟨w.heap.size, 0, none⟩)]] (w.alloc (.cells #[.map (some M)] 44)) fun e w' => e = .returned (.bool (L.any fun f => thrB f.pa D)) ∧ Below w.heap.size w w') :=
    (cfT_of ao L.length cap w.heap.size _ _ (idxT_any ao cap L w.heap.size M n D (w.alloc (.cells #[.map (some M)] 44)) hn (hl.below hA (Nat.le_refl _)) hs (Lib.cell_of_heap (heap_alloc_new w _) 0) (hown.alloc _))).mono fun e w' h => ⟨h.1, hA.trans (h.2.mono hA.size)⟩
  clear hA hl hs hown
  go_enter Tryz.func18, Tryz.ntmps18
  go_wp2_with (first | (go_at_call 36; refine HC.out.mono ?_; rintro e w1 ⟨rfl, hb1⟩) | go_in)
  go_ret
  exact ⟨rfl, hb1⟩
end Go.Proofs.YtkmlooepakinfaaGreatDoor

/- Check, whole. -/
namespace Go.Proofs.YtkmlooepakinfaaGreatDoor
open Go.RowKit Go.Shelf Go.Maps Go.WideMaps

theorem pathOk_size {p : ByteArray} (h : pathOk p = true) : p.size ≤ 100 := by
  unfold pathOk at h
  rw [Bool.and_eq_true] at h
  exact of_decide_eq_true h.1

set_option maxHeartbeats 2000000 in
set_option maxRecDepth 100000 in
theorem Check_many (ao : Option Addr) (n cap : Nat) (w : World) (hn : 60 < n) :
    Calls Tryz.prog 9 #[.slice ao n cap] w fun e w' => e = .returned (.int .i64 2) ∧ Below w.heap.size w w' := by
  have hn1 : 60 < (n : Int) := by omega
  clear hn
  go_enter Tryz.func9, Tryz.ntmps9
  go_wp2
  go_ret
  exact ⟨rfl, Below.refl _ _⟩

set_option maxHeartbeats 4000000 in
set_option maxRecDepth 100000 in
theorem Check_few (ao : Option Addr) (cap : Nat) (L : List Fl) (w : World) (hn : L.length ≤ 60) (hl : IsFl w ao L) (hm : MaxIs w) :
    Calls Tryz.prog 9 #[.slice ao L.length cap] w fun e w' => e = .returned (.int .i64 (chF L)) ∧ Below w.heap.size w w' := by
  have HL : Hid (IsFl w ao L) := hl
  have HM : Hid (MaxIs w) := hm
  have HN : Hid (L.length ≤ 60) := hn
  have hn1 : (L.length : Int) ≤ 60 := by omega
  clear hl hm hn
  go_enter Tryz.func9, Tryz.ntmps9
  go_wp2
  go_loopw [12] (fun i wr => ∃ k : Nat, k ≤ L.length ∧ i = .int .i64 k ∧ (∀ j, (hj : j < L.length) → j < k → flE L[j] = 0) ∧ Below w.heap.size w wr) (fun i _ => L.length - (intOf i).toNat)
  case atStart => exact ⟨0, by omega, rfl, by omega, Below.refl _ _⟩
  case round =>
    obtain ⟨k, hk, rfl, hlo, hb⟩ := hrel
    have HO : Hid (∀ j, (hj : j < L.length) → j < k → flE L[j] = 0) := hlo
    have HB : Hid (Below w.heap.size w wr) := hb
    have hsz := hb.size
    have HLB : Hid (IsFl wr ao L) := HL.out.below hb (Nat.le_refl _)
    clear hlo
    by_cases hlt : k < L.length
    · rcases HLB.out with h | ⟨g, o, rfl, hgr, hc⟩
      · exfalso; rw [h] at hlt; exact absurd hlt (by simp)
      obtain ⟨c0, c1, c2⟩ := hc k hlt
      have HF : Hid (Calls Tryz.prog 25 #[encF L[k]] (wr.alloc (.cells #[.string L[k].pa, .string L[k].tx, .bool L[k].rn] 25)) fun e w' => e = .returned (.int .i64 (flE L[k])) ∧ Below w.heap.size w w') := by
        have hA : Below w.heap.size w (wr.alloc (.cells #[.string L[k].pa, .string L[k].tx, .bool L[k].rn] 25)) := hb.alloc hsz _
        refine (fileError_any L[k] _ ?_).mono fun e w' h => ⟨h.1, hA.trans (h.2.mono hA.size)⟩
        exact HM.out.up (hA.trans ((flW_bel _ _).mono hA.size))
      have HQ : Hid (flE L[k] ≠ 0 → chF L = flE L[k]) := fun hne => by
        have h1 := flEs_no L k hlt (fun j hj hjk => HO.out j hj hjk) hne
        unfold chF
        have := HN.out
        rw [if_neg (by omega), h1, if_neg hne]
      clear hc hb HLB
      unfold encF at HF
      generalize hx : L[k] = x at c0 c1 c2 HF HQ
      have HK : Hid (L[k] = x) := hx
      clear hx
      obtain ⟨p, t, r⟩ := x
      simp only at c0 c1 c2 HF
      obtain ⟨ev, hev⟩ : ∃ ev, flE ⟨p, t, r⟩ = ev := ⟨_, rfl⟩
      have HE : Hid (flE ⟨p, t, r⟩ = ev) := hev
      rw [hev] at HF HQ
      clear hev
      by_cases h0 : ev = 0
      · subst h0
        go_wp2_with (first | (go_at_call 25; refine HF.out.mono ?_; rintro e w1 ⟨rfl, hb1⟩) | go_in)
        refine ⟨⟨k + 1, by omega, by go_num, fun j hj hjk => ?_, hb1⟩, by simp [intOf]; omega⟩
        by_cases h : j < k
        · exact HO.out j hj h
        · obtain rfl : j = k := by omega
          rw [HK.out]
          exact HE.out
      · have H0 : Hid (ev ≠ 0) := h0
        have h0' : (ev != 0) = true := by simpa using h0
        clear h0
        go_wp2_with (first | (go_at_call 25; refine HF.out.mono ?_; rintro e w1 ⟨rfl, hb1⟩) | go_in)
        go_ret
        exact ⟨by rw [HQ.out H0.out]; rfl, hb1⟩
    · have h0 : flEs L = 0 := flEs_yes L fun j hj => HO.out j hj (by omega)
      have hall : ∀ f ∈ L, f.pa.size ≤ 100 := fun f hf => pathOk_size (flE_pa (flEs_all h0 f hf)).1
      have hN := HN.out
      have hki : ¬ (k : Int) < (L.length : Int) := by omega
      have HV : Hid (chF L = if (upF L && !thruF L L) = true then 0 else 6) := by
        show _ = _
        unfold chF
        rw [if_neg (by omega), if_pos h0]
      have HBy : Hid (Calls Tryz.prog 17 #[.slice ao L.length cap] wr fun e w' => e = .returned (.map (some wr.heap.size)) ∧ w'.ownsMap Tryz.prog 9 fileE wr.heap.size L.length (byD L) ∧ Below wr.heap.size wr w') :=
        byPath_any ao cap L wr (by omega) HLB.out (fun f hf => by have := hall f hf; unfold maxLen; omega)
      have HSo : Hid (∀ W, Below wr.heap.size wr W → Calls Tryz.prog 26 #[.slice ao L.length cap, .func (.func 27) #[] #[]] W (SortedP L W)) := fun W hW =>
        isSorted_any ao cap L W (by omega) (HLB.out.below hW (Nat.le_refl _))
      have HGo : Hid (∀ W, Below wr.heap.size wr W → W.ownsMap Tryz.prog 9 fileE wr.heap.size L.length (byD L) → Calls Tryz.prog 18 #[.slice ao L.length cap, .map (some wr.heap.size)] W fun e w' => e = .returned (.bool (thruF L L)) ∧ Below W.heap.size W w') := fun W hW ho => by
        have := someGo_any ao cap L wr.heap.size L.length (byD L) W (by omega) (HLB.out.below hW (Nat.le_refl _)) (fun f hf => by have := hall f hf; omega) ho
        rw [anyD] at this
        exact this
      have HU1 : Hid (adjF L → Maps.size (byD L) = L.length → upF L = true) := fun h1 h2 => up_of h1 ((size_byD L).2.1 h2)
      have HU2 : Hid (upF L = true → adjF L ∧ Maps.size (byD L) = L.length) := fun h => ⟨up_adj h, (size_byD L).2.2 (up_nodup h)⟩
      have hle := (size_byD L).1
      clear hb h0 hall HM HO HL HLB
      go_wp2_with fail
      refine HBy.out.mono ?_
      rintro e w1 ⟨rfl, hown1, hb1⟩
      have HO1 : Hid (w1.ownsMap Tryz.prog 9 fileE wr.heap.size L.length (byD L)) := hown1
      have HB1 : Hid (Below wr.heap.size wr w1) := hb1
      clear hown1 hb1
      go_wp2_with fail
      refine (HSo.out w1 HB1.out).mono ?_
      rintro e w2 ⟨b, rfl, hbi, hb2⟩
      have HB2 : Hid (Below wr.heap.size wr w2) := HB1.out.trans (hb2.mono HB1.out.size)
      have HO2 : Hid (w2.ownsMap Tryz.prog 9 fileE wr.heap.size L.length (byD L)) := ownsMap_heap HO1.out (hb2.block _ HO1.out.lt)
      have HI : Hid (b = true ↔ adjF L) := hbi
      have hln : ∀ ty, (Builtin.len_ #[44] ty #[.map (some wr.heap.size)]).run Tryz.prog w2 = .ok (.int .i64 (Maps.size (byD L) : Int)) w2 := fun ty => HO2.out.len Tryz.underlying44 ty
      have HGo2 : Hid (Calls Tryz.prog 18 #[.slice ao L.length cap, .map (some wr.heap.size)] w2 fun e w' => e = .returned (.bool (thruF L L)) ∧ Below w2.heap.size w2 w') := HGo.out w2 HB2.out HO2.out
      have HBw : Hid (Below w.heap.size w w2) := HB.out.trans (HB2.out.mono hsz)
      have hsz2 : w.heap.size ≤ w2.heap.size := HBw.out.size
      clear hbi hb2 HGo HSo HBy HO1 HB1 HB2 HO2 HB
      cases b with
      | false =>
        have HZ : Hid (chF L = 6) := by
          show _ = _
          rw [HV.out, if_neg]
          intro h
          rw [Bool.and_eq_true] at h
          exact absurd (HI.out.2 (HU2.out h.1).1) (by decide)
        go_wp2
        go_ret
        exact ⟨by rw [HZ.out]; rfl, HBw.out⟩
      | true =>
        by_cases hlt2 : Maps.size (byD L) < L.length
        · have HZ : Hid (chF L = 6) := by
            show _ = _
            rw [HV.out, if_neg]
            intro h
            rw [Bool.and_eq_true] at h
            have := (HU2.out h.1).2
            omega
          have hlt3 : (Maps.size (byD L) : Int) < (L.length : Int) := by omega
          clear hlt2
          go_wp2
          go_ret
          exact ⟨by rw [HZ.out]; rfl, HBw.out⟩
        · have hlt3 : ¬ (Maps.size (byD L) : Int) < (L.length : Int) := by omega
          have hup : upF L = true := HU1.out (HI.out.1 rfl) (by omega)
          obtain ⟨b, hb⟩ : ∃ b, thruF L L = b := ⟨_, rfl⟩
          have HV2 : Hid (chF L = if (!b) = true then 0 else 6) := by
            show _ = _
            rw [HV.out, hup, hb, Bool.true_and]
          rw [hb] at HGo2
          clear hlt2 hup hb HV HI
          cases b with
          | true =>
            go_wp2_with (first | (go_at_call 18; refine HGo2.out.mono ?_; rintro e w3 ⟨rfl, hb3⟩) | go_in)
            go_ret
            exact ⟨by rw [HV2.out]; rfl, HBw.out.trans (hb3.mono hsz2)⟩
          | false =>
            go_wp2_with (first | (go_at_call 18; refine HGo2.out.mono ?_; rintro e w3 ⟨rfl, hb3⟩) | go_in)
            go_ret
            exact ⟨by rw [HV2.out]; rfl, HBw.out.trans (hb3.mono hsz2)⟩

/-- Check, at whatever list. -/
theorem Check_any (ao : Option Addr) (cap : Nat) (L : List Fl) (w : World) (hl : IsFl w ao L) (hm : MaxIs w) :
    Calls Tryz.prog 9 #[.slice ao L.length cap] w fun e w' => e = .returned (.int .i64 (chF L)) ∧ Below w.heap.size w w' := by
  by_cases h : 60 < L.length
  · have e : chF L = 2 := by unfold chF; rw [if_pos h]
    rw [e]
    exact Check_many ao _ cap w h
  · exact Check_few ao cap L w (by omega) hl hm
end Go.Proofs.YtkmlooepakinfaaGreatDoor

/- The document's CheckTree. -/
namespace Go.Proofs.YtkmlooepakinfaaGreatDoor
open Go.RowKit Go.Shelf Go.Maps Go.WideMaps

/-- Two files may be in one tree, the one ahead of the other. -/
def fit2 (f g : Fl) : Prop := pth f < pth g ∧ inB g.pa f.pa = false ∧ inB f.pa g.pa = false
theorem inB_self (p : ByteArray) : inB p p = false := by unfold inB; simp
theorem fit_iff (L : List Fl) : (L.Pairwise fit2) ↔ (upF L && !thruF L L) = true := by
  rw [Bool.and_eq_true, Bool.not_eq_true']
  constructor
  · intro h
    refine ⟨decide_eq_true (h.imp fun hh => hh.1), ?_⟩
    unfold thruF
    rw [List.any_eq_false]
    intro f hf
    rw [Bool.not_eq_true, List.any_eq_false]
    intro g hg
    obtain ⟨i, hi, rfl⟩ := List.getElem_of_mem hf
    obtain ⟨j, hj, rfl⟩ := List.getElem_of_mem hg
    have hp := List.pairwise_iff_getElem.1 h
    rcases Nat.lt_trichotomy i j with hij | hij | hij
    · rw [(hp i j hi hj hij).2.2]; decide
    · subst hij; rw [inB_self]; decide
    · rw [(hp j i hj hi hij).2.1]; decide
  · rintro ⟨h1, h2⟩
    have h3 := up_pw h1
    unfold thruF at h2
    rw [List.any_eq_false] at h2
    rw [List.pairwise_iff_getElem] at h3 ⊢
    intro i j hi hj hij
    refine ⟨h3 i j hi hj hij, ?_, ?_⟩
    · have := h2 L[j] (List.getElem_mem hj)
      rw [Bool.not_eq_true, List.any_eq_false] at this
      simpa using this L[i] (List.getElem_mem hi)
    · have := h2 L[i] (List.getElem_mem hi)
      rw [Bool.not_eq_true, List.any_eq_false] at this
      simpa using this L[j] (List.getElem_mem hj)
end Go.Proofs.YtkmlooepakinfaaGreatDoor

/- What Is answers (of digests), the program's and the document's own. -/
namespace Go.Proofs.YtkmlooepakinfaaGreatDoor
open Go.RowKit

theorem d_size {s : ByteArray} {l : List UInt8} (h : s.data.toList = l) : s.size = l.length := by rw [← h]; exact Array.length_toList.symm
theorem d_bytes {s : ByteArray} {l : List UInt8} (h : s.data.toList = l) : s = ⟨l.toArray⟩ := by
  subst h
  cases s
  simp
theorem d_get (s : ByteArray) (k : Nat) (h : k < s.size) : s.toList[k]? = some s[k] := by
  rw [Lib.toList_data]
  have : k < s.data.toList.length := by rw [← d_size (s := s) rfl]; exact h
  rw [List.getElem?_eq_getElem this]
  rfl
theorem d_all_false (s : ByteArray) (k : Nat) (h : k < s.size) (f : UInt8 → Bool) (hf : f s[k] = false) : s.toList.all f = false := by
  rw [List.all_eq_false]
  exact ⟨s[k], List.mem_of_getElem? (d_get s k h), by simp [hf]⟩
theorem d_all_true (s : ByteArray) (f : UInt8 → Bool) (hf : ∀ j (hj : j < s.size), f s[j] = true) : s.toList.all f = true := by
  rw [List.all_eq_true]
  intro c hc
  obtain ⟨j, hj, rfl⟩ := List.getElem_of_mem hc
  have hj' : j < s.size := by rw [Lib.toList_data] at hj; rw [d_size (s := s) rfl]; exact hj
  have := d_get s j hj'
  rw [List.getElem?_eq_getElem hj] at this
  rw [Option.some.inj this]
  exact hf j hj'

def digB (c : Int) : Bool := decide (48 ≤ c ∧ c ≤ 57) || decide (97 ≤ c ∧ c ≤ 102)
def digOk (s : ByteArray) : Bool := decide (s.size = 64) && s.toList.all fun c => digB c.toNat

theorem dig_cls (c : Int) : (digB c = true ∧ 48 ≤ c ∧ c ≤ 57) ∨ (digB c = true ∧ decide (c ≤ 57) = false ∧ 97 ≤ c ∧ c ≤ 102) ∨ (digB c = false ∧ c < 48) ∨ (digB c = false ∧ 48 ≤ c ∧ decide (c ≤ 57) = false ∧ c < 97) ∨ (digB c = false ∧ 97 ≤ c ∧ decide (c ≤ 57) = false ∧ decide (c ≤ 102) = false) := by
  simp [digB]
  omega

set_option maxHeartbeats 1000000 in
theorem isDigit_any (c : Int) (w : World) : Calls Tryz.prog 59 #[.int .u8 c] w fun e w' => e = .returned (.bool (digB c)) ∧ w' = w := by
  rcases dig_cls c with ⟨h, c1, c2⟩ | ⟨h, c1, c2, c3⟩ | ⟨h, c1⟩ | ⟨h, c1, c2, c3⟩ | ⟨h, c1, c2, c3⟩
  all_goals
    have H : Hid _ := h
    clear h
    go_enter Tryz.func59, Tryz.ntmps59
    go_wp2
    go_ret
    exact ⟨by rw [H.out]; rfl, rfl⟩

set_option maxHeartbeats 1000000 in
set_option maxRecDepth 100000 in
theorem Is_any (s : ByteArray) (w : World) : Calls Tryz.prog 32 #[.string s] w fun e w' => e = .returned (.bool (digOk s)) ∧ w' = w := by
  by_cases h : s.size = 64
  · have hz : ((s.size : Int) != 64) = false := by simp; omega
    have hz1 : (s.size : Int) ≤ 64 := by omega
    have HN : Hid (digOk s = s.toList.all fun c => digB c.toNat) := by show _ = _; simp [digOk, h]
    have HZ : Hid _ := h
    clear h
    go_enter Tryz.func32, Tryz.ntmps32
    go_wp2
    go_loop [9] (fun i => ∃ k : Nat, k ≤ s.size ∧ i = .int .i64 k ∧ ∀ j (hj : j < s.size), j < k → digB s[j].toNat = true) (fun i => s.size - (intOf i).toNat)
    case atStart => exact ⟨0, Nat.zero_le _, rfl, by omega⟩
    case round =>
      obtain ⟨k, hk, rfl, hlo⟩ := hrel
      have HL : Hid _ := hlo
      clear hlo
      by_cases hlt : k < s.size
      · by_cases hb : digB s[k].toNat = true
        · go_wp2_with (go_at_call 59; refine (isDigit_any _ _).mono ?_; rintro e w' ⟨rfl, rfl⟩; rw [hb])
          refine ⟨⟨k + 1, by omega, by go_num, fun j hj hjk => ?_⟩, by simp [intOf]; omega⟩
          by_cases h : j < k
          · exact HL.out j hj h
          · obtain rfl : j = k := by omega
            exact hb
        · have hb' : digB s[k].toNat = false := by simpa using hb
          clear hb
          have HF : Hid (digOk s = false) := by show _ = _; rw [HN.out]; exact d_all_false s k hlt _ hb'
          go_wp2_with (go_at_call 59; refine (isDigit_any _ _).mono ?_; rintro e w' ⟨rfl, rfl⟩; rw [hb'])
          go_ret
          exact ⟨by rw [HF.out]; rfl, rfl⟩
      · have HF : Hid (digOk s = true) := by show _ = _; rw [HN.out]; exact d_all_true s _ (fun j hj => HL.out j hj (by omega))
        go_wp2
        go_ret
        exact ⟨by rw [HF.out]; rfl, rfl⟩
  · have hz : ((s.size : Int) != 64) = true := by rw [bne_iff_ne]; omega
    have HF : Hid (digOk s = false) := by show _ = _; simp [digOk, h]
    clear h
    go_enter Tryz.func32, Tryz.ntmps32
    go_wp2
    go_ret
    exact ⟨by rw [HF.out]; rfl, rfl⟩

def hexd (n : Nat) : Nat := if n < 10 then 48 + n else 87 + n
def hexI (c : Int) : Int := if 48 ≤ c ∧ c ≤ 57 then c - 48 else if 97 ≤ c ∧ c ≤ 102 then c - 87 else -1
theorem hex_at (k : Nat) (hk : k < 16) : hexI (hexd k) = k := by
  unfold hexd hexI
  split <;> split <;> (try split) <;> omega
theorem hex_no (c : Nat) (h : ∀ k, k < 16 → hexd k ≠ c) : hexI c = -1 := by
  unfold hexI
  split
  · have := h (c - 48) (by omega)
    unfold hexd at this
    rw [if_pos (by omega)] at this
    omega
  · split
    · have := h (c - 87) (by omega)
      unfold hexd at this
      rw [if_neg (by omega)] at this
      omega
    · rfl
theorem hexI_neg (c : Int) : decide (hexI c < 0) = !digB c := by
  unfold hexI digB
  by_cases h1 : 48 ≤ c ∧ c ≤ 57
  · rw [if_pos h1]; simp [h1]
  · rw [if_neg h1]
    by_cases h2 : 97 ≤ c ∧ c ≤ 102
    · rw [if_pos h2]; simp [h2]; omega
    · rw [if_neg h2]; simp [h1, h2]
theorem hex_digits : ∀ n, n < 16 → (ByteArray.extract ⟨#[48, 49, 50, 51, 52, 53, 54, 55, 56, 57, 97, 98, 99, 100, 101, 102]⟩ n (n + 1)).data.toList = [UInt8.ofNat (hexd n)] := by
  intro n hn
  rw [Lib.extract_data]
  revert n
  decide
end Go.Proofs.YtkmlooepakinfaaGreatDoor

/- What wire's packer does with a result, and Result. -/
namespace Go.Proofs.YtkmlooepakinfaaGreatDoor
open Go.RowKit Go.Shelf

abbrev Rv (c : Int) (s : ByteArray) (d : Int) : Value := .agg #[.int .i64 c, .string s, .int .i64 d]
def noN (n : Int) : Bool := decide (n < 0) || decide (9007199254740991 < n)
theorem noN_false {n : Int} (h : noN n = false) : 0 ≤ n ∧ n ≤ 9007199254740991 := by simp [noN] at h; omega
theorem isNoNumber_noN (n : Int) (w : World) : Calls Tryz.prog 165 #[.int .i64 n] w fun e w' => e = .returned (.bool (noN n)) ∧ w' = w := isNoNumber_any n w
theorem bcell {W w1 : World} (hb : Below W.heap.size W w1) : (∀ b o, b < W.heap.size → w1.cell? ⟨b, o, none⟩ = W.cell? ⟨b, o, none⟩) ∧ (∀ b o, b < W.heap.size → w1.frozen? ⟨b, o, none⟩ = W.frozen? ⟨b, o, none⟩) :=
  ⟨fun b o h => hb.cell (p := ⟨b, o, none⟩) h, fun b o h => hb.frozen (p := ⟨b, o, none⟩) h⟩

def pkR (c : Nat) (s : ByteArray) (d : Nat) : List UInt8 := pk c ++ (pkT s ++ pk d)

theorem pk_alloc {B b : Nat} {bs : List Value} {w : World} (h : PkIs B b bs w) (o : Obj) : PkIs B b bs (w.alloc o) := by
  rcases h with ⟨hB, v, hh, hown, hne⟩ | ⟨hB, v, hh, hown, hne⟩
  · exact Or.inl ⟨hB, v, (Lib.alloc_old w o b (Array.getElem?_eq_some_iff.1 hh).1).trans hh, hown.alloc o, hne⟩
  · exact Or.inr ⟨hB, v, (Lib.alloc_old w o b (Array.getElem?_eq_some_iff.1 hh).1).trans hh, hown.alloc o, hne⟩
theorem pk_lt {B b : Nat} {bs : List Value} {w : World} (h : PkIs B b bs w) : b < w.heap.size := by
  rcases h with h | h
  · exact h.lt
  · exact h.lt
theorem kp_cells {B b k : Nat} {w w' : World} {c : Array Value} {T : TypeId} (h : Kp B b w w') (hk : w.heap[k]? = some (.cells c T (0, 0))) (hb : k ≠ b) (hT : T ≠ 5) : w'.heap[k]? = some (.cells c T (0, 0)) :=
  h.2 k _ hk (fun e => hb (Option.some.inj e)) (fun c' fz e => hT (by injection e))

theorem digOk_size {s : ByteArray} (h : digOk s = true) : s.size = 64 := by
  unfold digOk at h
  rw [Bool.and_eq_true] at h
  simpa using h.1
theorem pkR_len (c d : Nat) (s : ByteArray) (hc : c ≤ 9007199254740991) (hd : d ≤ 9007199254740991) (hs : s.size ≤ 100000) : (pkR c s d).length ≤ 100024 := by
  have h1 := pk_len8 c hc
  have h2 := pk_len8 d hd
  have h3 := pk_len8 s.size (by omega)
  have h4 := size_of (s := s) rfl
  simp only [pkR, pkT, List.length_append]
  omega

def okR (c : Int) (s : ByteArray) (d : Int) : Prop := noN c = false ∧ noN d = false ∧ digOk s = true
end Go.Proofs.YtkmlooepakinfaaGreatDoor

/- What wire's nodesError answers, and what it asks of each node. -/
namespace Go.Proofs.YtkmlooepakinfaaGreatDoor
open Go.RowKit Go.Shelf

/-- A node: its name, its kind, its digest. -/
abbrev Nd : Type := ByteArray × Int × ByteArray
abbrev Nv (n : Nd) : Value := .agg #[.string n.1, .int .i64 n.2.1, .string n.2.2]
def kindNo (k : Int) : Bool := (k != 1) && (k != 2) && (k != 3)

set_option maxHeartbeats 1000000 in
theorem isNoKind_any (k : Int) (w : World) : Calls Tryz.prog 144 #[.int .i64 k] w fun e w' => e = .returned (.bool (kindNo k)) ∧ w' = w := by
  by_cases h1 : k = 1
  · subst h1
    go_enter Tryz.func144, Tryz.ntmps144
    go_wp2
    go_ret
    exact ⟨rfl, rfl⟩
  by_cases h2 : k = 2
  · subst h2
    go_enter Tryz.func144, Tryz.ntmps144
    go_wp2
    go_ret
    exact ⟨rfl, rfl⟩
  by_cases h3 : k = 3
  · subst h3
    go_enter Tryz.func144, Tryz.ntmps144
    go_wp2
    go_ret
    exact ⟨rfl, rfl⟩
  have e1 : (k != 1) = true := by rw [bne_iff_ne]; exact h1
  have e2 : (k != 2) = true := by rw [bne_iff_ne]; exact h2
  have e3 : (k != 3) = true := by rw [bne_iff_ne]; exact h3
  have HK : Hid (kindNo k = true) := by show _ = _; simp [kindNo, e1, e2, e3]
  clear h1 h2 h3
  go_enter Tryz.func144, Tryz.ntmps144
  go_wp2
  go_ret
  exact ⟨by rw [HK.out]; rfl, rfl⟩

def ndE (n : Nd) : Int := if nameOk n.1 = false then 1 else if digOk n.2.2 = false then 1 else if kindNo n.2.1 = true then 7 else 0

set_option maxHeartbeats 1000000 in
theorem nodeError_any (a d : ByteArray) (k : Int) (w : World) (ha : a.size ≤ maxLen) :
    Calls Tryz.prog 121 #[.agg #[.string a, .int .i64 k, .string d]] w fun e w' => e = .returned (.int .i64 (ndE (a, k, d))) ∧ Below w.heap.size w w' := by
  have HB : Hid (Below w.heap.size w (w.alloc (.cells #[.string a, .int .i64 k, .string d] 87))) := (Below.refl _ _).alloc (Nat.le_refl _) _
  by_cases h1 : nameOk a = true
  · by_cases h2 : digOk d = true
    · by_cases h3 : kindNo k = true
      · have HR : Hid (ndE (a, k, d) = 7) := by show _ = _; simp [ndE, h1, h2, h3]
        go_enter Tryz.func121, Tryz.ntmps121
        go_wp2_with fail
        refine (IsName_any a _ ha).mono ?_
        rintro e w1 ⟨rfl, rfl⟩
        rw [h1]
        go_wp2_with fail
        refine (Is_any d _).mono ?_
        rintro e w1 ⟨rfl, rfl⟩
        rw [h2]
        go_wp2_with fail
        refine (isNoKind_any k _).mono ?_
        rintro e w1 ⟨rfl, rfl⟩
        rw [h3]
        go_wp2
        go_ret
        exact ⟨by rw [HR.out]; rfl, HB.out⟩
      · have h3' : kindNo k = false := by simpa using h3
        have HR : Hid (ndE (a, k, d) = 0) := by show _ = _; simp [ndE, h1, h2, h3']
        clear h3
        go_enter Tryz.func121, Tryz.ntmps121
        go_wp2_with fail
        refine (IsName_any a _ ha).mono ?_
        rintro e w1 ⟨rfl, rfl⟩
        rw [h1]
        go_wp2_with fail
        refine (Is_any d _).mono ?_
        rintro e w1 ⟨rfl, rfl⟩
        rw [h2]
        go_wp2_with fail
        refine (isNoKind_any k _).mono ?_
        rintro e w1 ⟨rfl, rfl⟩
        rw [h3']
        go_wp2
        go_ret
        exact ⟨by rw [HR.out]; rfl, HB.out⟩
    · have h2' : digOk d = false := by simpa using h2
      have HR : Hid (ndE (a, k, d) = 1) := by show _ = _; simp [ndE, h2']
      clear h2
      go_enter Tryz.func121, Tryz.ntmps121
      go_wp2_with fail
      refine (IsName_any a _ ha).mono ?_
      rintro e w1 ⟨rfl, rfl⟩
      rw [h1]
      go_wp2_with fail
      refine (Is_any d _).mono ?_
      rintro e w1 ⟨rfl, rfl⟩
      rw [h2']
      go_wp2
      go_ret
      exact ⟨by rw [HR.out]; rfl, HB.out⟩
  · have h1' : nameOk a = false := by simpa using h1
    have HR : Hid (ndE (a, k, d) = 1) := by show _ = _; simp [ndE, h1']
    clear h1
    go_enter Tryz.func121, Tryz.ntmps121
    go_wp2_with fail
    refine (IsName_any a _ ha).mono ?_
    rintro e w1 ⟨rfl, rfl⟩
    rw [h1']
    go_wp2
    go_ret
    exact ⟨by rw [HR.out]; rfl, HB.out⟩

theorem nodeName_any (a d : ByteArray) (k : Int) (w : World) :
    Calls Tryz.prog 123 #[.agg #[.string a, .int .i64 k, .string d]] w fun e w' => e = .returned (.string a) ∧ Below w.heap.size w w' := by
  have HB : Hid (Below w.heap.size w (w.alloc (.cells #[.string a, .int .i64 k, .string d] 87))) := (Below.refl _ _).alloc (Nat.le_refl _) _
  go_enter Tryz.func123, Tryz.ntmps123
  go_wp2
  go_ret
  exact ⟨rfl, HB.out⟩

/-- The nodes ns lie in block g from offset o on. -/
def NdAt (g o : Nat) (ns : List Nd) (w : World) : Prop := ∀ j (hj : j < ns.length), w.cell? ⟨g, o + j * 3, none⟩ = some (.string ns[j].1) ∧ w.cell? ⟨g, o + j * 3 + 1, none⟩ = some (.int .i64 ns[j].2.1) ∧ w.cell? ⟨g, o + j * 3 + 2, none⟩ = some (.string ns[j].2.2)
theorem NdAt.below {B g o : Nat} {ns : List Nd} {w w' : World} (h : NdAt g o ns w) (hb : Below B w w') (hg : g < B) : NdAt g o ns w' := fun j hj =>
  ⟨(hb.cell (p := ⟨g, o + j * 3, none⟩) hg).trans (h j hj).1, (hb.cell (p := ⟨g, o + j * 3 + 1, none⟩) hg).trans (h j hj).2.1, (hb.cell (p := ⟨g, o + j * 3 + 2, none⟩) hg).trans (h j hj).2.2⟩

/-- From some place on: the first that is wrong. -/
def ndEs : List Nd → Int
  | [] => 0
  | n :: l => if ndE n = 0 then ndEs l else ndE n

theorem ndEs_yes (ns : List Nd) (h : ∀ j (hj : j < ns.length), ndE ns[j] = 0) : ndEs ns = 0 := by
  induction ns with
  | nil => rfl
  | cons n l ih =>
    have h0 : ndE n = 0 := h 0 (by simp)
    show (if ndE n = 0 then ndEs l else ndE n) = 0
    rw [if_pos h0]
    exact ih (fun j hj => h (j + 1) (by simp; omega))
theorem ndEs_no (ns : List Nd) (k : Nat) (hk : k < ns.length) (h : ∀ j (hj : j < ns.length), j < k → ndE ns[j] = 0) (hne : ndE ns[k] ≠ 0) : ndEs ns = ndE ns[k] := by
  induction ns generalizing k with
  | nil => simp at hk
  | cons n l ih =>
    show (if ndE n = 0 then ndEs l else ndE n) = _
    cases k with
    | zero => exact if_neg (show ¬ ndE n = 0 from hne)
    | succ k =>
      have h0 : ndE n = 0 := h 0 (by simp) (by omega)
      rw [if_pos h0]
      exact ih k (by simpa using hk) (fun j hj hjk => h (j + 1) (by simp; omega) (by omega)) hne

def less (a b : ByteArray) : Bool := Op.bytesLess a.toList b.toList
/-- Do names rise? -/
def riseB : List ByteArray → Bool
  | [] => true
  | [_] => true
  | a :: b :: l => less a b && riseB (b :: l)
theorem riseB_yes (l : List ByteArray) (h : ∀ j (hj : j + 1 < l.length), less l[j] l[j + 1] = true) : riseB l = true := by
  induction l with
  | nil => rfl
  | cons a l ih =>
    cases l with
    | nil => rfl
    | cons b l =>
      have h0 := h 0 (by simp)
      have h1 := ih (fun j hj => h (j + 1) (by simp at hj ⊢; omega))
      show (less a b && riseB (b :: l)) = true
      rw [h1, Bool.and_true]; exact h0
theorem riseB_no (l : List ByteArray) (j : Nat) (hj : j + 1 < l.length) (h : less l[j] l[j + 1] = false) : riseB l = false := by
  induction l generalizing j with
  | nil => simp at hj
  | cons a l ih =>
    cases l with
    | nil => simp at hj
    | cons b l =>
      show (less a b && riseB (b :: l)) = false
      cases j with
      | zero => rw [show less a b = false from h, Bool.false_and]
      | succ j => rw [ih j (by simp at hj ⊢; omega) h, Bool.and_false]

set_option maxHeartbeats 2000000 in
set_option maxRecDepth 100000 in
theorem rises_any (g o cap : Nat) (ns : List Nd) (w : World) (hn : ns.length ≤ 60) (hc : NdAt g o ns w) (hg : g < w.heap.size) :
    Calls Tryz.prog 122 #[.slice (some ⟨g, o, none⟩) ns.length cap, .func (.func 123) #[] #[]] w fun e w' => e = .returned (.bool (riseB (ns.map (·.1)))) ∧ Below w.heap.size w w' := by
  have HC : Hid (NdAt g o ns w) := hc
  have hn1 : (ns.length : Int) ≤ 60 := by omega
  clear hc
  go_enter Tryz.func122, Tryz.ntmps122
  go_wp2
  go_loopw [5] (fun i wr => ∃ k : Nat, 1 ≤ k ∧ k ≤ max 1 ns.length ∧ i = .int .i64 k ∧ (∀ j, (hj : j + 1 < ns.length) → j + 1 < k → less ns[j].1 ns[j + 1].1 = true) ∧ Below w.heap.size w wr) (fun i _ => ns.length - (intOf i).toNat)
  case atStart => exact ⟨1, by omega, by omega, rfl, by omega, Below.refl _ _⟩
  case round =>
    obtain ⟨k, hk1, hk, rfl, hlo, hb⟩ := hrel
    have HL : Hid _ := hlo
    have HB : Hid (Below w.heap.size w wr) := hb
    have hsz := hb.size
    clear hlo hb
    by_cases hlt : k < ns.length
    · obtain ⟨m, rfl⟩ : ∃ m, k = m + 1 := ⟨k - 1, by omega⟩
      obtain ⟨a0, a1, a2⟩ := HC.out.below HB.out hg m (by omega)
      obtain ⟨b0, b1, b2⟩ := HC.out.below HB.out hg (m + 1) hlt
      have i1 : (0 : Int) ≤ (m : Int) := by omega
      have i2 : (m : Int) < ns.length := by omega
      have i3 : (0 : Int) ≤ (m : Int) + 1 := by omega
      have i4 : (m : Int) + 1 < ns.length := by omega
      have i5 : IntKind.i64.wrap ((m : Int) + 1 - 1) = m := by rw [wraps_i64 _ (by omega) (by omega)]; omega
      have i6 : IntKind.i64.wrap (m : Int) = m := wraps_i64 _ (by omega) (by omega)
      have i7 : ((m : Int) + 1).toNat = m + 1 := by omega
      generalize hx : ns[m] = x at a0 a1 a2
      generalize hy : ns[m + 1] = y at b0 b1 b2
      obtain ⟨xa, xk, xd⟩ := x
      obtain ⟨ya, yk, yd⟩ := y
      have HX : Hid (ns[m] = (xa, xk, xd)) := hx
      have HY : Hid (ns[m + 1] = (ya, yk, yd)) := hy
      simp only at a0 a1 a2 b0 b1 b2
      have hgr : g < wr.heap.size := by omega
      clear hx hy
      by_cases hls : Op.bytesLess xa.toList ya.toList = true
      · have HLS : Hid _ := hls
        go_wp2_with fail
        go_region_held3 (fun w' => w'.cell? ⟨g, o + m * 3, none⟩ = some (.string xa) ∧ w'.cell? ⟨g, o + m * 3 + 1, none⟩ = some (.int .i64 xk) ∧ w'.cell? ⟨g, o + m * 3 + 2, none⟩ = some (.string xd) ∧ w'.cell? ⟨g, o + (m + 1) * 3, none⟩ = some (.string ya) ∧ w'.cell? ⟨g, o + (m + 1) * 3 + 1, none⟩ = some (.int .i64 yk) ∧ w'.cell? ⟨g, o + (m + 1) * 3 + 2, none⟩ = some (.string yd) ∧ g < w'.heap.size)
          (first | (simp [go_sem, *]; done) | (go_split_ands; refine ⟨?_, ?_, ?_, ?_, ?_, ?_, ?_⟩ <;> first | (exact Nat.lt_of_lt_of_le (by assumption) hb2.size) | (rw [hb2.cell (p := ⟨g, _, none⟩) (by assumption)]; assumption) | (exact Nat.lt_of_lt_of_le (by assumption) hb1.size) | (rw [hb1.cell (p := ⟨g, _, none⟩) (by assumption)]; assumption)))
          (first
            | (go_at_call_of 123 (Value.agg #[.string xa, .int .i64 xk, .string xd]); refine (nodeName_any xa xd xk _).mono ?_; rintro e w1 ⟨rfl, hb1⟩)
            | (go_at_call_of 123 (Value.agg #[.string ya, .int .i64 yk, .string yd]); refine (nodeName_any ya yd yk _).mono ?_; rintro e w2 ⟨rfl, hb2⟩))
        have hb3 : Below w.heap.size w w2 := by
          have b0 : Below w.heap.size w wr.drew := HB.out.drew
          have b1 := b0.trans (hb1.mono b0.size)
          exact b1.trans (hb2.mono b1.size)
        have HB3 : Hid _ := hb3
        clear hb1 hb2 hb3
        go_wp2
        refine ⟨⟨m + 2, by omega, by omega, by go_num, fun j hj hjk => ?_, HB3.out⟩, by simp [intOf]; omega⟩
        by_cases h : j + 1 < m + 1
        · exact HL.out j hj h
        · obtain rfl : j = m := by omega
          rw [HX.out, HY.out]
          exact HLS.out
      · have hls' : Op.bytesLess xa.toList ya.toList = false := by simpa using hls
        have HLS : Hid _ := hls'
        clear hls
        go_wp2_with fail
        go_region_held3 (fun w' => w'.cell? ⟨g, o + m * 3, none⟩ = some (.string xa) ∧ w'.cell? ⟨g, o + m * 3 + 1, none⟩ = some (.int .i64 xk) ∧ w'.cell? ⟨g, o + m * 3 + 2, none⟩ = some (.string xd) ∧ w'.cell? ⟨g, o + (m + 1) * 3, none⟩ = some (.string ya) ∧ w'.cell? ⟨g, o + (m + 1) * 3 + 1, none⟩ = some (.int .i64 yk) ∧ w'.cell? ⟨g, o + (m + 1) * 3 + 2, none⟩ = some (.string yd) ∧ g < w'.heap.size)
          (first | (simp [go_sem, *]; done) | (go_split_ands; refine ⟨?_, ?_, ?_, ?_, ?_, ?_, ?_⟩ <;> first | (exact Nat.lt_of_lt_of_le (by assumption) hb2.size) | (rw [hb2.cell (p := ⟨g, _, none⟩) (by assumption)]; assumption) | (exact Nat.lt_of_lt_of_le (by assumption) hb1.size) | (rw [hb1.cell (p := ⟨g, _, none⟩) (by assumption)]; assumption)))
          (first
            | (go_at_call_of 123 (Value.agg #[.string xa, .int .i64 xk, .string xd]); refine (nodeName_any xa xd xk _).mono ?_; rintro e w1 ⟨rfl, hb1⟩)
            | (go_at_call_of 123 (Value.agg #[.string ya, .int .i64 yk, .string yd]); refine (nodeName_any ya yd yk _).mono ?_; rintro e w2 ⟨rfl, hb2⟩))
        have hb3 : Below w.heap.size w w2 := by
          have b0 : Below w.heap.size w wr.drew := HB.out.drew
          have b1 := b0.trans (hb1.mono b0.size)
          exact b1.trans (hb2.mono b1.size)
        have HB3 : Hid _ := hb3
        clear hb1 hb2 hb3
        go_wp2
        go_ret
        refine ⟨?_, HB3.out⟩
        rw [riseB_no (ns.map (·.1)) m (by simpa using hlt) (by simp only [List.getElem_map]; rw [HX.out, HY.out]; exact HLS.out)]
        rfl
    · go_wp2
      go_ret
      refine ⟨?_, HB.out⟩
      rw [riseB_yes (ns.map (·.1)) (fun j hj => by simp only [List.getElem_map]; exact HL.out j (by simpa using hj) (by simp at hj; omega))]
      rfl

def neC (ns : List Nd) : Int := if 60 < ns.length then 2 else if ndEs ns = 0 then (if riseB (ns.map (·.1)) = true then 0 else 6) else ndEs ns

set_option maxHeartbeats 1000000 in
theorem ne_many (a : Option Addr) (n cap : Nat) (w : World) (hn : 60 < n) :
    Calls Tryz.prog 85 #[.slice a n cap] w fun e w' => e = .returned (.int .i64 2) ∧ w' = w := by
  have hn1 : 60 < (n : Int) := by omega
  go_enter Tryz.func85, Tryz.ntmps85
  go_wp2
  go_ret
  exact ⟨rfl, rfl⟩

set_option maxHeartbeats 2000000 in
set_option maxRecDepth 100000 in
theorem ne_some (g o cap : Nat) (ns : List Nd) (w : World) (hn : ns.length ≤ 60) (hc : NdAt g o ns w) (hg : g < w.heap.size) (hm : ∀ n ∈ ns, n.1.size ≤ maxLen) :
    Calls Tryz.prog 85 #[.slice (some ⟨g, o, none⟩) ns.length cap] w fun e w' => e = .returned (.int .i64 (neC ns)) ∧ Below w.heap.size w w' := by
  have HC : Hid (NdAt g o ns w) := hc
  have HM : Hid _ := hm
  have hn1 : (ns.length : Int) ≤ 60 := by omega
  clear hc hm
  go_enter Tryz.func85, Tryz.ntmps85
  go_wp2
  go_loopw [11] (fun i wr => ∃ k : Nat, k ≤ ns.length ∧ i = .int .i64 k ∧ (∀ j, (hj : j < ns.length) → j < k → ndE ns[j] = 0) ∧ Below w.heap.size w wr) (fun i _ => ns.length - (intOf i).toNat)
  case atStart => exact ⟨0, by omega, rfl, by omega, Below.refl _ _⟩
  case round =>
    obtain ⟨k, hk, rfl, hlo, hb⟩ := hrel
    have HL : Hid _ := hlo
    have HB : Hid (Below w.heap.size w wr) := hb
    have hsz := hb.size
    clear hlo hb
    by_cases hlt : k < ns.length
    · obtain ⟨a0, a1, a2⟩ := HC.out.below HB.out hg k hlt
      have hx := HM.out _ (List.getElem_mem hlt)
      generalize hx' : ns[k] = x at a0 a1 a2 hx
      obtain ⟨xa, xk, xd⟩ := x
      have HX : Hid (ns[k] = (xa, xk, xd)) := hx'
      simp only at a0 a1 a2 hx
      have i2 : (k : Int) < ns.length := by omega
      have hb1 : Below w.heap.size w (wr.alloc (.cells #[.string xa, .int .i64 xk, .string xd] 87)) := HB.out.alloc hsz _
      have HB1 : Hid _ := hb1
      have HS : Hid (xa.size ≤ maxLen) := hx
      clear hx hx' hb1
      go_wp2_with fail
      refine (nodeError_any xa xd xk _ HS.out).mono ?_
      rintro e w2 ⟨rfl, hb2⟩
      have HB2 : Hid (Below w.heap.size w w2) := HB1.out.trans (hb2.mono HB1.out.size)
      clear hb2
      by_cases h0 : ndE (xa, xk, xd) = 0
      · rw [h0]
        have H0 : Hid _ := h0
        clear h0
        go_wp2
        refine ⟨⟨k + 1, by omega, by go_num, fun j hj hjk => ?_, HB2.out⟩, by simp [intOf]; omega⟩
        by_cases h : j < k
        · exact HL.out j hj h
        · obtain rfl : j = k := by omega
          rw [HX.out]; exact H0.out
      · generalize hr : ndE (xa, xk, xd) = r at h0 ⊢
        have HR : Hid (ndE (xa, xk, xd) = r) := hr
        have hne : (r != 0) = true := by rw [bne_iff_ne]; exact h0
        have H0 : Hid (r ≠ 0) := h0
        clear hr h0
        go_wp2
        go_ret
        refine ⟨?_, HB2.out⟩
        have e1 := ndEs_no ns k hlt HL.out (by rw [HX.out, HR.out]; exact H0.out)
        rw [HX.out, HR.out] at e1
        unfold neC
        rw [if_neg (by omega), if_neg (by rw [e1]; exact H0.out), e1]
        rfl
    · have hok := ndEs_yes ns (fun j hj => HL.out j hj (by omega))
      have HOK : Hid _ := hok
      clear hok
      go_wp2_with fail
      refine (rises_any g o cap ns wr hn (HC.out.below HB.out hg) (by omega)).mono ?_
      rintro e w2 ⟨rfl, hb2⟩
      have HB2 : Hid (Below w.heap.size w w2) := HB.out.trans (hb2.mono HB.out.size)
      clear hb2
      by_cases h0 : riseB (ns.map (·.1)) = true
      · rw [h0]
        have H0 : Hid _ := h0
        clear h0
        go_wp2
        go_ret
        refine ⟨?_, HB2.out⟩
        unfold neC
        rw [if_neg (by omega), if_pos HOK.out, if_pos H0.out]
        rfl
      · have h0' : riseB (ns.map (·.1)) = false := by simpa using h0
        rw [h0']
        have H0 : Hid _ := h0
        clear h0 h0'
        go_wp2
        go_ret
        refine ⟨?_, HB2.out⟩
        unfold neC
        rw [if_neg (by omega), if_pos HOK.out, if_neg H0.out]
        rfl

set_option maxHeartbeats 2000000 in
set_option maxRecDepth 100000 in
theorem rises_zero (a : Option Addr) (cap : Nat) (w : World) : Calls Tryz.prog 122 #[.slice a 0 cap, .func (.func 123) #[] #[]] w fun e w' => e = .returned (.bool true) ∧ w' = w := by
  go_enter Tryz.func122, Tryz.ntmps122
  go_wp2
  refine wp_loop_rounds 1 ?_
  rw [rounds_succ]
  go_wp2
  go_ret
  exact ⟨rfl, rfl⟩

set_option maxHeartbeats 2000000 in
set_option maxRecDepth 100000 in
theorem ne_zero (a : Option Addr) (cap : Nat) (w : World) :
    Calls Tryz.prog 85 #[.slice a 0 cap] w fun e w' => e = .returned (.int .i64 0) ∧ w' = w := by
  go_enter Tryz.func85, Tryz.ntmps85
  go_wp2
  refine wp_loop_rounds 1 ?_
  rw [rounds_succ]
  go_wp2_with fail
  refine (rises_zero a cap w).mono ?_
  rintro e w2 ⟨rfl, rfl⟩
  go_wp2
  go_ret
  exact ⟨rfl, rfl⟩

/-- These nodes are in v. -/
def IsNodes (w : World) (v : Value) (ns : List Nd) : Prop :=
  ns.length ≤ 4611686018427387904 ∧ (∀ n ∈ ns, n.1.size ≤ maxLen ∧ n.2.2.size ≤ maxLen) ∧ ∃ a cap, v = .slice a ns.length cap ∧ (ns = [] ∨ ∃ g o, a = some ⟨g, o, none⟩ ∧ g < w.heap.size ∧ NdAt g o ns w)

theorem ne_any (v : Value) (ns : List Nd) (w : World) (h : IsNodes w v ns) :
    Calls Tryz.prog 85 #[v] w fun e w' => e = .returned (.int .i64 (neC ns)) ∧ Below w.heap.size w w' := by
  obtain ⟨_, hm, a, cap, rfl, hs⟩ := h
  by_cases hn : 60 < ns.length
  · refine (ne_many a ns.length cap w hn).mono ?_
    rintro e w' ⟨rfl, rfl⟩
    exact ⟨by unfold neC; rw [if_pos hn], Below.refl _ _⟩
  rcases hs with rfl | ⟨g, o, rfl, hg, hc⟩
  · refine (ne_zero a cap w).mono ?_
    rintro e w' ⟨rfl, rfl⟩
    exact ⟨rfl, Below.refl _ _⟩
  · exact ne_some g o cap ns w (by omega) hc hg (fun n h => (hm n h).1)
end Go.Proofs.YtkmlooepakinfaaGreatDoor

/- What wire's packer does with nodes, and Nodes. -/
namespace Go.Proofs.YtkmlooepakinfaaGreatDoor
open Go.RowKit Go.Shelf

def pkD (n : Nd) : List UInt8 := pkT n.1 ++ (pk n.2.1.toNat ++ pkT n.2.2)
def pkDD : List Nd → List UInt8
  | [] => []
  | n :: l => pkD n ++ pkDD l
theorem pkDD_append (l m : List Nd) : pkDD (l ++ m) = pkDD l ++ pkDD m := by
  induction l with
  | nil => rfl
  | cons s l ih => simp only [List.cons_append, pkDD, ih, List.append_assoc]

set_option maxHeartbeats 2000000 in
set_option maxRecDepth 100000 in
theorem pk_node (B b k : Nat) (a d : ByteArray) (bs : List Value) (w : World) (h : PkIs B b bs w) (hk : k ≤ 9007199254740991) (ha : a.size ≤ 100000) (hd : d.size ≤ 100000) (hlen : bs.length + (pkD (a, (k : Int), d)).length ≤ 140737488355328) (hBw : B ≤ w.heap.size) :
    Calls Tryz.prog 126 #[.pointer (some ⟨b, 0, none⟩), .agg #[.string a, .int .i64 k, .string d]] w fun e w' => e = .returned (.tuple #[]) ∧ (PkIs B b (bs ++ Lib.byteCells (pkD (a, (k : Int), d))) w' ∧ Kp B b w w') := by
  have hbl := pk_lt h
  have k0 : Kp B b w (w.alloc (.cells #[.string a, .int .i64 k, .string d] 87)) := ⟨(Below.refl _ _).alloc hBw _, (Lib.OthersKept.refl _ _ _).alloc _⟩
  have hx0 : (w.alloc (.cells #[.string a, .int .i64 k, .string d] 87)).heap[w.heap.size]? = some (.cells #[.string a, .int .i64 k, .string d] 87 (0, 0)) := heap_alloc_new w _
  have p0 := pk_alloc h (.cells #[.string a, .int .i64 k, .string d] 87)
  have hl : (pkD (a, (k : Int), d)).length = (pkT a).length + ((pk k).length + (pkT d).length) := by simp [pkD]
  have K0 : Hid (Kp B b w (w.alloc (.cells #[.string a, .int .i64 k, .string d] 87))) := k0
  have P0 : Hid (PkIs B b bs (w.alloc (.cells #[.string a, .int .i64 k, .string d] 87))) := p0
  have X0 : Hid _ := hx0
  have hbw : B ≤ (w.alloc (.cells #[.string a, .int .i64 k, .string d] 87)).heap.size := Nat.le_trans hBw k0.size
  clear k0 hx0 p0 h
  go_enter Tryz.func126, Tryz.ntmps126
  go_wp2_with fail
  refine (pk_text B b bs a _ P0.out (by omega) (by omega) hbw).mono ?_
  rintro e w1 ⟨rfl, h1, hk1⟩
  have x1 := kp_cells hk1 X0.out (by omega) (by decide)
  have q1 : w1.cell? ⟨w.heap.size, 1, none⟩ = some (.int .i64 k) := by rw [Lib.cell_of_heap x1]; rfl
  have K1 : Hid (Kp B b w w1) := K0.out.trans hk1
  have P1 : Hid (PkIs B b (bs ++ Lib.byteCells (pkT a)) w1) := h1
  have X1 : Hid _ := x1
  clear h1 hk1 x1
  go_wp2_with fail
  refine (number_any B b k _ w1 P1.out hk (by simp [Lib.byteCells]; omega) (Nat.le_trans hBw K1.out.size)).mono ?_
  rintro e w2 ⟨rfl, h2, hk2⟩
  have x2 := kp_cells hk2 X1.out (by omega) (by decide)
  have q2 : w2.cell? ⟨w.heap.size, 2, none⟩ = some (.string d) := by rw [Lib.cell_of_heap x2]; rfl
  have K2 : Hid (Kp B b w w2) := K1.out.trans hk2
  have P2 : Hid (PkIs B b (bs ++ Lib.byteCells (pkT a) ++ Lib.byteCells (pk k)) w2) := h2
  clear h2 hk2 x2
  go_wp2_with fail
  refine (pk_text B b _ d w2 P2.out (by omega) (by simp [Lib.byteCells]; omega) (Nat.le_trans hBw K2.out.size)).mono ?_
  rintro e w3 ⟨rfl, h3, hk3⟩
  go_wp2
  go_end0
  refine ⟨rfl, ?_, K2.out.trans hk3⟩
  unfold pkD
  rw [byteCells_app, byteCells_app, ← List.append_assoc, ← List.append_assoc]
  exact h3

/-- Each node can be packed. -/
def okD (n : Nd) : Prop := n.1.size ≤ 100000 ∧ 0 ≤ n.2.1 ∧ n.2.1 ≤ 3 ∧ n.2.2.size ≤ 100000

theorem NdAt.kept {B b g o : Nat} {ns : List Nd} {w w' : World} (h : NdAt g o ns w) (hb : Kp B b w w') (hg : g < B) : NdAt g o ns w' := h.below hb.bel hg

set_option maxHeartbeats 2000000 in
set_option maxRecDepth 100000 in
theorem pk_dlist (B b g o cap : Nat) (bs : List Value) (ns : List Nd) (w : World) (h : PkIs B b bs w) (hn : ns.length ≤ 60) (hs : ∀ n ∈ ns, okD n) (hg : g < B) (hc : NdAt g o ns w)
    (hlen : bs.length + (pk ns.length ++ pkDD ns).length ≤ 140737488355328) (hBw : B ≤ w.heap.size) :
    Calls Tryz.prog 125 #[.pointer (some ⟨b, 0, none⟩), .slice (some ⟨g, o, none⟩) ns.length cap, .func (.func 126) #[] #[]] w fun e w' => e = .returned (.tuple #[]) ∧ (PkIs B b (bs ++ Lib.byteCells (pk ns.length ++ pkDD ns)) w' ∧ Kp B b w w') := by
  have HC : Hid (NdAt g o ns w) := hc
  have HS : Hid _ := hs
  have HL : Hid (bs.length + ((pk ns.length).length + (pkDD ns).length) ≤ 140737488355328) := by show _ ≤ _; simpa using hlen
  have hn1 : (ns.length : Int) ≤ 60 := by omega
  clear hc hs hlen
  go_enter Tryz.func125, Tryz.ntmps125
  go_wp2_with fail
  refine (number_any B b ns.length bs w h (by omega) (by have := HL.out; omega) hBw).mono ?_
  rintro e w1 ⟨rfl, h1, hb1⟩
  clear h
  go_wp2_with fail
  go_loopw [14] (fun i wr => ∃ k : Nat, k ≤ ns.length ∧ i = .int .i64 k ∧ PkIs B b (bs ++ Lib.byteCells (pk ns.length ++ pkDD (ns.take k))) wr ∧ Kp B b w wr) (fun i _ => ns.length - (intOf i).toNat)
  case atStart => exact ⟨0, Nat.zero_le _, rfl, by simpa [pkDD] using h1, hb1⟩
  case round =>
    obtain ⟨k, hk, rfl, hp, hb⟩ := hrel
    clear h1 hb1
    have hsz := hb.size
    by_cases hlt : k < ns.length
    · obtain ⟨a0, a1, a2⟩ := HC.out.kept hb hg k hlt
      have hsp : pkDD (ns.take (k + 1)) = pkDD (ns.take k) ++ pkD ns[k] := by rw [List.take_succ_eq_append_getElem hlt, pkDD_append]; simp [pkDD]
      have hle : (pkDD (ns.take (k + 1))).length ≤ (pkDD ns).length := by
        have e1 : pkDD ns = pkDD (ns.take (k + 1)) ++ pkDD (ns.drop (k + 1)) := by rw [← pkDD_append, List.take_append_drop]
        rw [e1, List.length_append]
        omega
      have hok := HS.out _ (List.getElem_mem hlt)
      have hlen1 : (bs ++ Lib.byteCells (pk ns.length ++ pkDD (ns.take k))).length + (pkD ns[k]).length ≤ 140737488355328 := by
        have := HL.out
        rw [hsp, List.length_append] at hle
        simp [Lib.byteCells]
        omega
      generalize hx : ns[k] = x at a0 a1 a2 hok hlen1 hsp
      obtain ⟨xa, xk, xd⟩ := x
      obtain ⟨o1, o2, o3, o4⟩ := hok
      simp only at a0 a1 a2 o1 o2 o3 o4
      obtain ⟨xn, rfl⟩ : ∃ n : Nat, xk = n := ⟨xk.toNat, by omega⟩
      have H1 : Hid _ := hlen1
      have H2 : Hid _ := hsp
      have H3 : Hid (Kp B b w wr) := hb
      have H4 : Hid (PkIs B b (bs ++ Lib.byteCells (pk ns.length ++ pkDD (ns.take k))) wr) := hp
      have O1 : Hid _ := o1
      have O3 : Hid (xn ≤ 9007199254740991) := by show _ ≤ _; omega
      have O4 : Hid _ := o4
      have i2 : (k : Int) < ns.length := by omega
      clear hlen1 hsp hb hp hle hx o1 o2 o3 o4
      have kA : Kp B b wr (wr.alloc (.cells #[.string xa, .int .i64 xn, .string xd] 87)) := ⟨(Below.refl _ _).alloc (Nat.le_trans hBw hsz) _, (Lib.OthersKept.refl _ _ _).alloc _⟩
      have KA : Hid (Kp B b wr (wr.alloc (.cells #[.string xa, .int .i64 xn, .string xd] 87))) := kA
      clear kA
      go_wp2_with fail
      refine (pk_node B b xn xa xd _ _ (pk_alloc H4.out _) O3.out O1.out O4.out H1.out (Nat.le_trans (Nat.le_trans hBw hsz) KA.out.size)).mono ?_
      rintro e w2 ⟨rfl, h2, hb2⟩
      have H6 : Hid (Kp B b wr w2) := KA.out.trans hb2
      have H7 : Hid (PkIs B b (bs ++ Lib.byteCells (pk ns.length ++ pkDD (ns.take k)) ++ Lib.byteCells (pkD (xa, (xn : Int), xd))) w2) := h2
      clear hb2 h2
      go_wp2
      refine ⟨⟨k + 1, by omega, by go_num, ?_, H3.out.trans H6.out⟩, by simp [intOf]; omega⟩
      rw [H2.out, ← List.append_assoc, byteCells_app, ← List.append_assoc]
      exact H7.out
    · obtain rfl : k = ns.length := by omega
      go_wp2
      go_end0
      refine ⟨rfl, ?_, hb⟩
      rw [List.take_length] at hp
      exact hp

set_option maxHeartbeats 1000000 in
set_option maxRecDepth 100000 in
theorem pk_dlist0 (B b cap : Nat) (a : Option Addr) (bs : List Value) (w : World) (h : PkIs B b bs w) (hlen : bs.length + 1 ≤ 140737488355328) (hBw : B ≤ w.heap.size) :
    Calls Tryz.prog 125 #[.pointer (some ⟨b, 0, none⟩), .slice a 0 cap, .func (.func 126) #[] #[]] w fun e w' => e = .returned (.tuple #[]) ∧ (PkIs B b (bs ++ Lib.byteCells (pk 0 ++ pkDD [])) w' ∧ Kp B b w w') := by
  go_enter Tryz.func125, Tryz.ntmps125
  go_wp2_with fail
  refine (number_any B b 0 bs w h (by omega) (by rw [show (pk 0).length = 1 from rfl]; omega) hBw).mono ?_
  rintro e w1 ⟨rfl, h1, hb1⟩
  go_wp2_with fail
  refine wp_loop_rounds 1 ?_
  rw [rounds_succ]
  go_wp2
  go_end0
  exact ⟨rfl, by simpa [pkDD] using h1, hb1⟩

/-- A slice of these nodes that lies in old memory, below block B. -/
def OldNodes (B : Nat) (w : World) (v : Value) (ns : List Nd) : Prop :=
  ∃ a cap, v = .slice a ns.length cap ∧ (ns = [] ∨ ∃ g o, a = some ⟨g, o, none⟩ ∧ g < B ∧ NdAt g o ns w)
theorem oldN_of (w : World) (v : Value) (ns : List Nd) (h : IsNodes w v ns) : OldNodes w.heap.size w v ns := h.2.2
theorem nodes_below {B : Nat} {w w' : World} {v : Value} {ns : List Nd} (h : OldNodes B w v ns) (hb : Below B w w') : OldNodes B w' v ns := by
  obtain ⟨a, cap, rfl, hs⟩ := h
  refine ⟨a, cap, rfl, ?_⟩
  rcases hs with rfl | ⟨g, o, rfl, hg, hc⟩
  · exact Or.inl rfl
  · exact Or.inr ⟨g, o, rfl, hg, hc.below hb hg⟩
theorem nodes_of {B : Nat} {w : World} {v : Value} {ns : List Nd} (h : OldNodes B w v ns) (hB : B ≤ w.heap.size) (hn : ns.length ≤ 4611686018427387904) (hm : ∀ n ∈ ns, n.1.size ≤ maxLen ∧ n.2.2.size ≤ maxLen) : IsNodes w v ns := by
  obtain ⟨a, cap, rfl, hs⟩ := h
  refine ⟨hn, hm, a, cap, rfl, ?_⟩
  rcases hs with rfl | ⟨g, o, rfl, hg, hc⟩
  · exact Or.inl rfl
  · exact Or.inr ⟨g, o, rfl, by omega, hc⟩

def okDs (ns : List Nd) : Prop := ns.length ≤ 60 ∧ ∀ n ∈ ns, okD n

theorem pk_dlist_any (B b : Nat) (v : Value) (bs : List Value) (ns : List Nd) (w : World) (h : PkIs B b bs w) (hok : okDs ns) (ho : OldNodes B w v ns) (hlen : bs.length + (pk ns.length ++ pkDD ns).length ≤ 140737488355328) (hBw : B ≤ w.heap.size) :
    Calls Tryz.prog 125 #[.pointer (some ⟨b, 0, none⟩), v, .func (.func 126) #[] #[]] w fun e w' => e = .returned (.tuple #[]) ∧ (PkIs B b (bs ++ Lib.byteCells (pk ns.length ++ pkDD ns)) w' ∧ Kp B b w w') := by
  obtain ⟨a, cap, rfl, hs⟩ := ho
  rcases hs with rfl | ⟨g, o, rfl, hg, hc⟩
  · exact pk_dlist0 B b cap a bs w h (by have : (pk ([] : List Nd).length ++ pkDD []).length = 1 := rfl; omega) hBw
  · exact pk_dlist B b g o cap bs ns w h hok.1 hok.2 hg hc hlen hBw

set_option maxHeartbeats 1000000 in
theorem pk_nodes (B b : Nat) (v : Value) (bs : List Value) (ns : List Nd) (w : World) (h : PkIs B b bs w) (hok : okDs ns) (ho : OldNodes B w v ns) (hlen : bs.length + (pk ns.length ++ pkDD ns).length ≤ 140737488355328) (hBw : B ≤ w.heap.size) :
    Calls Tryz.prog 87 #[.pointer (some ⟨b, 0, none⟩), v] w fun e w' => e = .returned (.tuple #[]) ∧ (PkIs B b (bs ++ Lib.byteCells (pk ns.length ++ pkDD ns)) w' ∧ Kp B b w w') := by
  go_enter Tryz.func87, Tryz.ntmps87
  go_wp2_with fail
  refine (pk_dlist_any B b v bs ns w h hok ho hlen hBw).mono ?_
  rintro e w1 ⟨rfl, h1, hb1⟩
  go_wp2
  go_end0
  exact ⟨rfl, h1, hb1⟩

theorem pkT_len (s : ByteArray) (h : s.size ≤ 100000) : (pkT s).length ≤ 100008 := by
  have h3 := pk_len8 s.size (by omega)
  have h4 := size_of (s := s) rfl
  simp only [pkT, List.length_append]
  omega
theorem pkDD_len (ns : List Nd) (hs : ∀ n ∈ ns, okD n) : (pkDD ns).length ≤ ns.length * 200024 := by
  induction ns with
  | nil => simp [pkDD]
  | cons n l ih =>
    have h1 := ih (fun t ht => hs t (List.mem_cons_of_mem _ ht))
    obtain ⟨o1, o2, o3, o4⟩ := hs n (List.mem_cons_self ..)
    have h2 := pkT_len n.1 o1
    have h3 := pk_len8 n.2.1.toNat (by omega)
    have h4 := pkT_len n.2.2 o4
    simp only [pkDD, pkD, List.length_append, List.length_cons]
    omega
theorem pkDs_len (ns : List Nd) (h : okDs ns) : (pk ns.length ++ pkDD ns).length ≤ 200016008 := by
  have h1 := pkDD_len ns h.2
  have h2 := pk_len8 ns.length (by have := h.1; omega)
  have h3 := h.1
  rw [List.length_append]
  omega

set_option maxHeartbeats 1000000 in
set_option maxRecDepth 100000 in
theorem packed_nodes (v : Value) (ns : List Nd) (w : World) (hok : okDs ns) (ht : OldNodes w.heap.size w v ns) :
    Calls Tryz.prog 86 #[v, .func (.func 87) #[] #[]] w fun e w' => e = .returned (.string ⟨(pk ns.length ++ pkDD ns).toArray⟩) ∧ Below w.heap.size w w' := by
  have hl := pkDs_len ns hok
  have hpos := pk_pos ns.length
  have b0 : Below w.heap.size w (w.alloc (.cells #[.pointer none, .slice none 0 0] 160)) := (Below.refl _ _).alloc (Nat.le_refl _) _
  have HO : Hid (OldNodes w.heap.size (w.alloc (.cells #[.pointer none, .slice none 0 0] 160)) v ns) := nodes_below ht b0
  have H0 : Hid _ := b0
  have HK : Hid _ := hok
  obtain ⟨a, cap, rfl, _⟩ := ht
  clear b0 hok
  go_enter Tryz.func86, Tryz.ntmps86
  go_wp2_with fail
  refine (pk_nodes w.heap.size w.heap.size _ [] ns _ (Lib.fresh_isBuilder _ _ w) HK.out HO.out (by simp only [List.length_nil]; omega) (by simp)).mono ?_
  rintro e w1 ⟨rfl, h1, hb1⟩
  go_wp2_with fail
  refine (st_any w.heap.size w.heap.size (pk ns.length ++ pkDD ns) w1 (by simpa using h1) (by intro h; rw [List.append_eq_nil_iff] at h; rw [h.1] at hpos; simp at hpos)).mono ?_
  rintro e w2 ⟨rfl, hb2⟩
  go_wp2
  go_ret
  exact ⟨rfl, (H0.out.trans hb1.bel).trans hb2⟩

theorem nameOk_size {s : ByteArray} (h : nameOk s = true) : s.size ≤ 100000 := by
  unfold nameOk at h
  simp at h
  omega
theorem kindNo_le {k : Int} (h : kindNo k = false) : 0 ≤ k ∧ k ≤ 3 := by
  simp [kindNo] at h
  omega
theorem ndE_ok {n : Nd} (h : ndE n = 0) : nameOk n.1 = true ∧ digOk n.2.2 = true ∧ kindNo n.2.1 = false := by
  unfold ndE at h
  by_cases h1 : nameOk n.1 = false
  · rw [if_pos h1] at h; cases h
  rw [if_neg h1] at h
  by_cases h2 : digOk n.2.2 = false
  · rw [if_pos h2] at h; cases h
  rw [if_neg h2] at h
  by_cases h3 : kindNo n.2.1 = true
  · rw [if_pos h3] at h; cases h
  exact ⟨by simpa using h1, by simpa using h2, by simpa using h3⟩
theorem ndEs_all (ns : List Nd) (h : ndEs ns = 0) : ∀ n ∈ ns, ndE n = 0 := by
  induction ns with
  | nil => intro n hn; cases hn
  | cons m l ih =>
    have h' : (if ndE m = 0 then ndEs l else ndE m) = 0 := h
    by_cases h0 : ndE m = 0
    · rw [if_pos h0] at h'
      intro n hn
      rcases List.mem_cons.1 hn with rfl | hn
      · exact h0
      · exact ih h' n hn
    · rw [if_neg h0] at h'; exact absurd h' h0
theorem neC_ok {ns : List Nd} (h : neC ns = 0) : okDs ns ∧ ndEs ns = 0 ∧ riseB (ns.map (·.1)) = true := by
  unfold neC at h
  by_cases h1 : 60 < ns.length
  · rw [if_pos h1] at h; cases h
  rw [if_neg h1] at h
  by_cases h2 : ndEs ns = 0
  · rw [if_pos h2] at h
    by_cases h3 : riseB (ns.map (·.1)) = true
    · refine ⟨⟨by omega, fun n hn => ?_⟩, h2, h3⟩
      obtain ⟨e1, e2, e3⟩ := ndE_ok (ndEs_all ns h2 n hn)
      have e4 := kindNo_le e3
      have e5 := digOk_size e2
      exact ⟨nameOk_size e1, e4.1, e4.2, by omega⟩
    · rw [if_neg h3] at h; cases h
  · rw [if_neg h2] at h; exact absurd h h2

set_option maxHeartbeats 1000000 in
set_option maxRecDepth 100000 in
theorem Nodes_yes (v : Value) (ns : List Nd) (w : World) (hok : neC ns = 0) (ht : IsNodes w v ns) :
    Calls Tryz.prog 53 #[v] w fun e w' => e = .returned (.tuple #[.string ⟨(pk ns.length ++ pkDD ns).toArray⟩, .int .i64 0]) ∧ Below w.heap.size w w' := by
  have HI : Hid _ := ht
  have H2 : Hid _ := oldN_of w v ns ht
  have HK : Hid _ := hok
  obtain ⟨_, _, a, cap, rfl, _⟩ := ht
  clear hok
  go_enter Tryz.func53, Tryz.ntmps53
  go_wp2_with fail
  refine (ne_any _ ns w HI.out).mono ?_
  rintro e w1 ⟨rfl, hb1⟩
  rw [HK.out]
  have B1 : Hid _ := hb1
  clear hb1
  go_wp2_with fail
  refine (packed_nodes _ ns w1 (neC_ok HK.out).1 (by
    obtain ⟨a', cap', e, hs⟩ := nodes_below H2.out B1.out
    refine ⟨a', cap', e, ?_⟩
    rcases hs with h | ⟨g, o, h1, h2, h3⟩
    · exact Or.inl h
    · exact Or.inr ⟨g, o, h1, Nat.lt_of_lt_of_le h2 B1.out.size, h3⟩)).mono ?_
  rintro e w2 ⟨rfl, hb2⟩
  go_wp2
  go_ret2
  exact ⟨rfl, B1.out.trans (hb2.mono B1.out.size)⟩

set_option maxHeartbeats 1000000 in
theorem Nodes_no (v : Value) (ns : List Nd) (w : World) (hno : neC ns ≠ 0) (ht : IsNodes w v ns) :
    Calls Tryz.prog 53 #[v] w fun e w' => e = .returned (.tuple #[.string ⟨#[]⟩, .int .i64 (neC ns)]) ∧ Below w.heap.size w w' := by
  have HI : Hid _ := ht
  obtain ⟨_, _, a, cap, rfl, _⟩ := ht
  go_enter Tryz.func53, Tryz.ntmps53
  go_wp2_with fail
  refine (ne_any _ ns w HI.out).mono ?_
  rintro e w1 ⟨rfl, hb1⟩
  have B1 : Hid _ := hb1
  clear hb1
  have hne : (neC ns != 0) = true := by rw [bne_iff_ne]; exact hno
  generalize hr : neC ns = r at hne hno ⊢
  have HR : Hid (neC ns = r) := hr
  clear hr hno
  go_wp2
  go_ret2
  exact ⟨by rw [HR.out]; rfl, B1.out⟩
end Go.Proofs.YtkmlooepakinfaaGreatDoor

/- A directory, plain: what lies on top of it, and what lies in its directories. -/
namespace Go.Proofs.YtkmlooepakinfaaGreatDoor
open Go.RowKit Go.Shelf Go.Maps Go.WideMaps

/-- A path at its first slash. -/
def sl : List UInt8 → Option (List UInt8 × List UInt8)
  | [] => none
  | c :: l => if c = 47 then some ([], l) else (sl l).map fun x => (c :: x.1, x.2)
theorem sl_some : ∀ {p a b : List UInt8}, sl p = some (a, b) → p = a ++ 47 :: b ∧ (47 : UInt8) ∉ a
  | [], _, _, h => by cases h
  | c :: l, a, b, h => by
    unfold sl at h
    by_cases hc : c = 47
    · rw [if_pos hc] at h
      injection h with h
      injection h with h1 h2
      subst h1 h2 hc
      simp
    · rw [if_neg hc] at h
      cases hs : sl l with
      | none => rw [hs] at h; cases h
      | some x =>
        obtain ⟨a', b'⟩ := x
        rw [hs] at h
        injection h with h
        injection h with h1 h2
        subst h1 h2
        obtain ⟨e, hn⟩ := sl_some hs
        refine ⟨by rw [e]; rfl, ?_⟩
        simp only [List.mem_cons, not_or]
        exact ⟨fun e => hc e.symm, hn⟩
theorem sl_none : ∀ {p : List UInt8}, sl p = none → (47 : UInt8) ∉ p
  | [], _ => by simp
  | c :: l, h => by
    unfold sl at h
    by_cases hc : c = 47
    · rw [if_pos hc] at h; cases h
    · rw [if_neg hc] at h
      have h2 : sl l = none := by
        cases hs : sl l with
        | none => rfl
        | some x => rw [hs] at h; cases h
      simp only [List.mem_cons, not_or]
      exact ⟨fun e => hc e.symm, sl_none h2⟩
theorem ix_sl : ∀ p : List UInt8, Lib.indexByte p 47 = match sl p with | some x => (x.1.length : Int) | none => -1
  | [] => rfl
  | c :: l => by
    unfold Lib.indexByte sl
    by_cases hc : c = 47
    · rw [if_pos hc, if_pos (by simpa using hc)]
      rfl
    · rw [if_neg hc, if_neg (by simpa using hc), ix_sl l]
      cases hs : sl l with
      | none => rfl
      | some x =>
        simp only [Option.map_some]
        rw [if_neg (by simp)]
        simp
theorem cut_sl (p : List UInt8) : Lib.cut p [47] = match sl p with | some x => (x.1, x.2, true) | none => (p, [], false) := by
  unfold Lib.cut
  rw [Lib.index_one, ix_sl]
  cases hs : sl p with
  | none => rw [if_neg (by decide)]
  | some x =>
    obtain ⟨a, b⟩ := x
    obtain ⟨e, _⟩ := sl_some hs
    simp only
    rw [if_pos (by omega)]
    simp only [Int.toNat_natCast, List.length_singleton]
    rw [e]
    simp
theorem parts_sl (p : List UInt8) : parts [] p = match sl p with | some x => x.1 :: parts [] x.2 | none => [p] := by
  have hi := ix_sl p
  cases hs : sl p with
  | none =>
    rw [hs] at hi
    rw [parts_miss p [] hi]
    rfl
  | some x =>
    obtain ⟨a, b⟩ := x
    obtain ⟨e, _⟩ := sl_some hs
    rw [hs] at hi
    rw [parts_hit p [] a.length hi]
    simp only [List.nil_append]
    rw [e]
    simp

def deepF (f : Fl) : Bool := (sl (pth f)).isSome
def hdF (f : Fl) : List UInt8 := match sl (pth f) with | some x => x.1 | none => pth f
def subF (f : Fl) : Fl := match sl (pth f) with | some x => ⟨⟨x.2.toArray⟩, f.tx, f.rn⟩ | none => f
theorem deep_sl {f : Fl} (h : deepF f = true) : sl (pth f) = some (hdF f, pth (subF f)) ∧ pth f = hdF f ++ 47 :: pth (subF f) := by
  unfold deepF at h
  have e : sl (pth f) = some (hdF f, pth (subF f)) := by
    unfold hdF subF
    cases hs : sl (pth f) with
    | none => rw [hs] at h; cases h
    | some x => rfl
  exact ⟨e, (sl_some e).1⟩
theorem top_sl {f : Fl} (h : deepF f = false) : sl (pth f) = none := by
  unfold deepF at h
  cases hs : sl (pth f) with
  | none => rfl
  | some x => rw [hs] at h; cases h
theorem subF_tx (f : Fl) : (subF f).tx = f.tx := by unfold subF; cases sl (pth f) <;> rfl
theorem subF_size {f : Fl} (h : deepF f = true) : (subF f).pa.size < f.pa.size := by
  have e := congrArg List.length (deep_sl h).2
  rw [List.length_append, List.length_cons] at e
  have e1 : (pth f).length = f.pa.size := Array.length_toList
  have e2 : (pth (subF f)).length = (subF f).pa.size := Array.length_toList
  omega

/-- The files of a list that are a tree. -/
def okT (L : List Fl) : Prop := L.length ≤ 60 ∧ (∀ f ∈ L, flE f = 0) ∧ L.Pairwise fit2
theorem okT_of {L : List Fl} (h : chF L = 0) : okT L := by
  unfold chF at h
  by_cases h1 : 60 < L.length
  · rw [if_pos h1] at h; exact absurd h (by decide)
  · rw [if_neg h1] at h
    by_cases h2 : flEs L = 0
    · rw [if_pos h2] at h
      by_cases h3 : (upF L && !thruF L L) = true
      · exact ⟨by omega, flEs_all h2, (fit_iff L).2 h3⟩
      · rw [if_neg h3] at h; exact absurd h (by decide)
    · rw [if_neg h2] at h; exact absurd h h2

theorem lt_app (a : List UInt8) : ∀ b c : List UInt8, (a ++ b < a ++ c) ↔ b < c := by
  induction a with
  | nil => intro b c; rfl
  | cons x a ih =>
    intro b c
    rw [List.cons_append, List.cons_append, List.cons_lt_cons_iff]
    constructor
    · rintro (h | ⟨_, h⟩)
      · exact absurd h (by simp)
      · exact (ih b c).1 h
    · exact fun h => .inr ⟨rfl, (ih b c).2 h⟩
theorem inB_list (p d : ByteArray) : inB p d = true ↔ ∃ r, p.data.toList = d.data.toList ++ 47 :: r := by
  rw [inB_iff]
  constructor
  · rintro ⟨i, h1, h2, h3⟩
    have h1' : i < p.data.toList.length := by rw [Array.length_toList]; exact h1
    refine ⟨p.data.toList.drop (i + 1), ?_⟩
    rw [h3, show (p.extract 0 i).data.toList = p.data.toList.take i from by simp]
    rw [List.getD_eq_getElem?_getD, List.getElem?_eq_getElem h1'] at h2
    have h4 : p.data.toList[i] = 47 := h2
    rw [← h4, List.getElem_cons_drop, List.take_append_drop]
  · rintro ⟨r, h⟩
    have hl := congrArg List.length h
    rw [List.length_append, List.length_cons, Array.length_toList, Array.length_toList] at hl
    refine ⟨d.size, by show d.data.size < p.data.size; omega, ?_, ?_⟩
    · rw [h, List.getD_eq_getElem?_getD, List.getElem?_append_right (by rw [Array.length_toList]; exact Nat.le_refl _)]
      rw [Array.length_toList]
      show (47 :: r)[d.data.size - d.data.size]?.getD 0 = 47
      rw [Nat.sub_self]
      rfl
    · show d.data.toList = (p.extract 0 d.data.size).data.toList
      rw [show (p.extract 0 d.data.size).data.toList = p.data.toList.take d.data.size from by simp, h, List.take_append_of_le_length (by rw [Array.length_toList]; exact Nat.le_refl _), ← Array.length_toList, List.take_length]

theorem cons_app {a b c : List UInt8} (h : a ++ b = a ++ c) : b = c := List.append_cancel_left h
theorem fit_sub {f g : Fl} (hf : deepF f = true) (hg : deepF g = true) (hm : hdF f = hdF g) (h : fit2 f g) : fit2 (subF f) (subF g) := by
  have ef := (deep_sl hf).2
  have eg := (deep_sl hg).2
  rw [← hm] at eg
  obtain ⟨h1, h2, h3⟩ := h
  refine ⟨?_, ?_, ?_⟩
  · rw [ef, eg, lt_app] at h1
    rw [List.cons_lt_cons_iff] at h1
    rcases h1 with h1 | ⟨_, h1⟩
    · exact absurd h1 (by decide)
    · exact h1
  · cases hc : inB (subF g).pa (subF f).pa with
    | false => rfl
    | true =>
      obtain ⟨r, hr⟩ := (inB_list _ _).1 hc
      have : inB g.pa f.pa = true := (inB_list _ _).2 ⟨r, by
        show pth g = pth f ++ 47 :: r
        rw [eg, ef, show pth (subF g) = pth (subF f) ++ 47 :: r from hr]
        simp⟩
      rw [this] at h2
      cases h2
  · cases hc : inB (subF f).pa (subF g).pa with
    | false => rfl
    | true =>
      obtain ⟨r, hr⟩ := (inB_list _ _).1 hc
      have : inB f.pa g.pa = true := (inB_list _ _).2 ⟨r, by
        show pth f = pth g ++ 47 :: r
        rw [eg, ef, show pth (subF f) = pth (subF g) ++ 47 :: r from hr]
        simp⟩
      rw [this] at h3
      cases h3
theorem pieces_sl (p : ByteArray) : piecesB p = match sl p.data.toList with | some x => ⟨x.1.toArray⟩ :: piecesB ⟨x.2.toArray⟩ | none => [p] := by
  unfold piecesB
  rw [parts_sl]
  cases sl p.data.toList with
  | none => rfl
  | some x => rfl
theorem ok_sub {f : Fl} (hf : deepF f = true) (h : flE f = 0) : flE (subF f) = 0 ∧ nameOk ⟨(hdF f).toArray⟩ = true := by
  obtain ⟨h1, h2⟩ := flE_pa h
  have hs := subF_size hf
  unfold pathOk at h1
  rw [Bool.and_eq_true, pieces_sl] at h1
  obtain ⟨h3, h4⟩ := h1
  have h5 := of_decide_eq_true h3
  have e : sl f.pa.data.toList = some (hdF f, pth (subF f)) := (deep_sl hf).1
  rw [e] at h4
  simp only [List.all_cons, Bool.and_eq_true] at h4
  have e2 : (⟨(pth (subF f)).toArray⟩ : ByteArray) = (subF f).pa := by
    show (⟨(subF f).pa.data.toList.toArray⟩ : ByteArray) = _
    rw [Array.toArray_toList]
  rw [e2] at h4
  refine ⟨?_, h4.1⟩
  have hp : pathOk (subF f).pa = true := by
    unfold pathOk
    rw [h4.2, Bool.and_true]
    exact decide_eq_true (by omega)
  unfold flE
  rw [if_neg (by rw [hp]; decide), if_neg (by rw [subF_tx]; omega)]
theorem top_name {f : Fl} (hf : deepF f = false) (h : flE f = 0) : nameOk f.pa = true := by
  obtain ⟨h1, _⟩ := flE_pa h
  unfold pathOk at h1
  rw [Bool.and_eq_true, pieces_sl] at h1
  have e : sl f.pa.data.toList = none := top_sl hf
  rw [e] at h1
  simpa using h1.2

/-- What lies in a directory of a name. -/
def sub (n : List UInt8) (L : List Fl) : List Fl := (L.filter fun f => deepF f && decide (hdF f = n)).map subF
def tops (L : List Fl) : List Fl := L.filter fun f => !deepF f
theorem sub_snoc (n : List UInt8) (L : List Fl) (f : Fl) : sub n (L ++ [f]) = if deepF f = true ∧ hdF f = n then sub n L ++ [subF f] else sub n L := by
  unfold sub
  rw [List.filter_append, List.map_append]
  by_cases h : deepF f = true ∧ hdF f = n
  · rw [if_pos h]
    simp [h.1, h.2]
  · rw [if_neg h]
    have : (deepF f && decide (hdF f = n)) = false := by
      rw [Bool.eq_false_iff]
      intro h2
      rw [Bool.and_eq_true, decide_eq_true_eq] at h2
      exact h h2
    simp [this]
theorem tops_snoc (L : List Fl) (f : Fl) : tops (L ++ [f]) = if deepF f = true then tops L else tops L ++ [f] := by
  unfold tops
  rw [List.filter_append]
  cases h : deepF f <;> simp [h]
theorem sub_len (n : List UInt8) (L : List Fl) : (sub n L).length ≤ L.length := by
  unfold sub
  rw [List.length_map]
  exact List.length_filter_le _ _
theorem okT_sub {L : List Fl} (h : okT L) (n : List UInt8) : okT (sub n L) := by
  obtain ⟨h1, h2, h3⟩ := h
  refine ⟨by have := sub_len n L; omega, fun f hf => ?_, ?_⟩
  · obtain ⟨g, hg, rfl⟩ := List.mem_map.1 hf
    rw [List.mem_filter, Bool.and_eq_true] at hg
    exact (ok_sub hg.2.1 (h2 g hg.1)).1
  · unfold sub
    rw [List.pairwise_map]
    have h4 := h3.filter (fun f => deepF f && decide (hdF f = n))
    refine List.Pairwise.imp_of_mem (fun {a b} ha hb hab => ?_) h4
    rw [List.mem_filter, Bool.and_eq_true, decide_eq_true_eq] at ha hb
    exact fit_sub ha.2.1 hb.2.1 (ha.2.2.trans hb.2.2.symm) hab
theorem sub_less {L : List Fl} {n : Nat} (h : ∀ f ∈ L, f.pa.size < n + 1) (m : List UInt8) : ∀ f ∈ sub m L, f.pa.size < n := fun f hf => by
  obtain ⟨g, hg, rfl⟩ := List.mem_map.1 hf
  rw [List.mem_filter, Bool.and_eq_true] at hg
  have := h g hg.1
  have := subF_size hg.2.1
  omega

/-- A name among others that rise. -/
def insN (n : List UInt8) : List (List UInt8) → List (List UInt8)
  | [] => [n]
  | m :: r => if n = m then m :: r else if n < m then n :: m :: r else m :: insN n r
/-- The names of the directories. -/
def names : List Fl → List (List UInt8)
  | [] => []
  | f :: l => if deepF f = true then insN (hdF f) (names l) else names l
theorem insN_mem (n x : List UInt8) : ∀ l : List (List UInt8), x ∈ insN n l ↔ x = n ∨ x ∈ l
  | [] => by simp [insN]
  | m :: r => by
    unfold insN
    by_cases h : n = m
    · rw [if_pos h]
      subst h
      simp
    · rw [if_neg h]
      by_cases h2 : n < m
      · rw [if_pos h2]
        simp
      · rw [if_neg h2, List.mem_cons, insN_mem n x r, List.mem_cons]
        constructor
        · rintro (h | h | h)
          · exact .inr (.inl h)
          · exact .inl h
          · exact .inr (.inr h)
        · rintro (h | h | h)
          · exact .inr (.inl h)
          · exact .inl h
          · exact .inr (.inr h)
theorem insN_up (n : List UInt8) : ∀ l : List (List UInt8), l.Pairwise (· < ·) → (insN n l).Pairwise (· < ·)
  | [], _ => by simp [insN]
  | m :: r, h => by
    rw [List.pairwise_cons] at h
    unfold insN
    by_cases h1 : n = m
    · rw [if_pos h1]
      exact List.pairwise_cons.2 h
    · rw [if_neg h1]
      by_cases h2 : n < m
      · rw [if_pos h2, List.pairwise_cons, List.pairwise_cons]
        refine ⟨fun x hx => ?_, h⟩
        rcases List.mem_cons.1 hx with rfl | hx
        · exact h2
        · exact List.lt_trans h2 (h.1 x hx)
      · rw [if_neg h2, List.pairwise_cons]
        refine ⟨fun x hx => ?_, insN_up n r h.2⟩
        rcases (insN_mem n x r).1 hx with rfl | hx
        · rcases Decidable.em (m < x) with h3 | h3
          · exact h3
          · exact absurd (List.le_antisymm (List.not_lt.1 h3) (List.not_lt.1 h2)) h1
        · exact h.1 x hx
theorem insN_len (n : List UInt8) : ∀ l : List (List UInt8), (insN n l).length ≤ l.length + 1
  | [] => by simp [insN]
  | m :: r => by
    unfold insN
    have := insN_len n r
    by_cases h : n = m
    · rw [if_pos h]; omega
    · rw [if_neg h]
      by_cases h2 : n < m
      · rw [if_pos h2]; simp
      · rw [if_neg h2]; simp; omega
theorem names_mem : ∀ (L : List Fl) (n : List UInt8), n ∈ names L ↔ ∃ f ∈ L, deepF f = true ∧ hdF f = n
  | [], n => by simp [names]
  | f :: l, n => by
    unfold names
    by_cases h : deepF f = true
    · rw [if_pos h, insN_mem, names_mem l n]
      constructor
      · rintro (h1 | ⟨g, hg, h1⟩)
        · exact ⟨f, by simp, h, h1.symm⟩
        · exact ⟨g, by simp [hg], h1⟩
      · rintro ⟨g, hg, h1, h2⟩
        rcases List.mem_cons.1 hg with rfl | hg
        · exact .inl h2.symm
        · exact .inr ⟨g, hg, h1, h2⟩
    · rw [if_neg h, names_mem l n]
      constructor
      · rintro ⟨g, hg, h1⟩
        exact ⟨g, by simp [hg], h1⟩
      · rintro ⟨g, hg, h1, h2⟩
        rcases List.mem_cons.1 hg with rfl | hg
        · exact absurd h1 h
        · exact ⟨g, hg, h1, h2⟩
theorem names_up : ∀ L : List Fl, (names L).Pairwise (· < ·)
  | [] => .nil
  | f :: l => by
    unfold names
    by_cases h : deepF f = true
    · rw [if_pos h]; exact insN_up _ _ (names_up l)
    · rw [if_neg h]; exact names_up l
theorem names_nodup (L : List Fl) : (names L).Nodup := (names_up L).imp fun h e => by rw [e] at h; exact List.lt_irrefl _ h
theorem names_len : ∀ L : List Fl, (tops L).length + (names L).length ≤ L.length
  | [] => by simp [tops, names]
  | f :: l => by
    have ih := names_len l
    unfold names
    by_cases h : deepF f = true
    · rw [if_pos h]
      have := insN_len (hdF f) (names l)
      have e : tops (f :: l) = tops l := by unfold tops; simp [h]
      rw [e, List.length_cons]
      omega
    · rw [if_neg h]
      have e : tops (f :: l) = f :: tops l := by unfold tops; simp [h]
      rw [e, List.length_cons, List.length_cons]
      omega
end Go.Proofs.YtkmlooepakinfaaGreatDoor

/- A directory, plain: its nodes, and how it is packed. -/
namespace Go.Proofs.YtkmlooepakinfaaGreatDoor
open Go.RowKit Go.Shelf Go.Maps Go.WideMaps

def kdF (r : Bool) : Int := if r = true then 2 else 1
def kyN (n : Nd) : List UInt8 := n.1.data.toList
def leN (a b : Nd) : Bool := decide (kyN a ≤ kyN b)
def sortN (ns : List Nd) : List Nd := ns.mergeSort leN
def txN (ns : List Nd) : ByteArray := ⟨(pk (sortN ns).length ++ pkDD (sortN ns)).toArray⟩

theorem leN_trans (a b c : Nd) (h1 : leN a b = true) (h2 : leN b c = true) : leN a c = true := by
  unfold leN at *
  rw [decide_eq_true_eq] at *
  exact List.le_trans h1 h2
theorem leN_total (a b : Nd) : (leN a b || leN b a) = true := by
  unfold leN
  rw [Bool.or_eq_true, decide_eq_true_eq, decide_eq_true_eq]
  exact List.le_total _ _
theorem sortN_up (ns : List Nd) : (sortN ns).Pairwise fun a b => leN a b = true := List.pairwise_mergeSort leN_trans leN_total ns
theorem sortN_perm (ns : List Nd) : (sortN ns).Perm ns := List.mergeSort_perm ns leN
theorem key_inj {l : List Nd} (hn : (l.map kyN).Nodup) {a b : Nd} (ha : a ∈ l) (hb : b ∈ l) (h : kyN a = kyN b) : a = b := by
  obtain ⟨i, hi, rfl⟩ := List.getElem_of_mem ha
  obtain ⟨j, hj, rfl⟩ := List.getElem_of_mem hb
  have hp := List.pairwise_iff_getElem.1 hn
  rcases Nat.lt_trichotomy i j with hij | hij | hij
  · exact absurd (by rw [List.getElem_map, List.getElem_map]; exact h) (hp i j (by simpa using hi) (by simpa using hj) hij)
  · subst hij; rfl
  · exact absurd (by rw [List.getElem_map, List.getElem_map]; exact h.symm) (hp j i (by simpa using hj) (by simpa using hi) hij)
/-- There is one order by names. -/
theorem sortN_uniq {ns d : List Nd} (hn : (ns.map kyN).Nodup) (hp : d.Perm ns) (hs : d.Pairwise fun a b => leN a b = true) : d = sortN ns := by
  refine List.Perm.eq_of_pairwise (le := fun a b => leN a b = true) (fun a b ha hb h1 h2 => ?_) hs (sortN_up ns) (hp.trans (sortN_perm ns).symm)
  unfold leN at h1 h2
  rw [decide_eq_true_eq] at h1 h2
  exact key_inj hn (hp.mem_iff.1 ha) ((sortN_perm ns).mem_iff.1 hb) (List.le_antisymm h1 h2)
theorem sortN_rise {ns : List Nd} (hn : (ns.map kyN).Nodup) : riseB ((sortN ns).map (·.1)) = true := by
  refine riseB_yes _ fun j hj => ?_
  rw [List.length_map] at hj
  rw [List.getElem_map, List.getElem_map]
  have h1 := List.pairwise_iff_getElem.1 (sortN_up ns) j (j + 1) (by omega) hj (by omega)
  have hn2 : ((sortN ns).map kyN).Nodup := ((sortN_perm ns).map kyN).nodup_iff.2 hn
  have h2 := List.pairwise_iff_getElem.1 hn2 j (j + 1) (by rw [List.length_map]; omega) (by rw [List.length_map]; exact hj) (by omega)
  rw [List.getElem_map, List.getElem_map] at h2
  unfold leN at h1
  rw [decide_eq_true_eq] at h1
  unfold less
  rw [Lib.toList_data, Lib.toList_data, tlt, decide_eq_true_eq]
  rcases Decidable.em (kyN (sortN ns)[j] < kyN (sortN ns)[j + 1]) with h | h
  · exact h
  · exact absurd (List.le_antisymm h1 (List.not_lt.1 h)) h2

section
variable (sm : ByteArray → ByteArray)
def ndF (f : Fl) : Nd := (f.pa, kdF f.rn, sm f.tx)
def ndM (m : List UInt8) (s : ByteArray) : Nd := (⟨m.toArray⟩, 3, sm s)
/-- How a directory is packed, and all its texts. -/
def dirF : Nat → List Fl → ByteArray × List ByteArray
  | 0, _ => (⟨#[]⟩, [])
  | n + 1, L => (txN ((tops L).map (ndF sm) ++ (names L).map fun m => ndM sm m (dirF n (sub m L)).1), (tops L).map Fl.tx ++ (names L).flatMap (fun m => (dirF n (sub m L)).2) ++ [txN ((tops L).map (ndF sm) ++ (names L).map fun m => ndM sm m (dirF n (sub m L)).1)])
/-- A directory's nodes, as they come. -/
def nsF (n : Nat) (L : List Fl) : List Nd := (tops L).map (ndF sm) ++ (names L).map fun m => ndM sm m (dirF sm n (sub m L)).1
theorem dirF_succ (n : Nat) (L : List Fl) : dirF sm (n + 1) L = (txN (nsF sm n L), (tops L).map Fl.tx ++ (names L).flatMap (fun m => (dirF sm n (sub m L)).2) ++ [txN (nsF sm n L)]) := rfl

theorem nsF_keys (n : Nat) (L : List Fl) : (nsF sm n L).map kyN = (tops L).map pth ++ names L := by
  unfold nsF
  rw [List.map_append, List.map_map, List.map_map]
  congr 1
  have : (kyN ∘ fun m => ndM sm m (dirF sm n (sub m L)).1) = id := by
    funext m
    rfl
  rw [this, List.map_id]
theorem nsF_nodup (n : Nat) {L : List Fl} (h : okT L) : ((nsF sm n L).map kyN).Nodup := by
  rw [nsF_keys, List.nodup_append]
  obtain ⟨_, _, h3⟩ := h
  refine ⟨?_, names_nodup L, fun x hx y hy e => ?_⟩
  · unfold tops
    exact List.pairwise_map.2 ((h3.filter _).imp fun hh e => by have := hh.1; rw [e] at this; exact List.lt_irrefl _ this)
  · obtain ⟨f, hf, rfl⟩ := List.mem_map.1 hx
    obtain ⟨g, hg, hd, hh⟩ := (names_mem L y).1 hy
    unfold tops at hf
    rw [List.mem_filter] at hf
    have eg := (deep_sl hd).2
    have hin : inB g.pa f.pa = true := (inB_list _ _).2 ⟨pth (subF g), by
      show pth g = pth f ++ 47 :: pth (subF g)
      rw [e, ← hh]
      exact eg⟩
    obtain ⟨i, hi, rfl⟩ := List.getElem_of_mem hf.1
    obtain ⟨j, hj, rfl⟩ := List.getElem_of_mem hg
    have hp := List.pairwise_iff_getElem.1 h3
    rcases Nat.lt_trichotomy i j with hij | hij | hij
    · rw [(hp i j hi hj hij).2.1] at hin; cases hin
    · subst hij; rw [inB_self] at hin; cases hin
    · rw [(hp j i hj hi hij).2.2] at hin; cases hin
theorem nsF_len (n : Nat) (L : List Fl) : (nsF sm n L).length ≤ L.length := by
  unfold nsF
  rw [List.length_append, List.length_map, List.length_map]
  exact names_len L
theorem nsF_ok (hsm : ∀ t, digOk (sm t) = true) (n : Nat) {L : List Fl} (h : okT L) : neC (sortN (nsF sm n L)) = 0 := by
  have hl : (sortN (nsF sm n L)).length ≤ 60 := by rw [(sortN_perm _).length_eq]; have := nsF_len sm n L; have := h.1; omega
  have he : ndEs (sortN (nsF sm n L)) = 0 := ndEs_yes _ fun j hj => by
    have hm : (sortN (nsF sm n L))[j] ∈ nsF sm n L := (sortN_perm _).mem_iff.1 (List.getElem_mem hj)
    generalize (sortN (nsF sm n L))[j] = x at hm
    unfold nsF at hm
    rcases List.mem_append.1 hm with hm | hm
    · obtain ⟨f, hf, rfl⟩ := List.mem_map.1 hm
      unfold tops at hf
      rw [List.mem_filter] at hf
      have hnm := top_name (by simpa using hf.2) (h.2.1 f hf.1)
      unfold ndE ndF
      simp only
      rw [if_neg (by rw [hnm]; decide), if_neg (by rw [hsm]; decide), if_neg (by unfold kdF; split <;> decide)]
    · obtain ⟨m, hm2, rfl⟩ := List.mem_map.1 hm
      obtain ⟨g, hg, hd, hh⟩ := (names_mem L m).1 hm2
      have hnm := (ok_sub hd (h.2.1 g hg)).2
      rw [hh] at hnm
      unfold ndE ndM
      simp only
      rw [if_neg (by rw [hnm]; decide), if_neg (by rw [hsm]; decide), if_neg (by decide)]
  unfold neC
  rw [if_neg (by omega), if_pos he, if_pos (sortN_rise (nsF_nodup sm n h))]
end
end Go.Proofs.YtkmlooepakinfaaGreatDoor

/- What ReadResult answers at a packed result. -/
namespace Go.Proofs.YtkmlooepakinfaaGreatDoor
open Go.RowKit Go.Shelf

theorem rd_number2 (b : Nat) (s : ByteArray) (w : World) (n : Nat) (r : List UInt8) (hs : s.size ≤ maxLen) (hn : n ≤ 9007199254740991) (h : s.data.toList = pk n ++ r)
    (hc : w.cell? ⟨b, 0, none⟩ = some (.string s)) (hf : w.frozen? ⟨b, 0, none⟩ = false) :
    Calls Tryz.prog 158 #[.pointer (some ⟨b, 0, none⟩)] w fun e w' => e = .returned (.int .i64 n) ∧ (∃ s' : ByteArray, s'.data.toList = r ∧ s'.size ≤ maxLen ∧ w'.cell? ⟨b, 0, none⟩ = some (.string s')) ∧ w'.frozen? ⟨b, 0, none⟩ = false ∧ w.grownBy w' (some b) := by
  refine (rd_number b s w n r hs hn h hc hf).mono ?_
  rintro e w' ⟨rfl, s', h1, h2, rfl⟩
  exact ⟨rfl, ⟨s', h1, h2, World.cell?_setCell_same' _ _ _ (by rw [hc]; rfl)⟩, by rw [World.frozen?_setCell]; exact hf, grownBy_set w b 0 _⟩
end Go.Proofs.YtkmlooepakinfaaGreatDoor
