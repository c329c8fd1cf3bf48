/- Check: does a path go through a file? -/
import Derived.Test.YtcpomkgfcpfedaaGreatDoorTrS
namespace Go.Proofs.YtcpomkgfcpfedaaGreatDoor
open Go.RowKit Go.Shelf Go.Maps Go.WideMaps

theorem ownsMap_heap {H : Type} {w w' : World} {P : Program} {k : TypeId} {R : Value → Option (DataW H × List MemPlace)} {b n : Nat} {D : DataW H} (h : w.ownsMap P k R b n D) (hh : w'.heap[b]? = w.heap[b]?) : w'.ownsMap P k R b n D := by
  obtain ⟨es, clock, hb, rest⟩ := h
  exact ⟨es, clock, hh.trans hb, rest⟩

theorem lookF {M n : Nat} {D : DataW Unit} {w : World} (hown : w.ownsMap Tryz.prog 9 fileE M n D) (s : ByteArray) (hs : s.size ≤ maxLen) :
    ∃ f, fD f = D.atKey (.string s.data.toList) (fD ⟨⟨#[]⟩, ⟨#[]⟩, false⟩) ∧ ∀ W : World, W.heap[M]? = w.heap[M]? → (Instr.lookup 54 (.map (some M)) (.string s) true).run Tryz.prog W = .ok (.tuple #[encF f, .bool (Maps.has D (.string s.data.toList))]) W := by
  obtain ⟨v, ps, _, hv⟩ := hown.look_ok lawS Tryz.underlying54 (zeroF w) (fileE_mk ⟨⟨#[]⟩, ⟨#[]⟩, false⟩) (keyOf_string_mk Tryz.underlying9 hs)
  obtain ⟨f, rfl, hf⟩ := fileE_inv hv
  refine ⟨f, hf.symm, fun W hW => ?_⟩
  obtain ⟨v2, ps2, hr2, hv2⟩ := (ownsMap_heap hown hW).look_ok lawS Tryz.underlying54 (zeroF W) (fileE_mk ⟨⟨#[]⟩, ⟨#[]⟩, false⟩) (keyOf_string_mk Tryz.underlying9 hs)
  obtain ⟨f2, rfl, hf2⟩ := fileE_inv hv2
  rw [fD_inj (hf.symm.trans hf2)]
  exact hr2

/-- Does a path go through something that is there? -/
def thrB (p : ByteArray) (D : DataW Unit) : Bool := (List.range p.size).any fun i => decide (p.data.toList.getD i 0 = 47) && Maps.has D (.string (p.extract 0 i).data.toList)

theorem ne47 (x : UInt8) : ((x.toNat : Int) != 47) = !decide (x = 47) := by
  rw [← is47]
  rfl

set_option maxHeartbeats 4000000 in
set_option maxRecDepth 100000 in
theorem thr1_any (f : Fl) (bx M n : Nat) (D : DataW Unit) (w : World) (hbx : w.cell? ⟨bx, 0, none⟩ = some (.map (some M))) (hown : w.ownsMap Tryz.prog 9 fileE M n D) (hs : f.pa.size ≤ 1000000) :
    Calls Tryz.prog 58 #[encF f, .pointer (some ⟨bx, 0, none⟩)] w fun e w' => e = .returned (.bool (thrB f.pa D)) ∧ Below w.heap.size w w' := by
  obtain ⟨p, t, r⟩ := f
  have hbl : bx < w.heap.size := by simpa using World.block_lt_of_cell? w _ hbx
  have hMl := hown.lt
  have HX : Hid (w.cell? ⟨bx, 0, none⟩ = some (.map (some M))) := hbx
  have HO : Hid (w.ownsMap Tryz.prog 9 fileE M n D) := hown
  have hs1 : (p.size : Int) ≤ 1000000 := by simp only at hs; omega
  unfold encF
  simp only at hs ⊢
  clear hbx hown
  go_enter Tryz.func58, Tryz.ntmps58
  go_wp2
  go_loopw [10] (fun i wr => ∃ k : Nat, k ≤ p.size ∧ i = .int .i64 k ∧ (∀ j, j < k → (decide (p.data.toList.getD j 0 = 47) && Maps.has D (.string (p.extract 0 j).data.toList)) = false) ∧ Below (w.heap.size + 1) (w.alloc (.cells #[.string p, .string t, .bool r] 37)) wr) (fun i _ => p.size - (intOf i).toNat)
  case atStart => exact ⟨0, by omega, rfl, by omega, Below.refl _ _⟩
  case round =>
    obtain ⟨k, hk, rfl, hlo, hb⟩ := hrel
    have HL : Hid (∀ j, j < k → (decide (p.data.toList.getD j 0 = 47) && Maps.has D (.string (p.extract 0 j).data.toList)) = false) := hlo
    have HB : Hid (Below (w.heap.size + 1) (w.alloc (.cells #[.string p, .string t, .bool r] 37)) wr) := hb
    have hx := heap_alloc_new w (.cells #[.string p, .string t, .bool r] 37)
    have hwz : (w.alloc (.cells #[.string p, .string t, .bool r] 37)).heap.size = w.heap.size + 1 := World.size_alloc _ _
    have HF : Hid (Below w.heap.size w wr) := ((Below.refl _ w).alloc (Nat.le_refl _) _).trans (hb.mono (by omega))
    have hsz : w.heap.size + 1 ≤ wr.heap.size := by rw [← hwz]; exact hb.size
    have c0 : wr.cell? ⟨w.heap.size, 0, none⟩ = some (.string p) := by
      rw [hb.cell (p := ⟨w.heap.size, 0, none⟩) (by show w.heap.size < _; omega)]
      exact Lib.cell_of_heap hx 0
    have cb : wr.cell? ⟨bx, 0, none⟩ = some (.map (some M)) := by
      rw [HF.out.cell (p := ⟨bx, 0, none⟩) hbl]
      exact HX.out
    have hownr : wr.ownsMap Tryz.prog 9 fileE M n D := ownsMap_heap HO.out (HF.out.block M hMl)
    clear hlo hb hx hwz
    by_cases hlt : k < p.size
    · have hki : (k : Int) < p.size := by omega
      have hq : ((p[k].toNat : Int) != 47) = !decide (p.data.toList.getD k 0 = 47) := by rw [ne47, at_getD]
      by_cases h47 : p.data.toList.getD k 0 = 47
      · have H47 : Hid (p.data.toList.getD k 0 = 47) := h47
        rw [decide_eq_true h47] at hq
        have hq' : ((p[k].toNat : Int) != 47) = false := hq
        clear hq h47
        have hex : (p.extract 0 k).size ≤ maxLen := by rw [ByteArray.size_extract]; unfold maxLen; omega
        obtain ⟨f2, _, hlk⟩ := lookF hownr (p.extract 0 k) hex
        obtain ⟨fp, ft, fr⟩ := f2
        have l0 : (Instr.lookup 54 (.map (some M)) (.string (p.extract 0 k)) true).run Tryz.prog wr.drew = .ok (.tuple #[.agg #[.string fp, .string ft, .bool fr], .bool (Maps.has D (.string (p.extract 0 k).data.toList))]) wr.drew := hlk wr.drew rfl
        have l1 : ∀ o, (Instr.lookup 54 (.map (some M)) (.string (p.extract 0 k)) true).run Tryz.prog (wr.alloc o).drew = .ok (.tuple #[.agg #[.string fp, .string ft, .bool fr], .bool (Maps.has D (.string (p.extract 0 k).data.toList))]) (wr.alloc o).drew := fun o => hlk _ (Below.heap_alloc _ _ M hownr.lt)
        have hle : k ≤ p.size := by omega
        have HH : Hid ((decide (p.data.toList.getD k 0 = 47) && Maps.has D (.string (p.extract 0 k).data.toList)) = Maps.has D (.string (p.extract 0 k).data.toList)) := by
          show _ = _
          rw [decide_eq_true H47.out, Bool.true_and]
        have cA : ∀ o, (wr.alloc o).cell? ⟨w.heap.size, 0, none⟩ = some (.string p) := fun o => (((Below.refl _ wr).alloc (Nat.le_refl _) o).cell (p := ⟨w.heap.size, 0, none⟩) (by show w.heap.size < wr.heap.size; omega)).trans c0
        have cB : ∀ o, (wr.alloc o).cell? ⟨bx, 0, none⟩ = some (.map (some M)) := fun o => (((Below.refl _ wr).alloc (Nat.le_refl _) o).cell (p := ⟨bx, 0, none⟩) (by show bx < wr.heap.size; omega)).trans cb
        have HE : Hid (∀ o, Below (w.heap.size + 1) (w.alloc (.cells #[.string p, .string t, .bool r] 37)) (wr.alloc o).drew ∧ Below w.heap.size w (wr.alloc o).drew) := fun o => ⟨(HB.out.alloc (by omega) o).drew, (HF.out.alloc (by omega) o).drew⟩
        clear hlk hownr
        have HQ : Hid (∀ hb, Maps.has D (.string (p.extract 0 k).data.toList) = hb → (decide (p.data.toList.getD k 0 = 47) && Maps.has D (.string (p.extract 0 k).data.toList)) = hb) := fun hb h => HH.out.trans h
        obtain ⟨hb, hhb⟩ : ∃ hb, Maps.has D (.string (p.extract 0 k).data.toList) = hb := ⟨_, rfl⟩
        have HR : Hid ((decide (p.data.toList.getD k 0 = 47) && Maps.has D (.string (p.extract 0 k).data.toList)) = hb) := HQ.out hb hhb
        rw [hhb] at l0
        simp only [hhb] at l1
        clear hhb HH HQ
        cases hb with
        | true =>
          go_wp2
          go_region
          go_wp2
          go_ret
          refine ⟨?_, (HE.out _).2⟩
          have : thrB p D = true := List.any_eq_true.2 ⟨k, List.mem_range.2 hlt, HR.out⟩
          rw [this]
          rfl
        | false =>
          go_wp2
          go_region
          go_wp2
          refine ⟨⟨k + 1, by omega, by go_num, fun j hj => ?_, (HE.out _).1⟩, by simp [intOf]; omega⟩
          by_cases h : j < k
          · exact HL.out j h
          · obtain rfl : j = k := by omega
            exact HR.out
      · have H47 : Hid (¬ p.data.toList.getD k 0 = 47) := h47
        rw [decide_eq_false h47] at hq
        have hq' : ((p[k].toNat : Int) != 47) = true := hq
        clear hq h47 hownr
        go_wp2
        refine ⟨⟨k + 1, by omega, by go_num, fun j hj => ?_, HB.out⟩, by simp [intOf]; omega⟩
        by_cases h : j < k
        · exact HL.out j h
        · obtain rfl : j = k := by omega
          rw [decide_eq_false H47.out, Bool.false_and]
    · have hki : ¬ (k : Int) < p.size := by omega
      have e : thrB p D = false := by
        unfold thrB
        rw [List.any_eq_false]
        intro j hj
        rw [HL.out j (by have := List.mem_range.1 hj; omega)]
        decide
      have HE : Hid (thrB p D = false) := e
      clear e hownr
      go_wp2
      go_ret
      exact ⟨by rw [HE.out]; rfl, HF.out⟩

theorem thrB_byD (p : ByteArray) (M : List Fl) : thrB p (byD M) = M.any fun g => inB p g.pa := by
  rw [Bool.eq_iff_iff]
  unfold thrB
  rw [List.any_eq_true, List.any_eq_true]
  constructor
  · rintro ⟨i, hi, h⟩
    rw [Bool.and_eq_true, has_byD, List.any_eq_true] at h
    obtain ⟨h1, g, hg, h2⟩ := h
    exact ⟨g, hg, (inB_iff _ _).2 ⟨i, List.mem_range.1 hi, of_decide_eq_true h1, of_decide_eq_true h2⟩⟩
  · rintro ⟨g, hg, h⟩
    obtain ⟨i, h1, h2, h3⟩ := (inB_iff _ _).1 h
    refine ⟨i, List.mem_range.2 h1, ?_⟩
    rw [Bool.and_eq_true, has_byD, List.any_eq_true]
    exact ⟨decide_eq_true h2, g, hg, decide_eq_true h3⟩

theorem anyD (L M : List Fl) : (L.any fun f => thrB f.pa (byD M)) = thruF L M := by
  unfold thruF
  congr 1
  funext f
  exact thrB_byD _ _
end Go.Proofs.YtcpomkgfcpfedaaGreatDoor
