/- What comes behind a text, to make whole blocks. -/
import Derived.Test.YtagelkaenbdlaaaDoorDigits
namespace Go.Proofs.YtagelkaenbdlaaaDoor
open Go.RowKit

/-- How many bytes there are ahead of the length. -/
def endQ (n : Nat) : Nat := 64 - (n + 8) % 64
def lenB (n j : Nat) : UInt8 := UInt8.ofNat (8 * n / 2 ^ (56 - 8 * j) % 256)
def lenBs (n j : Nat) : List UInt8 := (List.range j).map (lenB n)
def endB (n : Nat) : List UInt8 := 128 :: (List.replicate (endQ n - 1) 0 ++ lenBs n 8)

set_option maxHeartbeats 4000000 in
set_option maxRecDepth 100000 in
theorem ending_any (w : World) (n : Nat) (hn : n ≤ 140737488355328) :
    Calls Tryd.prog 31 #[.int .i64 n] w fun e w' => e = .returned (.string ⟨(endB n).toArray⟩) ∧ Below w.heap.size w w' := by
  obtain ⟨i0, hi, hz0, hz1, hz2⟩ := info_p infB
  obtain ⟨q, hq⟩ : ∃ q, q = endQ n := ⟨_, rfl⟩
  have hq1 : 1 ≤ q ∧ q ≤ 64 := by rw [hq]; unfold endQ; omega
  have e1 : (63 : Int) - ((n : Int) + 8) % 64 = (q : Int) - 1 := by rw [hq]; unfold endQ; omega
  have hmk : (Instr.makeSlice 55 (.int .i64 (q : Int)) (.int .i64 ((q : Int) + 8))).run Tryd.prog w = .ok (.slice (some ⟨w.heap.size, 0, none⟩) q (q + 8)) (w.alloc (.cells (madeCells #[.int .u8 0] (q + 8)) 5)) := by
    have := run_make (P := Tryd.prog) w 55 5 i0 (.int .u8 0) Tryd.underlying55 hi hz0 .i64 .i64 (q : Int) ((q : Int) + 8) (by omega) (by omega) (by rw [hz2]; omega) (by omega)
    rw [hz1, show ((q : Int) + 8).toNat = q + 8 by omega, show (q : Int).toNat = q by omega, Nat.mul_one] at this
    exact this
  have ho : (w.alloc (.cells (madeCells #[.int .u8 0] (q + 8)) 5)).ownsRow w.heap.size 5 1 (.slice (some ⟨w.heap.size, 0, none⟩) q (q + 8)) q (bcs (List.replicate q 0)) := by
    refine ⟨by simp [bcs], Or.inr ⟨w.heap.size, q + 8, madeCells #[.int .u8 0] (q + 8), rfl, Nat.le_refl _, heap_alloc_new w _, by omega, by unfold maxLen; omega, by simp [madeCells], ?_⟩⟩
    rw [toList_madeCells_one]
    simp [bcs, List.take_replicate]
  have HO : Hid _ := ho
  have HQ : Hid (q = endQ n) := hq
  have e2 : (1 : Int) + ((q : Int) - 1) = q := by omega
  have c0 : (w.alloc (.cells (madeCells #[.int .u8 0] (q + 8)) 5)).cell? ⟨w.heap.size, 0, none⟩ = some (.int .u8 0) := by
    have := ho.cells rfl 0 (.int .u8 0) (by simp only [bcs, List.map_replicate]; rw [List.getElem?_replicate, if_pos (by omega)]; rfl)
    simpa [Addr.add] using this
  have f0 : (w.alloc (.cells (madeCells #[.int .u8 0] (q + 8)) 5)).frozen? ⟨w.heap.size, 0, none⟩ = false := ho.frozenAt 0
  have hq2 : (1 : Int) ≤ (q : Int) := by omega
  have hq3 : (q : Int) ≤ 64 := by omega
  have HO2 : Hid ((w.alloc (.cells ((madeCells #[.int .u8 0] (q + 8)).setIfInBounds 0 (.int .u8 128)) 5)).ownsRow w.heap.size 5 1 (.slice (some ⟨w.heap.size, 0, none⟩) q (q + 8)) (q + 0) (bcs (128 :: (List.replicate (q - 1) 0 ++ lenBs n 0)))) := by
    show World.ownsRow _ _ _ _ _ _ _
    refine ⟨by simp [bcs, lenBs]; omega, Or.inr ⟨w.heap.size, q + 8, _, rfl, Nat.le_refl _, heap_alloc_new w _, by omega, by unfold maxLen; omega, by simp [madeCells], ?_⟩⟩
    rw [Array.toList_setIfInBounds, toList_madeCells_one]
    obtain ⟨r, rfl⟩ : ∃ r, q = r + 1 := ⟨q - 1, by omega⟩
    rw [show r + 1 + 8 = (r + 8) + 1 by omega, List.replicate_succ, List.set_cons_zero, Nat.add_zero, Nat.mul_one, List.take_succ_cons, List.take_replicate, Nat.min_eq_left (by omega)]
    simp [bcs, lenBs]
  clear ho hq hq1 HO
  go_enter Tryd.func31, Tryd.ntmps31
  go_wp2
  go_loopw [4, 6] (fun v sh wr => ∃ j : Nat, j ≤ 8 ∧ sh = .int .i64 (56 - 8 * (j : Int)) ∧ wr.ownsRow w.heap.size 5 1 v (q + j) (bcs (128 :: (List.replicate (q - 1) 0 ++ lenBs n j))) ∧ Below w.heap.size w wr) (fun _ sh _ => (intOf sh + 8).toNat)
  case atStart => exact ⟨0, by omega, rfl, HO2.out, (Below.refl _ _).alloc (Nat.le_refl _) _⟩
  case round =>
    clear HO2
    obtain ⟨j, hj, rfl, hown, hb⟩ := hrel
    have HO : Hid (wr.ownsRow w.heap.size 5 1 u4 (q + j) (bcs (128 :: (List.replicate (q - 1) 0 ++ lenBs n j)))) := hown
    have HB : Hid (Below w.heap.size w wr) := hb
    clear hown hb c0 f0 hmk
    by_cases hjt : j < 8
    · obtain ⟨m, hm⟩ : ∃ m : Nat, m = 56 - 8 * j := ⟨_, rfl⟩
      have hm2 : (56 : Int) - 8 * (j : Int) = (m : Int) := by omega
      have hsr : Op.shift .shr .u64 ((n : Int) * 8) .i64 (m : Int) = pure (.int .u64 ((n : Int) * 8 / 2 ^ m)) := by
        rw [shift_shr _ _ _ _ (by omega) (by show (m : Int) ≤ 64; omega)]
        rfl
      have m0 : (0 : Int) ≤ (m : Int) := by omega
      have HC : Hid (((lenB n j).toNat : Int) = (n : Int) * 8 / 2 ^ m % 256) := by
        show _ = _
        unfold lenB
        rw [← hm, UInt8.toNat_ofNat', Nat.mod_mod]
        push_cast
        rw [Int.mul_comm]
      have HM : Hid (m = 56 - 8 * j) := hm
      clear hm
      go_wp2_with (at_builtin; refine wpList_append_own _ rfl _ _ 55 rfl w.heap.size 5 i0 (.int .u8 0) 1 1 Tryd.underlying55 hi hz0 hz1 hz2 rfl (by decide) _ _ _ rfl (HO.out.alloc _) ⟨_, 0, none⟩ 1 1 [.int .u8 ((n : Int) * 8 / 2 ^ m % 256)] rfl rfl ?c1 ?c2 ?c3 ?c4 ?c5 ?_)
      case c1 =>
        intro j u hj
        match j, hj with
        | 0, hj => simp at hj; subst hj; simp [Addr.add]
      case c2 => intro u hu; simp at hu; subst hu; rfl
      case c3 => unfold maxLen; omega
      case c4 => omega
      case c5 => have := HB.out.size; simp; omega
      intro v' w4 hown4 hg4 _
      have hrow : ∀ j, Value.ownBlock _ = some j → w.heap.size ≤ j := fun j hj => (HO.out.lt j hj).1
      have HB4 : Hid (Below w.heap.size w w4) := (HB.out.alloc HB.out.size _).grown hg4 (by have := HB.out.size; simp; omega) hrow
      have HO4 : Hid (w4.ownsRow w.heap.size 5 1 v' (q + j + 1) (bcs (128 :: (List.replicate (q - 1) 0 ++ lenBs n j)) ++ [.int .u8 ((n : Int) * 8 / 2 ^ m % 256)])) := hown4
      clear hown4 hg4 hrow
      go_wp2
      refine ⟨⟨j + 1, by omega, ?_, ?_, HB4.out⟩, by simp [intOf]; omega⟩
      · have := HM.out
        congr 1
        omega
      · have e1 : bcs (128 :: (List.replicate (q - 1) 0 ++ lenBs n (j + 1))) = bcs (128 :: (List.replicate (q - 1) 0 ++ lenBs n j)) ++ [.int .u8 ((n : Int) * 8 / 2 ^ m % 256)] := by
          rw [← HC.out]
          simp [bcs, lenBs, List.range_succ]
        rw [e1]
        exact HO4.out
    · obtain rfl : j = 8 := by omega
      obtain ⟨l, hl⟩ : ∃ l : List UInt8, l = 128 :: (List.replicate (q - 1) 0 ++ lenBs n 8) := ⟨_, rfl⟩
      have HL : Hid (endB n = l) := by show _ = _; unfold endB; rw [← HQ.out, hl]
      have ho := HO.out
      rw [← hl] at ho
      have h64 : l.length = q + 8 := by
        have := ho.1
        simpa [bcs] using this
      obtain ⟨g, cap, rfl, hcells⟩ : ∃ g cap, u4 = .slice (some ⟨g, 0, none⟩) (q + 8) cap ∧ ∀ j (hj : j < l.length), wr.cell? ((⟨g, 0, none⟩ : Addr).add j) = some (.int .u8 (l[j].toNat : Int)) := by
        have hc := fun (g : Nat) (hg : u4.ownBlock = some g) => ho.cells hg
        rcases ho.2 with ⟨_, h⟩ | ⟨g, cap, cur, hv, _⟩
        · omega
        · exact ⟨g, cap, hv, fun j hj => hc g (by rw [hv]; rfl) j _ (by simp [bcs, hj])⟩
      have hcv : (convert 55 9 (.slice (some ⟨g, 0, none⟩) (q + 8) cap)).run Tryd.prog wr = .ok (.string ⟨l.toArray⟩) wr := by
        rw [show q + 8 = l.length from h64.symm]
        exact run_convert_bytes_back wr 55 9 5 ⟨g, 0, none⟩ cap l Tryd.underlying55 Tryd.underlying5 Tryd.underlying9 hcells
      clear ho hcells h64 HO hl
      go_wp2
      go_ret
      exact ⟨by rw [HL.out]; rfl, HB.out⟩
end Go.Proofs.YtagelkaenbdlaaaDoor
