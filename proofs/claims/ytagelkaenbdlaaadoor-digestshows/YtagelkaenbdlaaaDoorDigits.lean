/- What the digest's own digits of a state are. -/
import Derived.Test.YtagelkaenbdlaaaDoorIx
import Derived.OwnWalk
import Derived.Laws.IdiomStrings
namespace Go.Proofs.YtagelkaenbdlaaaDoor
open Go.RowKit

def hexC (n : Nat) : Nat := if n < 10 then 48 + n else 87 + n
def nib (x : Int) (s : Nat) : Int := bits .and .u32 (x / 2 ^ s) 15
/-- Digit j of a number, the greatest first. -/
def dgt (x : Int) (j : Nat) : UInt8 := UInt8.ofNat (hexC (nib x (28 - 4 * j)).toNat)
def dg (x : Int) (j : Nat) : List UInt8 := (List.range j).map (dgt x)
def dgs (l : List Int) : List UInt8 := l.flatMap fun x => dg x 8
def bcs (l : List UInt8) : List Value := l.map fun c => .int .u8 c.toNat
theorem infB : (Tryd.prog.info? 5).map (fun i => (i.zero, i.size, i.bytes)) = some (some (.int .u8 0), 1, 1) := by kernel_rfl
theorem info_p {i : Option TypeInfo} {z : Value} {s b : Nat} (h : i.map (fun i => (i.zero, i.size, i.bytes)) = some (some z, s, b)) : ∃ i0, i = some i0 ∧ i0.zero = some z ∧ i0.size = s ∧ i0.bytes = b := by
  cases i with
  | none => cases h
  | some i0 =>
    simp at h
    exact ⟨i0, rfl, h.1, h.2.1, h.2.2⟩

theorem nib_lt (x : Int) (s : Nat) : 0 ≤ nib x s ∧ nib x s < 16 := by
  unfold nib bits
  have h : (BitVec.ofInt 32 (x / 2 ^ s) &&& BitVec.ofInt 32 15).toNat < 16 := by
    rw [BitVec.toNat_and]
    exact Nat.lt_of_le_of_lt Nat.and_le_right (by decide)
  generalize hn : (BitVec.ofInt 32 (x / 2 ^ s) &&& BitVec.ofInt 32 15).toNat = n at h
  have e : IntKind.u32.wrap (n : Int) = n := by rw [IntKind.wrap_u32]; omega
  show 0 ≤ IntKind.u32.wrap ((BitVec.ofInt 32 (x / 2 ^ s) &&& BitVec.ofInt 32 15).toNat : Int) ∧ IntKind.u32.wrap ((BitVec.ofInt 32 (x / 2 ^ s) &&& BitVec.ofInt 32 15).toNat : Int) < 16
  rw [hn, e]
  omega

abbrev hexS : ByteArray := ⟨#[48, 49, 50, 51, 52, 53, 54, 55, 56, 57, 97, 98, 99, 100, 101, 102]⟩
theorem hexS_at : ∀ n : Nat, n < 16 → hexS[n]? = some (UInt8.ofNat (hexC n)) := by decide
theorem hex_ix (x : Int) (s : Nat) (W : World) : (Instr.index 9 (.string hexS) (.int .u32 (nib x s))).run Tryd.prog W = .ok (.int .u8 ((UInt8.ofNat (hexC (nib x s).toNat)).toNat)) W := by
  have h := nib_lt x s
  have h2 := hexS_at (nib x s).toNat (by omega)
  simp [Instr.index, run_underlying Tryd.underlying9, asIntOf, h.1, h2]

set_option maxHeartbeats 4000000 in
set_option maxRecDepth 100000 in
theorem digits_any (w : World) (a0 a1 a2 a3 a4 a5 a6 a7 : Int) :
    Calls Tryd.prog 32 #[.agg #[.int .u32 a0, .int .u32 a1, .int .u32 a2, .int .u32 a3, .int .u32 a4, .int .u32 a5, .int .u32 a6, .int .u32 a7]] w fun e w' => e = .returned (.string ⟨(dgs [a0, a1, a2, a3, a4, a5, a6, a7]).toArray⟩) ∧ Below w.heap.size w w' := by
  obtain ⟨i0, hi, hz0, hz1, hz2⟩ := info_p infB
  go_enter Tryd.func32, Tryd.ntmps32
  go_wp2_with (at_make; refine wpList_make_own _ rfl _ _ 55 rfl w.heap.size 5 i0 (.int .u8 0) 1 Tryd.underlying55 hi hz0 hz1 _ _ _ 64 rfl rfl ?m1 ?m2 ?m3 ?m4 ?_)
  case m1 => rfl
  case m2 => rw [hz2]; decide
  case m3 => unfold maxLen; decide
  case m4 => simp
  intro w2 hown hg2
  have a2 : ArrAt w2 w.heap.size 50 [a0, a1, a2, a3, a4, a5, a6, a7] := (hg2.block w.heap.size (by simp) (by simp)).trans (ArrAt.new w 50 [a0, a1, a2, a3, a4, a5, a6, a7])
  have HB2 : Hid (Below w.heap.size w w2) := ((Below.refl _ _).alloc (Nat.le_refl _) _).grown hg2 (by simp) (by intro k hk; cases hk)
  have c0 := a2.cell 0 (by simp)
  have c1 := a2.cell 1 (by simp)
  have c2 := a2.cell 2 (by simp)
  have c3 := a2.cell 3 (by simp)
  have c4 := a2.cell 4 (by simp)
  have c5 := a2.cell 5 (by simp)
  have c6 := a2.cell 6 (by simp)
  have c7 := a2.cell 7 (by simp)
  simp only [List.getElem_cons_zero, List.getElem_cons_succ] at c0 c1 c2 c3 c4 c5 c6 c7
  have HO2 : Hid (w2.ownsRow (w.heap.size + 1) 5 1 (.slice (some ⟨w.heap.size + 1, 0, none⟩) 0 64) 0 []) := by
    show World.ownsRow _ _ _ _ _ _ _
    refine ⟨rfl, Or.inr ?_⟩
    rcases hown.2 with ⟨h, _⟩ | ⟨g, cap, cur, hv, _, hh, r⟩
    · cases h
    · cases hv
      exact ⟨w.heap.size + 1, 64, cur, by simp, Nat.le_refl _, by simpa using hh, r⟩
  clear hown hg2 a2
  obtain ⟨l, hl⟩ : ∃ l : List Int, l = [a0, a1, a2, a3, a4, a5, a6, a7] := ⟨_, rfl⟩
  have hll : l.length = 8 := by rw [hl]; rfl
  have HIX : Hid (∀ (k : Nat) (hk : k < l.length) (W : World), (Instr.index 50 (.agg #[.int .u32 a0, .int .u32 a1, .int .u32 a2, .int .u32 a3, .int .u32 a4, .int .u32 a5, .int .u32 a6, .int .u32 a7]) (.int .i64 k)).run Tryd.prog W = .ok (.int .u32 l[k]) W) := fun k hk W => by
    subst hl
    refine ix8 a0 a1 a2 a3 a4 a5 a6 a7 k (by simpa using hk) _ ?_ W
    match k, hk with
    | 0, _ => rfl
    | 1, _ => rfl
    | 2, _ => rfl
    | 3, _ => rfl
    | 4, _ => rfl
    | 5, _ => rfl
    | 6, _ => rfl
    | 7, _ => rfl
  have HL : Hid (l = [a0, a1, a2, a3, a4, a5, a6, a7]) := hl
  clear hl
  go_wp2
  clear c0 c1 c2 c3 c4 c5 c6 c7
  go_loopw [3, 9] (fun v i wr => ∃ k : Nat, k ≤ 8 ∧ i = .int .i64 k ∧ wr.ownsRow (w.heap.size + 1) 5 1 v (8 * k) (bcs (dgs (l.take k))) ∧ Below w.heap.size w wr) (fun _ i _ => 8 - (intOf i).toNat)
  case atStart => exact ⟨0, by omega, rfl, HO2.out, HB2.out⟩
  case round =>
    obtain ⟨k, hk, rfl, hown, hb⟩ := hrel
    have HO : Hid (wr.ownsRow (w.heap.size + 1) 5 1 u3 (8 * k) (bcs (dgs (l.take k)))) := hown
    have HB : Hid (Below w.heap.size w wr) := hb
    clear hown hb HO2 HB2
    by_cases hlt : k < 8
    · have hix := HIX.out k (by omega)
      have i2 : (k : Int) < 8 := by omega
      generalize hx : l[k] = x at hix
      have HX : Hid (l[k] = x) := hx
      clear hx
      go_wp2
      go_loopw [3, 6] (fun v sh wr => ∃ j : Nat, j ≤ 8 ∧ sh = .int .i64 (28 - 4 * (j : Int)) ∧ wr.ownsRow (w.heap.size + 1) 5 1 v (8 * k + j) (bcs (dgs (l.take k) ++ dg x j)) ∧ Below w.heap.size w wr) (fun _ sh _ => (intOf sh + 4).toNat)
      case atStart => exact ⟨0, by omega, rfl, by simpa [dg] using HO.out, HB.out⟩
      case round =>
        clear HO HB
        obtain ⟨j, hj, rfl, hown, hb⟩ := hrel
        have HO : Hid (World.ownsRow _ (w.heap.size + 1) 5 1 _ (8 * k + j) (bcs (dgs (l.take k) ++ dg x j))) := hown
        have HB : Hid (Below w.heap.size w _) := hb
        clear hown hb
        by_cases hjt : j < 8
        · obtain ⟨m, hm⟩ : ∃ m : Nat, m = 28 - 4 * j := ⟨_, rfl⟩
          have hm2 : (28 : Int) - 4 * (j : Int) = (m : Int) := by omega
          have hsr : Op.shift .shr .u32 x .i64 (m : Int) = pure (.int .u32 (x / 2 ^ m)) := by
            rw [shift_shr _ _ _ _ (by omega) (by show (m : Int) ≤ 32; omega)]
            rfl
          have hxi : ∀ W : World, (Instr.index 9 (.string hexS) (.int .u32 (bits .and .u32 (x / 2 ^ m) 15))).run Tryd.prog W = .ok (.int .u8 ((dgt x j).toNat : Int)) W := fun W => by
            have := hex_ix x m W
            rw [hm] at this
            unfold dgt
            rw [hm]
            exact this
          have m0 : (0 : Int) ≤ (m : Int) := by omega
          generalize hc : ((dgt x j).toNat : Int) = ch at hxi
          have HC : Hid (((dgt x j).toNat : Int) = ch) := hc
          have HM : Hid (m = 28 - 4 * j) := hm
          clear hc hm
          go_wp2_with (at_builtin; refine wpList_append_own _ rfl _ _ 55 rfl (w.heap.size + 1) 5 i0 (.int .u8 0) 1 1 Tryd.underlying55 hi hz0 hz1 hz2 rfl (by decide) _ _ _ rfl (HO.out.alloc _) ⟨_, 0, none⟩ 1 1 [.int .u8 ch] rfl rfl ?c1 ?c2 ?c3 ?c4 ?c5 ?_)
          case c1 =>
            intro j u hj
            match j, hj with
            | 0, hj => simp at hj; subst hj; simp [Addr.add]
          case c2 => intro u hu; simp at hu; subst hu; rfl
          case c3 => unfold maxLen; omega
          case c4 => omega
          case c5 => have := HB.out.size; have := HO.out.lt; simp; rcases HO.out.2 with ⟨_, h⟩ | ⟨g, cap, cur, _, hg, hh, _⟩ <;> first | omega | (have := (Array.getElem?_eq_some_iff.1 hh).1; omega)
          intro v' w4 hown4 hg4 _
          have hrow : ∀ j, Value.ownBlock _ = some j → w.heap.size + 1 ≤ j := fun j hj => (HO.out.lt j hj).1
          have HB4 : Hid (Below w.heap.size w w4) := (HB.out.alloc HB.out.size _).grown hg4 (by have := HB.out.size; simp; omega) (fun j hj => by have := hrow j hj; omega)
          have HO4 : Hid (w4.ownsRow (w.heap.size + 1) 5 1 v' (8 * k + j + 1) (bcs (dgs (l.take k) ++ dg x j) ++ [.int .u8 ch])) := hown4
          clear hown4 hg4 hrow
          go_wp2
          refine ⟨⟨j + 1, by omega, ?_, ?_, HB4.out⟩, by simp [intOf]; omega⟩
          · have := HM.out
            congr 1
            omega
          · have e1 : bcs (dgs (l.take k) ++ dg x (j + 1)) = bcs (dgs (l.take k) ++ dg x j) ++ [.int .u8 ch] := by
              rw [← HC.out]
              simp [bcs, dg, List.range_succ]
            rw [e1]
            exact HO4.out
        · obtain rfl : j = 8 := by omega
          go_wp2
          refine ⟨⟨k + 1, by omega, by go_num, ?_, HB.out⟩, by simp [intOf]; omega⟩
          have e1 : dgs (l.take (k + 1)) = dgs (l.take k) ++ dg x 8 := by
            rw [List.take_succ_eq_append_getElem (by omega), HX.out]
            simp [dgs]
          rw [e1]
          exact HO.out
    · obtain rfl : k = 8 := by omega
      have ho := HO.out
      rw [List.take_of_length_le (by omega)] at ho
      have h64 : (dgs l).length = 64 := by
        have := ho.1
        simpa [bcs] using this
      obtain ⟨g, cap, rfl, hcells⟩ : ∃ g cap, u3 = .slice (some ⟨g, 0, none⟩) (8 * 8) cap ∧ ∀ j (hj : j < (dgs l).length), wr.cell? ((⟨g, 0, none⟩ : Addr).add j) = some (.int .u8 ((dgs l)[j].toNat : Int)) := by
        have hc := fun (g : Nat) (hg : u3.ownBlock = some g) => ho.cells hg
        rcases ho.2 with ⟨_, h⟩ | ⟨g, cap, cur, hv, _⟩
        · omega
        · exact ⟨g, cap, hv, fun j hj => hc g (by rw [hv]; rfl) j _ (by simp [bcs, hj])⟩
      have hcv : (convert 55 9 (.slice (some ⟨g, 0, none⟩) (8 * 8) cap)).run Tryd.prog wr = .ok (.string ⟨(dgs l).toArray⟩) wr := by
        rw [show 8 * 8 = (dgs l).length from h64.symm]
        exact run_convert_bytes_back wr 55 9 5 ⟨g, 0, none⟩ cap (dgs l) Tryd.underlying55 Tryd.underlying5 Tryd.underlying9 hcells
      clear ho hcells h64 HO
      go_wp2
      go_ret
      exact ⟨by rw [HL.out]; rfl, HB.out⟩
end Go.Proofs.YtagelkaenbdlaaaDoor
