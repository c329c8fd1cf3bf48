/- Check: does some path go through a file? -/
import Derived.Test.YtcpomkgfcpfedaaGreatDoorTrT
namespace Go.Proofs.YtcpomkgfcpfedaaGreatDoor
open Go.RowKit Go.Shelf Go.Maps Go.WideMaps

/-- How the search ends. -/
def IdxP (b : Bool) (w : World) (e : Ending) (w' : World) : Prop := ∃ r : Int, e = .returned (.int .i64 r) ∧ decide (0 ≤ r) = b ∧ Below w.heap.size w w'

set_option maxHeartbeats 4000000 in
set_option maxRecDepth 100000 in
theorem idxT_any (ao : Option Addr) (cap : Nat) (L : List Fl) (bx M n : Nat) (D : DataW Unit) (w : World) (hn : L.length ≤ 1000000) (hl : IsFl w ao L) (hs : ∀ f ∈ L, f.pa.size ≤ 1000000) (hbx : w.cell? ⟨bx, 0, none⟩ = some (.map (some M))) (hown : w.ownsMap Tryz.prog 9 fileE M n D) :
    Calls Tryz.prog 90 #[.slice ao L.length cap, .func (.func 58) #[] #[.pointer (some ⟨bx, 0, none⟩)]] w (IdxP (L.any fun f => thrB f.pa D) w) := by
  have hbl : bx < w.heap.size := by simpa using World.block_lt_of_cell? w _ hbx
  have hMl := hown.lt
  have HL : Hid (IsFl w ao L) := hl
  have HS : Hid (∀ f ∈ L, f.pa.size ≤ 1000000) := hs
  have HX : Hid (w.cell? ⟨bx, 0, none⟩ = some (.map (some M))) := hbx
  have HO : Hid (w.ownsMap Tryz.prog 9 fileE M n D) := hown
  have hn1 : (L.length : Int) ≤ 1000000 := by omega
  clear hl hs hbx hown
  go_enter Tryz.func90, Tryz.ntmps90
  go_wp2
  go_loopw [8] (fun i wr => ∃ k : Nat, k ≤ L.length ∧ i = .int .i64 k ∧ (∀ j, (hj : j < L.length) → j < k → thrB L[j].pa D = false) ∧ Below w.heap.size w wr) (fun i _ => L.length - (intOf i).toNat)
  case atStart => exact ⟨0, by omega, rfl, by omega, Below.refl _ _⟩
  case round =>
    obtain ⟨k, hk, rfl, hlo, hb⟩ := hrel
    have HN : Hid (∀ j, (hj : j < L.length) → j < k → thrB L[j].pa D = false) := hlo
    have HB : Hid (Below w.heap.size w wr) := hb
    have hsz := hb.size
    clear hlo
    by_cases hlt : k < L.length
    · have HLB := HL.out.below hb (Nat.le_refl _)
      rcases HLB with h | ⟨g, o, rfl, hgr, hc⟩
      · exfalso; rw [h] at hlt; exact absurd hlt (by simp)
      obtain ⟨c0, c1, c2⟩ := hc k hlt
      have hpa := HS.out _ (List.getElem_mem hlt)
      have HC : Hid (Calls Tryz.prog 58 #[encF L[k], .pointer (some ⟨bx, 0, none⟩)] wr fun e w' => e = .returned (.bool (thrB L[k].pa D)) ∧ Below wr.heap.size wr w') :=
        thr1_any L[k] bx M n D wr ((hb.cell (p := ⟨bx, 0, none⟩) hbl).trans HX.out) (ownsMap_heap HO.out (hb.block M hMl)) hpa
      have HP : Hid (∀ b, thrB L[k].pa D = b → b = true → (L.any fun f => thrB f.pa D) = true) := fun b h1 h2 => List.any_eq_true.2 ⟨L[k], List.getElem_mem hlt, h1.trans h2⟩
      clear hc hb hpa
      unfold encF at HC
      generalize hx : L[k] = x at c0 c1 c2 HC HP
      have HK : Hid (L[k] = x) := hx
      clear hx
      obtain ⟨p, t, r⟩ := x
      simp only at c0 c1 c2 HC HP
      obtain ⟨b, hb2⟩ : ∃ b, thrB p D = b := ⟨_, rfl⟩
      have HE : Hid (thrB p D = b) := hb2
      rw [hb2] at HC
      clear hb2
      cases b with
      | true =>
        go_wp2_with (first | (go_at_call 58; refine HC.out.mono ?_; rintro e w1 ⟨rfl, hb1⟩) | go_in)
        go_ret
        refine ⟨k, rfl, ?_, HB.out.trans (hb1.mono hsz)⟩
        rw [HP.out true HE.out rfl]
        simp
      | false =>
        go_wp2_with (first | (go_at_call 58; refine HC.out.mono ?_; rintro e w1 ⟨rfl, hb1⟩) | go_in)
        refine ⟨⟨k + 1, by omega, by go_num, fun j hj hjk => ?_, HB.out.trans (hb1.mono hsz)⟩, by simp [intOf]; omega⟩
        by_cases h : j < k
        · exact HN.out j hj h
        · obtain rfl : j = k := by omega
          rw [HK.out]
          exact HE.out
    · clear hb
      go_wp2
      go_ret
      refine ⟨-1, rfl, ?_, HB.out⟩
      rw [show (L.any fun f => thrB f.pa D) = false from List.any_eq_false.2 fun f hf => by
        obtain ⟨j, hj, rfl⟩ := List.getElem_of_mem hf
        rw [HN.out j hj (by omega)]
        decide]
      rfl

set_option maxHeartbeats 2000000 in
set_option maxRecDepth 100000 in
theorem cfT_of (ao : Option Addr) (ln cap bx : Nat) (b : Bool) (w : World) (HI : Hid (Calls Tryz.prog 90 #[.slice ao ln cap, .func (.func 58) #[] #[.pointer (some ⟨bx, 0, none⟩)]] w (IdxP b w))) :
    Calls Tryz.prog 57 #[.slice ao ln cap, .func (.func 58) #[] #[.pointer (some ⟨bx, 0, none⟩)]] w fun e w' => e = .returned (.bool b) ∧ Below w.heap.size w w' := by
  go_enter Tryz.func57, Tryz.ntmps57
  go_wp2_with fail
  refine HI.out.mono ?_
  rintro e w1 ⟨r, rfl, hr, hb1⟩
  have HB1 : Hid (Below w.heap.size w w1) := hb1
  have HR : Hid (decide (0 ≤ r) = b) := hr
  clear hb1 hr
  go_wp2
  go_ret
  exact ⟨by rw [← HR.out]; rfl, HB1.out⟩

set_option maxHeartbeats 2000000 in
set_option maxRecDepth 100000 in
theorem someGo_any (ao : Option Addr) (cap : Nat) (L : List Fl) (M n : Nat) (D : DataW Unit) (w : World) (hn : L.length ≤ 1000000) (hl : IsFl w ao L) (hs : ∀ f ∈ L, f.pa.size ≤ 1000000) (hown : w.ownsMap Tryz.prog 9 fileE M n D) :
    Calls Tryz.prog 46 #[.slice ao L.length cap, .map (some M)] w fun e w' => e = .returned (.bool (L.any fun f => thrB f.pa D)) ∧ Below w.heap.size w w' := by
  have hA : Below w.heap.size w (w.alloc (.cells #[.map (some M)] 54)) := (Below.refl _ w).alloc (Nat.le_refl _) _
  have HC : Hid (Calls Tryz.prog 57 #[.slice ao L.length cap, .func (.func 58) #[] #[.pointer (some ⟨w.heap.size, 0, none⟩)]] (w.alloc (.cells #[.map (some M)] 54)) fun e w' => e = .returned (.bool (L.any fun f => thrB f.pa D)) ∧ Below w.heap.size w w') :=
    (cfT_of ao L.length cap w.heap.size _ _ (idxT_any ao cap L w.heap.size M n D (w.alloc (.cells #[.map (some M)] 54)) hn (hl.below hA (Nat.le_refl _)) hs (Lib.cell_of_heap (heap_alloc_new w _) 0) (hown.alloc _))).mono fun e w' h => ⟨h.1, hA.trans (h.2.mono hA.size)⟩
  clear hA hl hs hown
  go_enter Tryz.func46, Tryz.ntmps46
  go_wp2_with (first | (go_at_call 57; refine HC.out.mono ?_; rintro e w1 ⟨rfl, hb1⟩) | go_in)
  go_ret
  exact ⟨rfl, hb1⟩
end Go.Proofs.YtcpomkgfcpfedaaGreatDoor
