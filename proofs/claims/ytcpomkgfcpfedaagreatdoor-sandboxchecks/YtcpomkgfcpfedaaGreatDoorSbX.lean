/- The files that a machine made. -/
import Derived.Test.YtcpomkgfcpfedaaGreatDoorSbW
import Derived.Test.YtcpomkgfcpfedaaGreatDoorSbT
namespace Go.Proofs.YtcpomkgfcpfedaaGreatDoor
open Go.RowKit Go.Shelf Go.Maps Go.WideMaps Go.Sort

theorem nodup_of {L : List Fl} (h : (L.map pth).Nodup) : L.Nodup := (List.pairwise_map.1 h).imp fun h e => h (by rw [e])
theorem allF_byD {L F : List Fl} (hn : (L.map pth).Nodup) (h : AllF (byD L) F) : F.Perm L := by
  obtain ⟨ks, hl, hnd, hks, hat⟩ := h
  have hp : ∀ (j : Nat) (h2 : j < F.length), F[j] ∈ L ∧ pth F[j] = ks[j]'(by omega) := fun j h2 => by
    have h1 : j < ks.length := by omega
    have h3 := (hks _).1 (List.getElem_mem h1)
    rw [has_byD, List.any_eq_true] at h3
    obtain ⟨f, hf, e⟩ := h3
    have e : pth f = ks[j] := by simpa using e
    have h4 := hat j h1 h2 (.lit (.int .i64 0))
    rw [← e, at_byD hn hf] at h4
    have e2 := fD_inj h4
    rw [← e2]
    exact ⟨hf, e⟩
  have hFk : F.map pth = ks := by
    apply List.ext_getElem
    · rw [List.length_map]; omega
    · intro j h1 h2
      rw [List.getElem_map]
      exact (hp j (by simpa using h1)).2
  have n1 : F.Nodup := nodup_of (by rw [hFk]; exact hnd)
  have n2 : L.Nodup := nodup_of hn
  refine (List.perm_ext_iff_of_nodup n1 n2).2 fun x => ⟨fun hx => ?_, fun hx => ?_⟩
  · obtain ⟨j, hj, rfl⟩ := List.getElem_of_mem hx
    exact (hp j hj).1
  · have h3 : pth x ∈ ks := (hks _).2 (by rw [has_byD, List.any_eq_true]; exact ⟨x, hx, by simp⟩)
    rw [← hFk] at h3
    obtain ⟨y, hy, e⟩ := List.mem_map.1 h3
    obtain ⟨j, hj, rfl⟩ := List.getElem_of_mem hy
    have hyL := (hp j hj).1
    have e2 : F[j] = x := by
      have h5 := at_byD hn hyL (.lit (.int .i64 0))
      have h6 := at_byD hn hx (.lit (.int .i64 0))
      rw [e] at h5
      exact fD_inj (h5.symm.trans h6)
    rw [← e2]
    exact hy
theorem McAt.c1 {w : World} {P : Nat} {m : Mc} (h : McAt w P m) : w.cell? ⟨P, 1, none⟩ = some (.map (some m.mp)) := h.cell 1

set_option maxHeartbeats 2000000 in
set_option maxRecDepth 100000 in
theorem madeFiles_any (m : Mc) (P n : Nat) (L : List Fl) (w : World) (h : McAt w P m) (ho : w.ownsMap Tryz.prog 9 fileE m.mp n (byD L)) (hn : n ≤ 1000) (hL : L.Pairwise fun f g => pth f < pth g) (hl : L.length ≤ 1000000) :
    Calls Tryz.prog 23 #[.pointer (some ⟨P, 0, none⟩)] w fun e w' => ∃ v, e = .returned v ∧ w'.ownsRow w.heap.size 37 3 v L.length (flCells L) ∧ Below w.heap.size w w' := by
  have c1 := h.c1
  have hnd : (L.map pth).Nodup := List.pairwise_map.2 (hL.imp fun hh e => by rw [e] at hh; exact List.lt_irrefl _ hh)
  have HO : Hid (w.ownsMap Tryz.prog 9 fileE m.mp n (byD L)) := ho
  have HV : Hid (Calls Tryz.prog 49 #[.map (some m.mp)] w fun e w' => e = .returned (.func (.func 83) #[] #[.pointer (some ⟨w.heap.size, 0, none⟩)]) ∧ w' = w.alloc (.cells #[.map (some m.mp)] 54)) := Values_any (some m.mp) w
  have HP : Hid (L.Pairwise (fun f g => pth f < pth g) ∧ L.length ≤ 1000000 ∧ n ≤ 1000 ∧ ∀ F, AllF (byD L) F → F.Perm L) := ⟨hL, hl, hn, fun F hF => allF_byD hnd hF⟩
  clear h ho hL hl hnd hn
  generalize m.mp = mp at *
  go_enter Tryz.func23, Tryz.ntmps23
  go_wp2_with fail
  refine HV.out.mono ?_
  rintro e w3 ⟨rfl, hw3⟩
  have hb3 : Below w.heap.size w w3 := by rw [hw3]; exact (Below.refl _ w).alloc (Nat.le_refl _) _
  have hsz3 : w3.heap.size = w.heap.size + 1 := by rw [hw3]; exact World.size_alloc _ _
  have hD3 : w3.ownsMap Tryz.prog 9 fileE mp n (byD L) := ownsMap_heap HO.out (hb3.block _ HO.out.lt)
  have hc3 : w3.cell? ⟨w.heap.size, 0, none⟩ = some (.map (some mp)) := by rw [hw3]; exact Lib.cell_of_heap (heap_alloc_new w _) 0
  have HS : Hid (Calls Tryz.prog 48 #[.func (.func 83) #[] #[.pointer (some ⟨w.heap.size, 0, none⟩)], .func (.func 50) #[] #[]] w3 fun e w' => ∃ v, e = .returned v ∧ w'.ownsRow w3.heap.size 37 3 v L.length (flCells L) ∧ Below w3.heap.size w3 w') :=
    SortedF 83 #[.pointer (some ⟨w.heap.size, 0, none⟩)] (enters_of Tryz.func83 (by kernel_rfl) rfl) (byD L) (Maps.size (byD L)) (Nat.le_trans hD3.size_le (by have := HP.out.2.2.1; omega)) L HP.out.1 HP.out.2.1 HP.out.2.2.2 w3
      (values1 Fence.wide 3 trivial rfl (by decide) w.heap.size mp n (byD L) w3 (by omega) hc3 hD3)
  have HB3 : Hid (Below w.heap.size w w3) := hb3
  clear hb3 hsz3 hD3 hc3 hw3 HV HO HP
  go_wp2_with fail
  refine HS.out.mono ?_
  rintro e w4 ⟨v, rfl, hr4, hb4⟩
  have HE : Hid (w4.ownsRow w.heap.size 37 3 v L.length (flCells L) ∧ Below w.heap.size w w4) := ⟨row_low hr4 HB3.out.size, below_low HB3.out hb4 HB3.out.size⟩
  clear hr4 hb4 HS
  go_wp2
  go_ret
  exact ⟨v, rfl, HE.out⟩

/-- May a file be made there? -/
def mayF (L : List Fl) (s : ByteArray) : Bool := L.any (fun f => decide (pth f = s.data.toList)) || (!decide (L.length = 60) && !L.any fun f => meetB s f.pa)
theorem bA_pth (f : Fl) : bA (pth f) = f.pa := bA_data f.pa

set_option maxHeartbeats 4000000 in
set_option maxRecDepth 100000 in
theorem mayMake_any (m : Mc) (P n : Nat) (L : List Fl) (s : ByteArray) (w : World) (h : McAt w P m) (ho : w.ownsMap Tryz.prog 9 fileE m.mp n (byD L)) (hn : (L.map pth).Nodup) (hs : s.size ≤ maxLen) :
    Calls Tryz.prog 103 #[.pointer (some ⟨P, 0, none⟩), .string s] w fun e w' => e = .returned (.bool (mayF L s)) ∧ Below w.heap.size w w' := by
  have c1 := h.c1
  obtain ⟨f0, _, hlk⟩ := lookF ho s hs
  have hlk1 := hlk w rfl
  rw [has_byD] at hlk1
  unfold encF at hlk1
  obtain ⟨W, hW⟩ : ∃ W, W = w.alloc (.cells #[.string f0.pa, .string f0.tx, .bool f0.rn] 37) := ⟨_, rfl⟩
  have hbW : Below w.heap.size w W := by rw [hW]; exact (Below.refl _ w).alloc (Nat.le_refl _) _
  have c1W : W.cell? ⟨P, 1, none⟩ = some (.map (some m.mp)) := (hbW.cell (p := ⟨P, 1, none⟩) h.lt).trans c1
  have hoW : W.ownsMap Tryz.prog 9 fileE m.mp n (byD L) := ownsMap_heap ho (hbW.block _ ho.lt)
  have hlen := hoW.len Tryz.underlying54 3
  rw [(size_byD L).2.2 hn] at hlen
  have HBW : Hid (Below w.heap.size w W) := hbW
  have HMP : Hid (m.mp < w.heap.size) := ho.lt
  have HOW : Hid (W.ownsMap Tryz.prog 9 fileE m.mp n (byD L)) := hoW
  have HM : Hid (∀ (x : ByteArray) (V : World), Calls Tryz.prog 119 #[.string s, .string x] V fun e w' => e = .returned (.bool (meetB s x)) ∧ w' = V) := fun x V => Meets_any s x V
  clear h ho hlk hn hbW hoW
  generalize m.mp = mp at *
  unfold mayF
  cases hh : L.any (fun f => decide (pth f = s.data.toList)) with
  | true =>
    rw [hh] at hlk1
    rw [Bool.true_or]
    rw [hW] at HBW
    clear hh c1W hlen HOW hW
    go_enter Tryz.func103, Tryz.ntmps103
    go_wp2
    go_ret
    exact ⟨rfl, HBW.out⟩
  | false =>
    rw [hh] at hlk1
    rw [Bool.false_or]
    rw [hW] at HBW HOW c1W hlen
    clear hh
    by_cases h60 : L.length = 60
    · rw [decide_eq_true h60]
      rw [h60] at hlen
      clear h60 hW
      go_enter Tryz.func103, Tryz.ntmps103
      go_wp2
      go_ret
      exact ⟨rfl, HBW.out⟩
    · rw [decide_eq_false h60]
      have h60i : ((L.length : Int) == 60) = false := by simp; omega
      obtain ⟨b, hb⟩ : ∃ b, L.any (fun f => meetB s f.pa) = b := ⟨_, rfl⟩
      have HB : Hid (L.any (fun f => meetB s f.pa) = b) := hb
      rw [hb]
      obtain ⟨n2, hn2⟩ : ∃ n2, L.length = n2 := ⟨_, rfl⟩
      rw [hn2] at hlen h60i
      clear h60 hb hn2
      go_enter Tryz.func103, Tryz.ntmps103
      go_wp2_with (first
        | (at_range; refine wpList_range_own _ rfl _ 54 rfl 9 37 lawS Tryz.underlying54 fileE mp n _ rfl HOW.out ?_; intro w0 hrg0 hg0 hs0)
        | go_in)
      go_frame
      rw [← hW] at hrg0 hg0 HBW ⊢
      have hsz : W.heap.size = w.heap.size + 1 := by rw [hW]; exact World.size_alloc _ _
      rw [hsz]
      have H0 : Hid (w0.ranges Tryz.prog 9 fileE mp (w.heap.size + 1) n (byD L) (Maps.has (byD L)) (Maps.size (byD L)) ∧ Below w.heap.size w w0 ∧ w.heap.size + 1 ≤ w0.heap.size) := ⟨by rw [← hsz]; exact hrg0, below_low HBW.out (⟨hg0.os, hg0.tape, hg0.output, hg0.size, fun g hg => hg0.block g hg (by simp)⟩ : Below W.heap.size W w0) HBW.out.size, by rw [← hsz]; exact hg0.size⟩
      clear hrg0 hg0 hs0 hlen c1W HOW hsz hW
      go_loopw [7] (fun _ wr => ∃ (left : Lit → Bool) (cnt : Nat), Hid (wr.ranges Tryz.prog 9 fileE mp (w.heap.size + 1) n (byD L) left cnt ∧ (Below w.heap.size w wr ∧ w.heap.size + 1 ≤ wr.heap.size) ∧ ∀ f ∈ L, left (.string (pth f)) = false → meetB s f.pa = false)) (fun _ wr => wr.rangeLeft mp (w.heap.size + 1))
      case atStart =>
        refine ⟨_, _, H0.out.1, H0.out.2, fun f hf hl => ?_⟩
        rw [has_byD, List.any_eq_false] at hl
        exact absurd (decide_eq_true rfl) (hl f hf)
      case round =>
        obtain ⟨left, cnt, HI⟩ := hrel
        have hrg := HI.out.1
        go_wp2_with (first
          | (at_next; refine wpList_next_ranges _ rfl _ rfl 9 lawS fileE encStr encF invKF invVF mp (w.heap.size + 1) n _ _ _ rfl hrg ?_ ?_)
          | go_in)
        · intro hc0 hl0
          have HBF : Hid (b = false) := by
            show b = false
            rw [← HB.out, List.any_eq_false]
            intro f hf
            rw [HI.out.2.2 f hf (by rw [hl0])]
            simp
          obtain rfl := HBF.out
          clear hc0 hl0 hrg
          go_wp2
          go_ret
          exact ⟨rfl, HI.out.2.1.1⟩
        · intro x f kl yd yp w1 cnt1 hkey hlx hv hat hrg1 hlt hg1 hs1 hen
          obtain ⟨x', ex, rfl, _⟩ := Maps.keyOf_str Tryz.underlying9 hkey
          obtain rfl : x = x' := encStr_inj ex
          have hex : ∃ g ∈ L, pth g = x := by
            refine Classical.byContradiction fun hne => ?_
            have h1 : ∀ g ∈ L, pth g ≠ x := fun g hg e => hne ⟨g, hg, e⟩
            have h2 := hat (.lit (.int .i64 0))
            have h3 := hat (.lit (.int .i64 1))
            rw [atNo_byD h1] at h2 h3
            rw [← h2] at h3
            injection h3 with h3
            injection h3 with _ h3
            cases h3
          obtain ⟨g, hgL, hgx⟩ := hex
          have hM := HM.out (bA x)
          have hxg : bA x = g.pa := by rw [← hgx]; exact bA_pth g
          have HR1 : Hid (w1.ranges Tryz.prog 9 fileE mp (w.heap.size + 1) n (byD L) (fun z => left z && !z.sameKey (.string x)) cnt1 ∧ cnt1 < cnt ∧ Below w.heap.size w w1 ∧ w.heap.size + 1 ≤ w1.heap.size) := ⟨hrg1, hlt, HI.out.2.1.1.grown hg1 (by have := HI.out.2.1.2; omega) (fun j hj => by have := Option.some.inj hj; omega), by rw [hs1]; exact HI.out.2.1.2⟩
          cases hmb : meetB s (bA x) with
          | true =>
            have HBT : Hid (b = true) := by
              show b = true
              rw [← HB.out, List.any_eq_true]
              exact ⟨g, hgL, by rw [← hxg]; exact hmb⟩
            obtain rfl := HBT.out
            rw [hmb] at hM
            have HM2 : Hid (∀ V, Calls Tryz.prog 119 #[.string s, encStr x] V fun e w' => e = .returned (.bool true) ∧ w' = V) := hM
            clear hM hmb hxg hrg hrg1 hg1 hs1 hlx hat hv hlt
            go_wp2_with (first | (go_at_call 119; refine (HM2.out _).mono ?_; rintro e w5 ⟨rfl, hw⟩; subst w5) | go_in)
            go_ret
            exact ⟨rfl, HR1.out.2.2.1⟩
          | false =>
            rw [hmb] at hM
            have HM2 : Hid (∀ V, Calls Tryz.prog 119 #[.string s, encStr x] V fun e w' => e = .returned (.bool false) ∧ w' = V) := hM
            have HL : Hid (∀ f ∈ L, (left (.string (pth f)) && !(Lit.string (pth f)).sameKey (.string x)) = false → meetB s f.pa = false) := by
              intro f hf hl
              by_cases e : pth f = x
              · rw [← bA_pth f, e]
                exact hmb
              · refine HI.out.2.2 f hf ?_
                have hsk : (Lit.string (pth f)).sameKey (.string x) = false := by
                  cases hq : (Lit.string (pth f)).sameKey (.string x) with
                  | false => rfl
                  | true => exact absurd (by injection (WideAt.sameKey_eq hq)) e
                rw [hsk] at hl
                simpa using hl
            clear hM hmb hxg hrg hrg1 hg1 hs1 hlx hat hv hlt
            go_wp2_with (first | (go_at_call 119; refine (HM2.out _).mono ?_; rintro e w5 ⟨rfl, hw⟩; subst w5) | go_in)
            refine ⟨⟨_, cnt1, HR1.out.1, HR1.out.2.2, HL.out⟩, ?_⟩
            rw [HR1.out.1.left_eq, HI.out.1.left_eq]
            exact HR1.out.2.1
end Go.Proofs.YtcpomkgfcpfedaaGreatDoor
