/- What each line does is laid into a map. -/
import Derived.Laws.EntriesVeiled
import Derived.StillTailTactics
import Derived.Test.YtapiedeekbfpnaaGreatDoorChecked
import Derived.ProofKit
import Derived.WalkLawsBesides
import Derived.Below
import Derived.Deep.RegionHeld3
import Derived.Deep.MidRow
import Derived.Lib.Builder
import Derived.OwnWalk
import Derived.Laws.IdiomStrings
import Derived.Test.YtapiedeekbfpnaaGreatDoorTr3
namespace Go.Proofs.YtapiedeekbfpnaaGreatDoor
open Go.RowKit Go.Shelf Go.Maps Go.WideMaps

/-- How a deed reads: by its function's number. -/
def fnE (bx : Nat) (v : Value) : Option (DataW Unit × List MemPlace) := match v with
  | .func (.func n) a c => match a.toList, c.toList with
    | [], [.pointer (some ⟨b, 0, none⟩)] => if b = bx then some (.lit (.int .i64 ((4 * n + 0 : Nat) : Int)), []) else none
    | _, _ => none
  | .nilFunc => some (.lit (.int .i64 (-1)), [])
  | _ => none
theorem fnE_mk (bx n : Nat) : fnE bx (.func (.func n) #[] #[.pointer (some ⟨bx, 0, none⟩)]) = some (.lit (.int .i64 ((4 * n + 0 : Nat) : Int)), []) := by
  show (if bx = bx then _ else _) = _
  rw [if_pos rfl]
theorem fnE_inv {bx : Nat} {v : Value} {n : Nat} {ps : List MemPlace} (h : fnE bx v = some (.lit (.int .i64 ((4 * n + 0 : Nat) : Int)), ps)) : v = .func (.func n) #[] #[.pointer (some ⟨bx, 0, none⟩)] := by
  unfold fnE at h
  split at h
  · split at h
    · split at h
      · rename_i n2 a c x1 x2 b ha hc hb
        injection h with h
        injection h with h _
        injection h with h
        injection h with _ h
        have h4 : 4 * (n2 : Nat) + 0 = 4 * n + 0 := Int.ofNat.inj h
        have hn2 : (n2 : Nat) = n := Nat.eq_of_mul_eq_mul_left (by decide : 0 < 4) h4
        have e1 : a = #[] := Array.toList_inj.1 ha
        have e2 : c = #[.pointer (some ⟨bx, 0, none⟩)] := Array.toList_inj.1 (by rw [← hb]; exact hc)
        rw [e1, e2, hn2]
      · cases h
    · cases h
  · injection h with h
    injection h with h _
    injection h with h
    injection h with _ h
    omega
  · cases h
theorem zeroD (w : World) : (zeroValue 72).run Tryz.prog w = .ok .nilFunc w := by kernel_rfl

def dedK : List (List UInt8 × List Nat) := frmL.map fun f => (f.1, [])
def dedN : List Nat := [67, 69, 71, 73, 74, 76, 78, 80, 82, 83, 85, 86, 87]
/-- The deeds, while they are laid: so many of them are there. -/
structure DdI (B M bx P : Nat) (w0 : World) (k : Nat) (w : World) : Prop where
  own : w.ownsMap Tryz.prog 9 (fnE bx) M k (dF dedK (dedN.take k) (.map []))
  env : w.cell? ⟨bx, 0, none⟩ = some (.pointer (some ⟨P, 0, none⟩))
  lo : B ≤ bx ∧ bx < M
  lt : M < w.heap.size
  bel : Below B w0 w
theorem DdI.step {B M bx P : Nat} {w0 w w1 : World} {k n : Nat} {f : List UInt8 × List Nat} (h : DdI B M bx P w0 k w) (hk : k < 13) (hf : dedK[k]? = some f) (hn : dedN[k]? = some n)
    (hown : w1.ownsMap Tryz.prog 9 (fnE bx) M (k + 1) ((dF dedK (dedN.take k) (.map [])).put (.string f.1) (.lit (.int .i64 ((4 * n + 0 : Nat) : Int)))))
    (hg : w.grownBy w1 (some M)) : DdI B M bx P w0 (k + 1) w1 := by
  have hlo := h.lo
  have hlen : (dedN.take k).length = k := by rw [List.length_take]; show min k 13 = k; omega
  have hf2 : f.2 = [] := by
    have := List.mem_of_getElem? hf
    obtain ⟨g, _, rfl⟩ := List.mem_map.1 this
    rfl
  refine ⟨?_, ?_, h.lo, Nat.lt_of_lt_of_le h.lt hg.size, ?_⟩
  · have e := dF_snoc dedK (dedN.take k) (.map []) n f (by rw [hlen]; exact hf)
    rw [List.take_add_one, hn]
    show w1.ownsMap _ _ _ _ _ (dF dedK (dedN.take k ++ [n]) (.map []))
    rw [e, hf2]
    exact hown
  · have hlt : bx < w.heap.size := World.block_lt_of_cell? w ⟨bx, 0, none⟩ h.env
    have := hg.block bx hlt (fun e => by have := Option.some.inj e; omega)
    have h2 := h.env
    unfold World.cell? at h2 ⊢
    simp only at h2 ⊢
    rw [this]
    exact h2
  · exact h.bel.grown hg (by have := h.lt; omega) (fun j hj => by cases hj; omega)

theorem upon_deed {B M bx P : Nat} {w0 w : World} {k n : Nat} {f : List UInt8 × List Nat} {ky : ByteArray} {β : Type} {R : Result β → Prop} {c : Unit → World → Result β}
    (h : DdI B M bx P w0 k w) (hk : k < 13) (hf : dedK[k]? = some f) (hn : dedN[k]? = some n) (hky : ky = bA f.1) (hl : f.1.length ≤ 4)
    (hK : ∀ w', DdI B M bx P w0 (k + 1) w' → R (c () w')) :
    R (((Instr.mapUpdate 70 (.map (some M)) (.string ky) (.func (.func n) #[] #[.pointer (some ⟨bx, 0, none⟩)])).run Tryz.prog w).andThen c) := by
  subst hky
  have hkey : keyOf Tryz.prog 9 (.string (bA f.1)) = some (.string f.1) := by
    have := keyOf_string_mk (s := bA f.1) Tryz.underlying9 (by unfold maxLen; rw [show (bA f.1).size = f.1.length from size_of rfl]; omega)
    rw [this]
    unfold bA
    simp
  obtain ⟨w', hrun, r1, r2⟩ := h.own.update lawSb Tryz.underlying70 (by unfold maxLen; omega) hkey (fnE_mk bx n)
  rw [hrun]
  exact hK w' (h.step hk hf hn r1 r2)

theorem DdI.first (P : Nat) (w : World) : DdI w.heap.size (w.heap.size + 1) w.heap.size P w 0 ((w.alloc (.cells #[.pointer (some ⟨P, 0, none⟩)] 45)).alloc (.map #[] 0)) := by
  have hsz : (w.alloc (.cells #[.pointer (some ⟨P, 0, none⟩)] 45)).heap.size = w.heap.size + 1 := World.size_alloc _ _
  refine ⟨?_, ?_, ⟨by omega, by omega⟩, by rw [World.size_alloc, hsz]; omega, ((Below.refl _ w).alloc (Nat.le_refl _) _).alloc (by rw [hsz]; omega) _⟩
  · have := World.ownsMap_made (H := Unit) (w.alloc (.cells #[.pointer (some ⟨P, 0, none⟩)] 45)) Tryz.prog 9 (fnE w.heap.size)
    rw [hsz] at this
    exact this
  · rw [World.cell?_alloc_old _ _ _ (by simp only; omega), Lib.cell_of_heap (heap_alloc_new w _)]
    rfl

set_option maxHeartbeats 4000000 in
set_option maxRecDepth 100000 in
theorem newDeeds_any (P : Nat) (w : World) :
    Calls Tryz.prog 36 #[.pointer (some ⟨P, 0, none⟩)] w fun e w' => ∃ M bx, e = .returned (.map (some M)) ∧ DdI w.heap.size M bx P w 13 w' := by
  have hmm := @run_makeMap Tryz.prog
  have HF : Hid (DdI w.heap.size (w.heap.size + 1) w.heap.size P w 0 ((w.alloc (.cells #[.pointer (some ⟨P, 0, none⟩)] 45)).alloc (.map #[] 0))) := DdI.first P w
  go_enter Tryz.func36, Tryz.ntmps36
  go_wp2
  iterate 13
    refine upon_deed (R := Oper.upon _ _ _ _ _) HF.out (by decide) (by rfl) (by rfl) (by rfl) (by decide) ?_
    intro w1 hf1
    clear HF
    have HF : Hid _ := hf1
    clear hf1
    go_wp2
  go_ret
  exact ⟨_, _, rfl, HF.out⟩

theorem DdI.keep {B M bx P k : Nat} {w0 w w' : World} (h : DdI B M bx P w0 k w) (hb : w'.heap[M]? = w.heap[M]?) (hx : w'.heap[bx]? = w.heap[bx]?) (hs : w.heap.size ≤ w'.heap.size) (hbel : Below B w0 w') : DdI B M bx P w0 k w' := by
  refine ⟨omapS h.own hb, ?_, h.lo, Nat.lt_of_lt_of_le h.lt hs, hbel⟩
  have h2 := h.env
  unfold World.cell? at h2 ⊢
  simp only at h2 ⊢
  rw [hx]
  exact h2
theorem ded_look {x : List UInt8} {f : List Nat} (h : frmF x = some f) : dedK.lookup x = some [] := by
  have : ∀ (L : List (List UInt8 × List Nat)), L.lookup x = some f → (L.map fun f => (f.1, ([] : List Nat))).lookup x = some [] := by
    intro L
    induction L with
    | nil => intro h; cases h
    | cons a L ih =>
      intro h
      obtain ⟨a1, a2⟩ := a
      rw [List.lookup_cons] at h
      rw [List.map_cons, List.lookup_cons]
      simp only
      split at h
      · rfl
      · exact ih h
  exact this frmL h
theorem look_deed {B M bx P : Nat} {w0 w : World} (h : DdI B M bx P w0 13 w) (s : ByteArray) (hs : s.size ≤ maxLen) {f : List Nat} (hf : frmF s.data.toList = some f) :
    ∃ (j n : Nat), dedK[j]? = some (s.data.toList, []) ∧ dedN[j]? = some n ∧ ∀ W : World, W.heap[M]? = w.heap[M]? → (Instr.lookup 70 (.map (some M)) (.string s) false).run Tryz.prog W = .ok (.func (.func n) #[] #[.pointer (some ⟨bx, 0, none⟩)]) W := by
  have hnd : (dedK.map (·.1)).Nodup := by decide
  obtain ⟨j, n, k1, k2, k3, _⟩ := (dF_at s.data.toList (.lit (.int .i64 (-1))) dedK dedN (.map []) tidy_empty rfl hnd).2 [] (ded_look hf)
  refine ⟨j, n, k1, k2, fun W hW => ?_⟩
  obtain ⟨v, ps, hr, hv⟩ := (omapS h.own hW).lookup lawSb Tryz.underlying70 (zeroD W) (zd := .lit (.int .i64 (-1))) (zp := []) rfl (keyOf_string_mk Tryz.underlying9 hs)
  rw [show dedN.take 13 = dedN from rfl, k3] at hv
  rw [fnE_inv hv] at hr
  exact hr
end Go.Proofs.YtapiedeekbfpnaaGreatDoor

/- The files that a machine made. -/
namespace Go.Proofs.YtapiedeekbfpnaaGreatDoor
open Go.RowKit Go.Shelf Go.Maps Go.WideMaps Go.Sort

theorem nodup_of {L : List Fl} (h : (L.map pth).Nodup) : L.Nodup := (List.pairwise_map.1 h).imp fun h e => h (by rw [e])
theorem allF_byD {L F : List Fl} (hn : (L.map pth).Nodup) (h : AllF (byD L) F) : F.Perm L := by
  obtain ⟨ks, hl, hnd, hks, hat⟩ := h
  have hp : ∀ (j : Nat) (h2 : j < F.length), F[j] ∈ L ∧ pth F[j] = ks[j]'(by omega) := fun j h2 => by
    have h1 : j < ks.length := by omega
    have h3 := (hks _).1 (List.getElem_mem h1)
    rw [has_byD, List.any_eq_true] at h3
    obtain ⟨f, hf, e⟩ := h3
    have e : pth f = ks[j] := by simpa using e
    have h4 := hat j h1 h2 (.lit (.int .i64 0))
    rw [← e, at_byD hn hf] at h4
    have e2 := fD_inj h4
    rw [← e2]
    exact ⟨hf, e⟩
  have hFk : F.map pth = ks := by
    apply List.ext_getElem
    · rw [List.length_map]; omega
    · intro j h1 h2
      rw [List.getElem_map]
      exact (hp j (by simpa using h1)).2
  have n1 : F.Nodup := nodup_of (by rw [hFk]; exact hnd)
  have n2 : L.Nodup := nodup_of hn
  refine (List.perm_ext_iff_of_nodup n1 n2).2 fun x => ⟨fun hx => ?_, fun hx => ?_⟩
  · obtain ⟨j, hj, rfl⟩ := List.getElem_of_mem hx
    exact (hp j hj).1
  · have h3 : pth x ∈ ks := (hks _).2 (by rw [has_byD, List.any_eq_true]; exact ⟨x, hx, by simp⟩)
    rw [← hFk] at h3
    obtain ⟨y, hy, e⟩ := List.mem_map.1 h3
    obtain ⟨j, hj, rfl⟩ := List.getElem_of_mem hy
    have hyL := (hp j hj).1
    have e2 : F[j] = x := by
      have h5 := at_byD hn hyL (.lit (.int .i64 0))
      have h6 := at_byD hn hx (.lit (.int .i64 0))
      rw [e] at h5
      exact fD_inj (h5.symm.trans h6)
    rw [← e2]
    exact hy
theorem McAt.c1 {w : World} {P : Nat} {m : Mc} (h : McAt w P m) : w.cell? ⟨P, 1, none⟩ = some (.map (some m.mp)) := h.cell 1

set_option maxHeartbeats 2000000 in
set_option maxRecDepth 100000 in
theorem madeFiles_any (m : Mc) (P n : Nat) (L : List Fl) (w : World) (h : McAt w P m) (ho : w.ownsMap Tryz.prog 9 fileE m.mp n (byD L)) (hn : n ≤ 1000000) (hL : L.Pairwise fun f g => pth f < pth g) (hl : L.length ≤ 1000000) :
    Calls Tryz.prog 22 #[.pointer (some ⟨P, 0, none⟩)] w fun e w' => ∃ v, e = .returned v ∧ w'.ownsRow w.heap.size 35 3 v L.length (flCells L) ∧ Below w.heap.size w w' := by
  have c1 := h.c1
  have hnd : (L.map pth).Nodup := List.pairwise_map.2 (hL.imp fun hh e => by rw [e] at hh; exact List.lt_irrefl _ hh)
  have HO : Hid (w.ownsMap Tryz.prog 9 fileE m.mp n (byD L)) := ho
  have HV : Hid (Calls Tryz.prog 38 #[.map (some m.mp)] w fun e w' => e = .returned (.func (.func 91) #[] #[.pointer (some ⟨w.heap.size, 0, none⟩)]) ∧ w' = w.alloc (.cells #[.map (some m.mp)] 49)) := Values_any (some m.mp) w
  have HP : Hid (L.Pairwise (fun f g => pth f < pth g) ∧ L.length ≤ 1000000 ∧ n ≤ 1000000 ∧ ∀ F, AllF (byD L) F → F.Perm L) := ⟨hL, hl, hn, fun F hF => allF_byD hnd hF⟩
  clear h ho hL hl hnd hn
  generalize m.mp = mp at *
  go_enter Tryz.func22, Tryz.ntmps22
  go_wp2_with fail
  refine HV.out.mono ?_
  rintro e w3 ⟨rfl, hw3⟩
  have hb3 : Below w.heap.size w w3 := by rw [hw3]; exact (Below.refl _ w).alloc (Nat.le_refl _) _
  have hsz3 : w3.heap.size = w.heap.size + 1 := by rw [hw3]; exact World.size_alloc _ _
  have hD3 : w3.ownsMap Tryz.prog 9 fileE mp n (byD L) := ownsMap_heap HO.out (hb3.block _ HO.out.lt)
  have hc3 : w3.cell? ⟨w.heap.size, 0, none⟩ = some (.map (some mp)) := by rw [hw3]; exact Lib.cell_of_heap (heap_alloc_new w _) 0
  have HS : Hid (Calls Tryz.prog 37 #[.func (.func 91) #[] #[.pointer (some ⟨w.heap.size, 0, none⟩)], .func (.func 39) #[] #[]] w3 fun e w' => ∃ v, e = .returned v ∧ w'.ownsRow w3.heap.size 35 3 v L.length (flCells L) ∧ Below w3.heap.size w3 w') :=
    SortedF 91 #[.pointer (some ⟨w.heap.size, 0, none⟩)] (enters_of Tryz.func91 (by kernel_rfl) rfl) (byD L) (Maps.size (byD L)) (Nat.le_trans hD3.size_le (by have := HP.out.2.2.1; omega)) L HP.out.1 HP.out.2.1 HP.out.2.2.2 w3
      (values1 Fence.wide 3 trivial rfl (by decide) w.heap.size mp n (byD L) w3 (by omega) hc3 hD3)
  have HB3 : Hid (Below w.heap.size w w3) := hb3
  clear hb3 hsz3 hD3 hc3 hw3 HV HO HP
  go_wp2_with fail
  refine HS.out.mono ?_
  rintro e w4 ⟨v, rfl, hr4, hb4⟩
  have HE : Hid (w4.ownsRow w.heap.size 35 3 v L.length (flCells L) ∧ Below w.heap.size w w4) := ⟨row_low hr4 HB3.out.size, below_low HB3.out hb4 HB3.out.size⟩
  clear hr4 hb4 HS
  go_wp2
  go_ret
  exact ⟨v, rfl, HE.out⟩

/-- May a file be made there? -/
def mayF (L : List Fl) (s : ByteArray) : Bool := L.any (fun f => decide (pth f = s.data.toList)) || (!decide (L.length = 60) && !L.any fun f => meetB s f.pa)
theorem bA_pth (f : Fl) : bA (pth f) = f.pa := bA_data f.pa

set_option maxHeartbeats 4000000 in
set_option maxRecDepth 100000 in
theorem mayMake_any (m : Mc) (P n : Nat) (L : List Fl) (s : ByteArray) (w : World) (h : McAt w P m) (ho : w.ownsMap Tryz.prog 9 fileE m.mp n (byD L)) (hn : (L.map pth).Nodup) (hs : s.size ≤ maxLen) :
    Calls Tryz.prog 123 #[.pointer (some ⟨P, 0, none⟩), .string s] w fun e w' => e = .returned (.bool (mayF L s)) ∧ Below w.heap.size w w' := by
  have c1 := h.c1
  obtain ⟨f0, _, hlk⟩ := lookF ho s hs
  have hlk1 := hlk w rfl
  rw [has_byD] at hlk1
  unfold encF at hlk1
  obtain ⟨W, hW⟩ : ∃ W, W = w.alloc (.cells #[.string f0.pa, .string f0.tx, .bool f0.rn] 35) := ⟨_, rfl⟩
  have hbW : Below w.heap.size w W := by rw [hW]; exact (Below.refl _ w).alloc (Nat.le_refl _) _
  have c1W : W.cell? ⟨P, 1, none⟩ = some (.map (some m.mp)) := (hbW.cell (p := ⟨P, 1, none⟩) h.lt).trans c1
  have hoW : W.ownsMap Tryz.prog 9 fileE m.mp n (byD L) := ownsMap_heap ho (hbW.block _ ho.lt)
  have hlen := hoW.len Tryz.underlying49 3
  rw [(size_byD L).2.2 hn] at hlen
  have HBW : Hid (Below w.heap.size w W) := hbW
  have HMP : Hid (m.mp < w.heap.size) := ho.lt
  have HOW : Hid (W.ownsMap Tryz.prog 9 fileE m.mp n (byD L)) := hoW
  have HM : Hid (∀ (x : ByteArray) (V : World), Calls Tryz.prog 140 #[.string s, .string x] V fun e w' => e = .returned (.bool (meetB s x)) ∧ w' = V) := fun x V => Meets_any s x V
  clear h ho hlk hn hbW hoW
  generalize m.mp = mp at *
  unfold mayF
  cases hh : L.any (fun f => decide (pth f = s.data.toList)) with
  | true =>
    rw [hh] at hlk1
    rw [Bool.true_or]
    rw [hW] at HBW
    clear hh c1W hlen HOW hW
    go_enter Tryz.func123, Tryz.ntmps123
    go_wp2
    go_ret
    exact ⟨rfl, HBW.out⟩
  | false =>
    rw [hh] at hlk1
    rw [Bool.false_or]
    rw [hW] at HBW HOW c1W hlen
    clear hh
    by_cases h60 : L.length = 60
    · rw [decide_eq_true h60]
      rw [h60] at hlen
      clear h60 hW
      go_enter Tryz.func123, Tryz.ntmps123
      go_wp2
      go_ret
      exact ⟨rfl, HBW.out⟩
    · rw [decide_eq_false h60]
      have h60i : ((L.length : Int) == 60) = false := by simp; omega
      obtain ⟨b, hb⟩ : ∃ b, L.any (fun f => meetB s f.pa) = b := ⟨_, rfl⟩
      have HB : Hid (L.any (fun f => meetB s f.pa) = b) := hb
      rw [hb]
      obtain ⟨n2, hn2⟩ : ∃ n2, L.length = n2 := ⟨_, rfl⟩
      rw [hn2] at hlen h60i
      clear h60 hb hn2
      go_enter Tryz.func123, Tryz.ntmps123
      go_wp2_with (first
        | (at_range; refine wpList_range_own _ rfl _ 49 rfl 9 35 lawS Tryz.underlying49 fileE mp n _ rfl HOW.out ?_; intro w0 hrg0 hg0 hs0)
        | go_in)
      go_frame
      rw [← hW] at hrg0 hg0 HBW ⊢
      have hsz : W.heap.size = w.heap.size + 1 := by rw [hW]; exact World.size_alloc _ _
      rw [hsz]
      have H0 : Hid (w0.ranges Tryz.prog 9 fileE mp (w.heap.size + 1) n (byD L) (Maps.has (byD L)) (Maps.size (byD L)) ∧ Below w.heap.size w w0 ∧ w.heap.size + 1 ≤ w0.heap.size) := ⟨by rw [← hsz]; exact hrg0, below_low HBW.out (⟨hg0.os, hg0.tape, hg0.output, hg0.size, fun g hg => hg0.block g hg (by simp)⟩ : Below W.heap.size W w0) HBW.out.size, by rw [← hsz]; exact hg0.size⟩
      clear hrg0 hg0 hs0 hlen c1W HOW hsz hW
      go_loopw [7] (fun _ wr => ∃ (left : Lit → Bool) (cnt : Nat), Hid (wr.ranges Tryz.prog 9 fileE mp (w.heap.size + 1) n (byD L) left cnt ∧ (Below w.heap.size w wr ∧ w.heap.size + 1 ≤ wr.heap.size) ∧ ∀ f ∈ L, left (.string (pth f)) = false → meetB s f.pa = false)) (fun _ wr => wr.rangeLeft mp (w.heap.size + 1))
      case atStart =>
        refine ⟨_, _, H0.out.1, H0.out.2, fun f hf hl => ?_⟩
        rw [has_byD, List.any_eq_false] at hl
        exact absurd (decide_eq_true rfl) (hl f hf)
      case round =>
        obtain ⟨left, cnt, HI⟩ := hrel
        have hrg := HI.out.1
        go_wp2_with (first
          | (at_next; refine wpList_next_ranges _ rfl _ rfl 9 lawS fileE encStr encF invKF invVF mp (w.heap.size + 1) n _ _ _ rfl hrg ?_ ?_)
          | go_in)
        · intro hc0 hl0
          have HBF : Hid (b = false) := by
            show b = false
            rw [← HB.out, List.any_eq_false]
            intro f hf
            rw [HI.out.2.2 f hf (by rw [hl0])]
            simp
          obtain rfl := HBF.out
          clear hc0 hl0 hrg
          go_wp2
          go_ret
          exact ⟨rfl, HI.out.2.1.1⟩
        · intro x f kl yd yp w1 cnt1 hkey hlx hv hat hrg1 hlt hg1 hs1 hen
          obtain ⟨x', ex, rfl, _⟩ := Maps.keyOf_str Tryz.underlying9 hkey
          obtain rfl : x = x' := encStr_inj ex
          have hex : ∃ g ∈ L, pth g = x := by
            refine Classical.byContradiction fun hne => ?_
            have h1 : ∀ g ∈ L, pth g ≠ x := fun g hg e => hne ⟨g, hg, e⟩
            have h2 := hat (.lit (.int .i64 0))
            have h3 := hat (.lit (.int .i64 1))
            rw [atNo_byD h1] at h2 h3
            rw [← h2] at h3
            injection h3 with h3
            injection h3 with _ h3
            cases h3
          obtain ⟨g, hgL, hgx⟩ := hex
          have hM := HM.out (bA x)
          have hxg : bA x = g.pa := by rw [← hgx]; exact bA_pth g
          have HR1 : Hid (w1.ranges Tryz.prog 9 fileE mp (w.heap.size + 1) n (byD L) (fun z => left z && !z.sameKey (.string x)) cnt1 ∧ cnt1 < cnt ∧ Below w.heap.size w w1 ∧ w.heap.size + 1 ≤ w1.heap.size) := ⟨hrg1, hlt, HI.out.2.1.1.grown hg1 (by have := HI.out.2.1.2; omega) (fun j hj => by have := Option.some.inj hj; omega), by rw [hs1]; exact HI.out.2.1.2⟩
          cases hmb : meetB s (bA x) with
          | true =>
            have HBT : Hid (b = true) := by
              show b = true
              rw [← HB.out, List.any_eq_true]
              exact ⟨g, hgL, by rw [← hxg]; exact hmb⟩
            obtain rfl := HBT.out
            rw [hmb] at hM
            have HM2 : Hid (∀ V, Calls Tryz.prog 140 #[.string s, encStr x] V fun e w' => e = .returned (.bool true) ∧ w' = V) := hM
            clear hM hmb hxg hrg hrg1 hg1 hs1 hlx hat hv hlt
            go_wp2_with (first | (go_at_call 140; refine (HM2.out _).mono ?_; rintro e w5 ⟨rfl, hw⟩; subst w5) | go_in)
            go_ret
            exact ⟨rfl, HR1.out.2.2.1⟩
          | false =>
            rw [hmb] at hM
            have HM2 : Hid (∀ V, Calls Tryz.prog 140 #[.string s, encStr x] V fun e w' => e = .returned (.bool false) ∧ w' = V) := hM
            have HL : Hid (∀ f ∈ L, (left (.string (pth f)) && !(Lit.string (pth f)).sameKey (.string x)) = false → meetB s f.pa = false) := by
              intro f hf hl
              by_cases e : pth f = x
              · rw [← bA_pth f, e]
                exact hmb
              · refine HI.out.2.2 f hf ?_
                have hsk : (Lit.string (pth f)).sameKey (.string x) = false := by
                  cases hq : (Lit.string (pth f)).sameKey (.string x) with
                  | false => rfl
                  | true => exact absurd (by injection (WideAt.sameKey_eq hq)) e
                rw [hsk] at hl
                simpa using hl
            clear hM hmb hxg hrg hrg1 hg1 hs1 hlx hat hv hlt
            go_wp2_with (first | (go_at_call 140; refine (HM2.out _).mono ?_; rintro e w5 ⟨rfl, hw⟩; subst w5) | go_in)
            refine ⟨⟨_, cnt1, HR1.out.1, HR1.out.2.2, HL.out⟩, ?_⟩
            rw [HR1.out.1.left_eq, HI.out.1.left_eq]
            exact HR1.out.2.1
end Go.Proofs.YtapiedeekbfpnaaGreatDoor

/- A machine makes a file. -/
namespace Go.Proofs.YtapiedeekbfpnaaGreatDoor
open Go.RowKit Go.Shelf Go.Maps Go.WideMaps Go.Sort

theorem UpB.keep {P g : Nat} {w w' : World} (h : UpB P w w') (hg : g < w.heap.size) (hn : g ≠ P) : w'.heap[g]? = w.heap[g]? := h.block g hg hn
theorem burnM_mp (m : Mc) (b : Nat) : (burnM m b).1.mp = m.mp := by unfold burnM; split <;> rfl
theorem endM_mp (m : Mc) (c : Nat) : (endM m c).mp = m.mp := by
  unfold endM
  split
  · exact burnM_mp m 0
  · exact burnM_mp m 0
/-- Two blocks may turn, and what is new. -/
structure UpC (P M : Nat) (w w' : World) : Prop where
  os : w'.os = w.os
  tape : w'.tape = w.tape
  output : w'.output = w.output
  size : w.heap.size ≤ w'.heap.size
  block : ∀ g : Nat, g < w.heap.size → g ≠ P → g ≠ M → w'.heap[g]? = w.heap[g]?
theorem UpC.of {P M : Nat} {w w' : World} (h : UpB P w w') : UpC P M w w' := ⟨h.os, h.tape, h.output, h.size, fun g hg hn _ => h.block g hg hn⟩
theorem UpC.trans {P M : Nat} {a b c : World} (h : UpC P M a b) (k : UpC P M b c) : UpC P M a c :=
  ⟨k.os.trans h.os, k.tape.trans h.tape, k.output.trans h.output, Nat.le_trans h.size k.size, fun g hg hn hm => (k.block g (Nat.lt_of_lt_of_le hg h.size) hn hm).trans (h.block g hg hn hm)⟩
/-- A file is made. -/
def mkM (m : Mc) (L : List Fl) (f : Fl) : Mc := if mayF L f.pa = true then (burnM m f.tx.size).1 else endM m 103
def mkD (m : Mc) (L : List Fl) (f : Fl) (D : DataW Unit) : DataW Unit := if mayF L f.pa = true ∧ (burnM m f.tx.size).2 = true then D.put (.string (pth f)) (fD f) else D
theorem mkM_mp (m : Mc) (L : List Fl) (f : Fl) : (mkM m L f).mp = m.mp := by
  unfold mkM
  split
  · exact burnM_mp m _
  · exact endM_mp m _

set_option maxHeartbeats 4000000 in
set_option maxRecDepth 100000 in
theorem makeFile_any (m : Mc) (P n : Nat) (L : List Fl) (f : Fl) (w : World) (h : McAt w P m) (ho : w.ownsMap Tryz.prog 9 fileE m.mp n (byD L)) (hn : (L.map pth).Nodup) (hnn : n ≤ 1000000) (hne : m.mp ≠ P) (hs : f.pa.size ≤ 1000000) (ht : f.tx.size ≤ 1000000) (hf : m.fuel ≤ 1000000) :
    Calls Tryz.prog 81 #[.pointer (some ⟨P, 0, none⟩), encF f] w fun e w' => e = .returned (.tuple #[]) ∧ McAt w' P (mkM m L f) ∧ (∃ n', n' ≤ n + 1 ∧ w'.ownsMap Tryz.prog 9 fileE m.mp n' (mkD m L f (byD L))) ∧ UpC P m.mp w w' := by
  obtain ⟨W, hW⟩ : ∃ W, W = w.alloc (.cells #[.string f.pa, .string f.tx, .bool f.rn] 35) := ⟨_, rfl⟩
  have hbW : Below w.heap.size w W := by rw [hW]; exact (Below.refl _ w).alloc (Nat.le_refl _) _
  have hF : W.heap[w.heap.size]? = some (.cells #[.string f.pa, .string f.tx, .bool f.rn] 35 (0, 0)) := by rw [hW]; exact heap_alloc_new w _
  have hsz : W.heap.size = w.heap.size + 1 := by rw [hW]; exact World.size_alloc _ _
  have hmc := h.below hbW
  have hoW : W.ownsMap Tryz.prog 9 fileE m.mp n (byD L) := ownsMap_heap ho (hbW.block _ ho.lt)
  have hMay := mayMake_any m P n L f.pa W hmc hoW hn (by unfold maxLen; omega)
  have hPl := h.lt
  have hMl := ho.lt
  unfold mkM mkD
  cases hm : mayF L f.pa with
  | false =>
    rw [hm] at hMay
    have HM : Hid (Calls Tryz.prog 123 #[.pointer (some ⟨P, 0, none⟩), .string f.pa] W fun e w' => e = .returned (.bool false) ∧ Hid (Below W.heap.size W w')) := hMay
    rw [if_neg (by simp), if_neg (by simp)]
    have HE : Hid (∀ V, Hid (Below W.heap.size W V) → Calls Tryz.prog 88 #[.pointer (some ⟨P, 0, none⟩), .int .i64 (103 : Int)] V fun e w' => e = .returned (.tuple #[]) ∧ Hid (McAt w' P (endM m 103) ∧ w'.ownsMap Tryz.prog 9 fileE m.mp n (byD L) ∧ UpC P m.mp w w')) := by
      intro V hV
      have h1 := hmc.below hV.out
      refine (end_any m P 103 V h1 hf).mono ?_
      rintro e w' ⟨rfl, q1, q2⟩
      have hVw : Below w.heap.size w V := below_low hbW hV.out hbW.size
      refine ⟨rfl, q1, ownsMap_heap hoW ((q2.block m.mp (by have := hV.out.size; omega) hne).trans (hV.out.block _ (by omega))), ?_⟩
      exact ⟨q2.os.trans hVw.os, q2.tape.trans hVw.tape, q2.output.trans hVw.output, Nat.le_trans hVw.size q2.size, fun g hg hgn _ => (q2.block g (by have := hVw.size; omega) hgn).trans (hVw.block g hg)⟩
    rw [hW] at HM HE
    clear hMay hm hmc hoW hF hsz hbW hW h ho hn hf
    unfold encF
    go_enter Tryz.func81, Tryz.ntmps81
    go_wp2_with (first
      | (go_at_call 123; refine HM.out.mono ?_; rintro e w1 ⟨rfl, HB1⟩)
      | (go_at_call 88; refine (HE.out _ HB1).mono ?_; rintro e w2 ⟨rfl, H2⟩)
      | go_in)
    refine bodyPost_ret (v := .tuple #[]) (by simp [results, Tryz.results81]) rfl ?_
    exact ⟨rfl, H2.out.1, ⟨n, by omega, H2.out.2.1⟩, H2.out.2.2⟩
  | true =>
    rw [hm] at hMay
    have HM : Hid (Calls Tryz.prog 123 #[.pointer (some ⟨P, 0, none⟩), .string f.pa] W fun e w' => e = .returned (.bool true) ∧ Hid (Below W.heap.size W w')) := hMay
    rw [if_pos rfl]
    obtain ⟨bm, hbm⟩ : ∃ bm, burnM m f.tx.size = bm := ⟨_, rfl⟩
    rw [hbm]
    obtain ⟨m1, b⟩ := bm
    have hmp : m1.mp = m.mp := by have := burnM_mp m f.tx.size; rw [hbm] at this; exact this
    have HBn : Hid (∀ V, Hid (Below W.heap.size W V) → Calls Tryz.prog 111 #[.pointer (some ⟨P, 0, none⟩), .int .i64 (f.tx.size : Int)] V fun e w' => e = .returned (.bool b) ∧ Hid (McAt w' P m1 ∧ w'.ownsMap Tryz.prog 9 fileE m.mp n (byD L) ∧ UpC P m.mp w w' ∧ w'.heap[w.heap.size]? = some (.cells #[.string f.pa, .string f.tx, .bool f.rn] 35 (0, 0)))) := by
      intro V hV
      have h1 := hmc.below hV.out
      have h2 := burn_any m P f.tx.size V h1 ht hf
      rw [hbm] at h2
      refine h2.mono ?_
      rintro e w' ⟨rfl, q1, q2⟩
      have hVw : Below w.heap.size w V := below_low hbW hV.out hbW.size
      refine ⟨rfl, q1, ownsMap_heap hoW ((q2.block m.mp (by have := hV.out.size; omega) hne).trans (hV.out.block _ (by omega))), ?_, ?_⟩
      · exact ⟨q2.os.trans hVw.os, q2.tape.trans hVw.tape, q2.output.trans hVw.output, Nat.le_trans hVw.size q2.size, fun g hg hgn _ => (q2.block g (by have := hVw.size; omega) hgn).trans (hVw.block g hg)⟩
      · exact (q2.block w.heap.size (by have := hV.out.size; omega) (by omega)).trans ((hV.out.block _ (by omega)).trans hF)
    have cfw : ∀ V : World, Hid (Below W.heap.size W V) → V.cell? ⟨w.heap.size, 1, none⟩ = some (.string f.tx) := fun V hV => by
      rw [Lib.cell_of_heap ((hV.out.block w.heap.size (by omega)).trans hF)]
      rfl
    have HCF : Hid (∀ V : World, Hid (Below W.heap.size W V) → V.cell? ⟨w.heap.size, 1, none⟩ = some (.string f.tx)) := cfw
    have hts : (f.tx.size : Int) ≤ 9223372036854775807 := by omega
    have hps : f.pa.size ≤ maxLen := by unfold maxLen; omega
    rw [hW] at HM HBn HCF
    have HX : Hid (m1.mp = m.mp ∧ n < maxLen ∧ f.pa.size ≤ maxLen) := ⟨hmp, by unfold maxLen; omega, hps⟩
    clear hMay hm hmc hoW hF hsz hbW hW h ho hn hf hbm cfw hmp
    unfold encF
    cases b with
    | false =>
      rw [if_neg (by simp)]
      go_enter Tryz.func81, Tryz.ntmps81
      go_wp2_with (first
        | (go_at_call 123; refine HM.out.mono ?_; rintro e w1 ⟨rfl, HB1⟩; have cf := HCF.out w1 HB1)
        | (go_at_call 111; refine (HBn.out _ HB1).mono ?_; rintro e w2 ⟨rfl, H2⟩)
        | go_in)
      go_end0
      exact ⟨rfl, H2.out.1, ⟨n, by omega, H2.out.2.1⟩, H2.out.2.2.1⟩
    | true =>
      rw [if_pos ⟨rfl, rfl⟩]
      go_enter Tryz.func81, Tryz.ntmps81
      go_wp2_with (first
        | (go_at_call 123; refine HM.out.mono ?_; rintro e w1 ⟨rfl, HB1⟩; have cf := HCF.out w1 HB1)
        | (go_at_call 111; refine (HBn.out _ HB1).mono ?_; rintro e w2 ⟨rfl, H2⟩)
        | go_in)
      have hmc2 := H2.out.1
      have g1 := hmc2.c1
      rw [HX.out.1] at g1
      have g2 : w2.cell? ⟨w.heap.size, 0, none⟩ = some (.string f.pa) := by rw [Lib.cell_of_heap H2.out.2.2.2]; rfl
      have g3 : w2.cell? ⟨w.heap.size, 1, none⟩ = some (.string f.tx) := by rw [Lib.cell_of_heap H2.out.2.2.2]; rfl
      have g4 : w2.cell? ⟨w.heap.size, 2, none⟩ = some (.bool f.rn) := by rw [Lib.cell_of_heap H2.out.2.2.2]; rfl
      have hod : w2.drew.ownsMap Tryz.prog 9 fileE m.mp n (byD L) := ownsMap_heap H2.out.2.1 rfl
      obtain ⟨w3, hrun, r1, r2⟩ := hod.update lawS Tryz.underlying49 HX.out.2.1 (keyOf_string_mk Tryz.underlying9 HX.out.2.2) (fileE_mk f)
      unfold encF at hrun
      have HR : Hid (w3.ownsMap Tryz.prog 9 fileE m.mp (n + 1) ((byD L).put (.string (pth f)) (fD f)) ∧ w2.drew.grownBy w3 (some m.mp)) := ⟨r1, r2⟩
      clear r1 r2 hod hmc2
      go_region
      go_wp2
      go_end0
      have hu := H2.out.2.2.1
      refine ⟨rfl, ⟨(HR.out.2.block P (by have := hu.size; show P < w2.heap.size; omega) (fun e => hne (Option.some.inj e).symm)).trans H2.out.1.at_, H2.out.1.len⟩, ⟨n + 1, by omega, HR.out.1⟩, ?_⟩
      exact ⟨HR.out.2.os.trans hu.os, HR.out.2.tape.trans hu.tape, HR.out.2.output.trans hu.output, Nat.le_trans hu.size HR.out.2.size, fun g hg hgn hgm => (HR.out.2.block g (by have := hu.size; show g < w2.heap.size; omega) (fun e => hgm (Option.some.inj e))).trans (hu.block g hg hgn hgm)⟩
end Go.Proofs.YtapiedeekbfpnaaGreatDoor

/- A machine does a line; two lines are run. -/
namespace Go.Proofs.YtapiedeekbfpnaaGreatDoor
open Go.RowKit Go.Shelf Go.Maps Go.WideMaps Go.Sort

set_option maxHeartbeats 1000000 in
set_option maxRecDepth 100000 in
theorem deed_set (m : Mc) (P bx : Nat) (l : Ln) (w : World) (h : McAt w P m) (hx : w.cell? ⟨bx, 0, none⟩ = some (.pointer (some ⟨P, 0, none⟩))) (hf : m.fuel ≤ 1000000) (hr : l.r < 8) (ht : l.tx.size ≤ 1000000) :
    Calls Tryz.prog 67 #[.agg (lnC l), .pointer (some ⟨bx, 0, none⟩)] w fun e w' => e = .returned (.tuple #[]) ∧ McAt w' P (putM m l.r l.tx) ∧ UpB P w w' := by
  have hbl : bx < w.heap.size := World.block_lt_of_cell? w ⟨bx, 0, none⟩ hx
  obtain ⟨W, hW⟩ : ∃ W, W = w.alloc (.cells (lnC l) 67) := ⟨_, rfl⟩
  have hb : Below w.heap.size w W := by rw [hW]; exact (Below.refl _ w).alloc (Nat.le_refl _) _
  have hP := put_any m P l.r l.tx W (h.below hb) hf hr ht
  have HP : Hid (Calls Tryz.prog 68 #[.pointer (some ⟨P, 0, none⟩), .int .i64 (l.r : Int), .string l.tx] W fun e w' => e = .returned (.tuple #[]) ∧ Hid (McAt w' P (putM m l.r l.tx) ∧ UpB P w w')) := hP.mono fun e w' q => ⟨q.1, q.2.1, (UpB.of_below hb).trans q.2.2⟩
  have hx2 : W.cell? ⟨bx, 0, none⟩ = some (.pointer (some ⟨P, 0, none⟩)) := (hb.cell (p := ⟨bx, 0, none⟩) hbl).trans hx
  rw [hW] at HP hx2
  clear h hf hr ht hP hb hW hx
  unfold lnC at *
  go_enter Tryz.func67, Tryz.ntmps67
  go_wp2_with (first
    | (go_at_call 68; refine HP.out.mono ?_; rintro e w1 ⟨rfl, H1⟩)
    | go_in)
  go_end0
  exact ⟨rfl, H1.out⟩

theorem burnM_tx (m : Mc) (b : Nat) : (burnM m b).1.tx = m.tx := by unfold burnM; split <;> rfl
theorem endM_tx (m : Mc) (c : Nat) : (endM m c).tx = m.tx := by
  unfold endM
  split
  · exact burnM_tx m 0
  · exact burnM_tx m 0
theorem mkM_tx (m : Mc) (L : List Fl) (f : Fl) : (mkM m L f).tx = m.tx := by
  unfold mkM
  split
  · exact burnM_tx m _
  · exact endM_tx m _
theorem map_no_cell {w : World} {M n b : Nat} {D : DataW Unit} (h : w.ownsMap Tryz.prog 9 fileE M n D) {v : Value} (hc : w.cell? ⟨b, 0, none⟩ = some v) : b ≠ M := by
  rintro rfl
  obtain ⟨es, clock, hb, _⟩ := h
  unfold World.cell? at hc
  simp [hb] at hc

set_option maxHeartbeats 2000000 in
set_option maxRecDepth 100000 in
theorem deed_make (m : Mc) (P bx n : Nat) (L : List Fl) (l : Ln) (t : ByteArray) (w : World) (h : McAt w P m) (hx : w.cell? ⟨bx, 0, none⟩ = some (.pointer (some ⟨P, 0, none⟩))) (hf : m.fuel ≤ 1000000) (hr : l.r < 8) (ht : m.tx[l.r]? = some t) (hts : t.size ≤ 1000000) (hps : l.pa.size ≤ 1000000)
    (ho : w.ownsMap Tryz.prog 9 fileE m.mp n (byD L)) (hn : (L.map pth).Nodup) (hnn : n ≤ 1000000) (hne : m.mp ≠ P) (hbp : bx ≠ P) :
    Calls Tryz.prog 80 #[.agg (lnC l), .pointer (some ⟨bx, 0, none⟩)] w fun e w' => e = .returned (.tuple #[]) ∧ McAt w' P (mkM m L ⟨l.pa, t, false⟩) ∧ (∃ n', n' ≤ n + 1 ∧ w'.ownsMap Tryz.prog 9 fileE m.mp n' (mkD m L ⟨l.pa, t, false⟩ (byD L))) ∧ UpC P m.mp w w' := by
  have hbl : bx < w.heap.size := World.block_lt_of_cell? w ⟨bx, 0, none⟩ hx
  obtain ⟨W, hW⟩ : ∃ W, W = w.alloc (.cells (lnC l) 67) := ⟨_, rfl⟩
  have hb : Below w.heap.size w W := by rw [hW]; exact (Below.refl _ w).alloc (Nat.le_refl _) _
  have hMl := ho.lt
  have hM := makeFile_any m P n L ⟨l.pa, t, false⟩ W.drew ⟨(h.below hb).at_, h.len⟩ (ownsMap_heap ho (hb.block _ hMl)) hn hnn hne hps hts hf
  have hx2 : W.cell? ⟨bx, 0, none⟩ = some (.pointer (some ⟨P, 0, none⟩)) := (hb.cell (p := ⟨bx, 0, none⟩) hbl).trans hx
  have ct : W.cell? ⟨P, 2 + l.r, none⟩ = some (.string t) := ((h.below hb).cell _).trans (mcL_lo l.r t ht)
  have hL : W.heap[w.heap.size]? = some (.cells (lnC l) 67 (0, 0)) := by rw [hW]; exact heap_alloc_new w _
  have q3 : W.cell? ⟨w.heap.size, 3, none⟩ = some (.string l.pa) := by rw [Lib.cell_of_heap hL]; rfl
  have q1 : W.cell? ⟨w.heap.size, 1, none⟩ = some (.int .i64 (l.r : Int)) := by rw [Lib.cell_of_heap hL]; rfl
  have hsz : W.heap.size = w.heap.size + 1 := by rw [hW]; exact World.size_alloc _ _
  have hPl := h.lt
  have hbm : bx ≠ m.mp := map_no_cell ho hx
  have HM : Hid (Calls Tryz.prog 81 #[.pointer (some ⟨P, 0, none⟩), .agg #[.string l.pa, .string t, .bool false]] W.drew fun e w' => e = .returned (.tuple #[]) ∧ (w'.cell? ⟨bx, 0, none⟩ = some (.pointer (some ⟨P, 0, none⟩)) ∧ w'.cell? ⟨P, 2 + l.r, none⟩ = some (.string t) ∧ w'.cell? ⟨w.heap.size, 3, none⟩ = some (.string l.pa) ∧ w'.cell? ⟨w.heap.size, 1, none⟩ = some (.int .i64 (l.r : Int))) ∧ Hid (McAt w' P (mkM m L ⟨l.pa, t, false⟩) ∧ (∃ n', n' ≤ n + 1 ∧ w'.ownsMap Tryz.prog 9 fileE m.mp n' (mkD m L ⟨l.pa, t, false⟩ (byD L))) ∧ UpC P m.mp w w')) := hM.mono fun e w' q => by
    obtain ⟨q0, k1, k2, k3⟩ := q
    have hLn : w'.heap[w.heap.size]? = some (.cells (lnC l) 67 (0, 0)) := (k3.block w.heap.size (by show w.heap.size < W.heap.size; omega) (by omega) (by omega)).trans hL
    refine ⟨q0, ⟨?_, ?_, ?_, ?_⟩, k1, k2, ⟨k3.os.trans hb.os, k3.tape.trans hb.tape, k3.output.trans hb.output, Nat.le_trans hb.size k3.size, fun g hg h1 h2 => (k3.block g (Nat.lt_of_lt_of_le hg hb.size) h1 h2).trans (hb.block g hg)⟩⟩
    · exact (cell_same (w := W) (k3.block bx (by show bx < W.heap.size; omega) hbp hbm) 0).trans hx2
    · exact (k1.cell _).trans (mcL_lo l.r t (by rw [mkM_tx]; exact ht))
    · rw [Lib.cell_of_heap hLn]; rfl
    · rw [Lib.cell_of_heap hLn]; rfl
  have hri : (l.r : Int) < 8 := by omega
  rw [hW] at HM hx2 ct q3 q1
  have HS : Hid ((w.alloc (.cells (lnC l) 67)).drew.cell? ⟨bx, 0, none⟩ = some (.pointer (some ⟨P, 0, none⟩)) ∧ (w.alloc (.cells (lnC l) 67)).drew.cell? ⟨P, 2 + l.r, none⟩ = some (.string t) ∧ (w.alloc (.cells (lnC l) 67)).drew.cell? ⟨w.heap.size, 3, none⟩ = some (.string l.pa) ∧ (w.alloc (.cells (lnC l) 67)).drew.cell? ⟨w.heap.size, 1, none⟩ = some (.int .i64 (l.r : Int))) := ⟨hx2, ct, q3, q1⟩
  clear h hf ht hM hb hW hx hL ho hn hnn hne hbl hMl hsz hPl hbm hbp hr hts hps
  unfold lnC at *
  go_enter Tryz.func80, Tryz.ntmps80
  go_wp2
  go_region_held3 (fun V => V.cell? ⟨bx, 0, none⟩ = some (.pointer (some ⟨P, 0, none⟩)) ∧ V.cell? ⟨P, 2 + l.r, none⟩ = some (.string t) ∧ V.cell? ⟨w.heap.size, 3, none⟩ = some (.string l.pa) ∧ V.cell? ⟨w.heap.size, 1, none⟩ = some (.int .i64 (l.r : Int))) (first | assumption | exact HS.out | go_keep) (first
    | (go_at_call 81; refine HM.out.mono ?_; rintro e w1 ⟨rfl, hS1, H1⟩)
    | fail)
  all_goals
    go_wp2
    go_end0
    exact ⟨rfl, H1.out⟩
end Go.Proofs.YtapiedeekbfpnaaGreatDoor

/- A machine does a line: it joins, it goes elsewhere, it ends. -/
namespace Go.Proofs.YtapiedeekbfpnaaGreatDoor
open Go.RowKit Go.Shelf Go.Maps Go.WideMaps Go.Sort

set_option maxHeartbeats 1000000 in
set_option maxRecDepth 100000 in
theorem deed_goto (m : Mc) (P bx : Nat) (l : Ln) (w : World) (h : McAt w P m) (hx : w.cell? ⟨bx, 0, none⟩ = some (.pointer (some ⟨P, 0, none⟩))) (hf : m.fuel ≤ 1000000) :
    Calls Tryz.prog 86 #[.agg (lnC l), .pointer (some ⟨bx, 0, none⟩)] w fun e w' => e = .returned (.tuple #[]) ∧ McAt w' P (goM m true l.n) ∧ UpB P w w' := by
  have hbl : bx < w.heap.size := World.block_lt_of_cell? w ⟨bx, 0, none⟩ hx
  obtain ⟨W, hW⟩ : ∃ W, W = w.alloc (.cells (lnC l) 67) := ⟨_, rfl⟩
  have hb : Below w.heap.size w W := by rw [hW]; exact (Below.refl _ w).alloc (Nat.le_refl _) _
  have hP := goIf_any m P true l.n W (h.below hb) hf
  have HP : Hid (Calls Tryz.prog 84 #[.pointer (some ⟨P, 0, none⟩), .bool true, .int .i64 (l.n : Int)] W fun e w' => e = .returned (.tuple #[]) ∧ Hid (McAt w' P (goM m true l.n) ∧ UpB P w w')) := hP.mono fun e w' q => ⟨q.1, q.2.1, (UpB.of_below hb).trans q.2.2⟩
  have hx2 : W.cell? ⟨bx, 0, none⟩ = some (.pointer (some ⟨P, 0, none⟩)) := (hb.cell (p := ⟨bx, 0, none⟩) hbl).trans hx
  rw [hW] at HP hx2
  clear h hf hP hb hW hx
  unfold lnC at *
  go_enter Tryz.func86, Tryz.ntmps86
  go_wp2_with (first
    | (go_at_call 84; refine HP.out.mono ?_; rintro e w1 ⟨rfl, H1⟩)
    | go_in)
  go_end0
  exact ⟨rfl, H1.out⟩

set_option maxHeartbeats 1000000 in
set_option maxRecDepth 100000 in
theorem deed_exit (m : Mc) (P bx : Nat) (l : Ln) (w : World) (h : McAt w P m) (hx : w.cell? ⟨bx, 0, none⟩ = some (.pointer (some ⟨P, 0, none⟩))) (hf : m.fuel ≤ 1000000) :
    Calls Tryz.prog 87 #[.agg (lnC l), .pointer (some ⟨bx, 0, none⟩)] w fun e w' => e = .returned (.tuple #[]) ∧ McAt w' P (endM m l.n) ∧ UpB P w w' := by
  have hbl : bx < w.heap.size := World.block_lt_of_cell? w ⟨bx, 0, none⟩ hx
  obtain ⟨W, hW⟩ : ∃ W, W = w.alloc (.cells (lnC l) 67) := ⟨_, rfl⟩
  have hb : Below w.heap.size w W := by rw [hW]; exact (Below.refl _ w).alloc (Nat.le_refl _) _
  have hP := end_any m P l.n W (h.below hb) hf
  have HP : Hid (Calls Tryz.prog 88 #[.pointer (some ⟨P, 0, none⟩), .int .i64 (l.n : Int)] W fun e w' => e = .returned (.tuple #[]) ∧ Hid (McAt w' P (endM m l.n) ∧ UpB P w w')) := hP.mono fun e w' q => ⟨q.1, q.2.1, (UpB.of_below hb).trans q.2.2⟩
  have hx2 : W.cell? ⟨bx, 0, none⟩ = some (.pointer (some ⟨P, 0, none⟩)) := (hb.cell (p := ⟨bx, 0, none⟩) hbl).trans hx
  rw [hW] at HP hx2
  clear h hf hP hb hW hx
  unfold lnC at *
  go_enter Tryz.func87, Tryz.ntmps87
  go_wp2_with (first
    | (go_at_call 88; refine HP.out.mono ?_; rintro e w1 ⟨rfl, H1⟩)
    | go_in)
  go_end0
  exact ⟨rfl, H1.out⟩

set_option maxHeartbeats 2000000 in
set_option maxRecDepth 100000 in
theorem deed_join (m : Mc) (P bx : Nat) (l : Ln) (t u tu : ByteArray) (w : World) (h : McAt w P m) (hx : w.cell? ⟨bx, 0, none⟩ = some (.pointer (some ⟨P, 0, none⟩))) (hf : m.fuel ≤ 1000000) (hr : l.r < 8) (hs : l.s < 8) (ht : m.tx[l.r]? = some t) (hu : m.tx[l.s]? = some u) (htu : ∀ W : World, (Op.stringOp .add t u).run Tryz.prog W = .ok (.string tu) W) (hz : tu.size ≤ 1000000) :
    Calls Tryz.prog 73 #[.agg (lnC l), .pointer (some ⟨bx, 0, none⟩)] w fun e w' => e = .returned (.tuple #[]) ∧ McAt w' P (putM m l.r tu) ∧ UpB P w w' := by
  have hbl : bx < w.heap.size := World.block_lt_of_cell? w ⟨bx, 0, none⟩ hx
  obtain ⟨W, hW⟩ : ∃ W, W = w.alloc (.cells (lnC l) 67) := ⟨_, rfl⟩
  have hb : Below w.heap.size w W := by rw [hW]; exact (Below.refl _ w).alloc (Nat.le_refl _) _
  have hP := put_any m P l.r tu W.drew ⟨(h.below hb).at_, h.len⟩ hf hr hz
  have HP : Hid (Calls Tryz.prog 68 #[.pointer (some ⟨P, 0, none⟩), .int .i64 (l.r : Int), .string tu] W.drew fun e w' => e = .returned (.tuple #[]) ∧ Hid (McAt w' P (putM m l.r tu) ∧ UpB P w w')) := hP.mono fun e w' q => ⟨q.1, q.2.1, (UpB.of_below hb).trans ⟨q.2.2.os, q.2.2.tape, q.2.2.output, q.2.2.size, q.2.2.block⟩⟩
  have hx2 : W.cell? ⟨bx, 0, none⟩ = some (.pointer (some ⟨P, 0, none⟩)) := (hb.cell (p := ⟨bx, 0, none⟩) hbl).trans hx
  have ct : W.cell? ⟨P, 2 + l.r, none⟩ = some (.string t) := ((h.below hb).cell _).trans (mcL_lo l.r t ht)
  have cu : W.cell? ⟨P, 2 + l.s, none⟩ = some (.string u) := ((h.below hb).cell _).trans (mcL_lo l.s u hu)
  have hL : W.heap[w.heap.size]? = some (.cells (lnC l) 67 (0, 0)) := by rw [hW]; exact heap_alloc_new w _
  have q2 : W.cell? ⟨w.heap.size, 2, none⟩ = some (.int .i64 (l.s : Int)) := by rw [Lib.cell_of_heap hL]; rfl
  have q1 : W.cell? ⟨w.heap.size, 1, none⟩ = some (.int .i64 (l.r : Int)) := by rw [Lib.cell_of_heap hL]; rfl
  have hri : (l.r : Int) < 8 := by omega
  have hsi : (l.s : Int) < 8 := by omega
  rw [hW] at HP hx2 ct cu q2 q1
  clear h hf ht hu hP hb hW hx hL hbl hr hs hz
  unfold lnC at *
  go_enter Tryz.func73, Tryz.ntmps73
  go_wp2
  obtain ⟨V, hV⟩ : ∃ V, V = (w.alloc (.cells #[.string l.wd, .int .i64 (l.r : Int), .int .i64 (l.s : Int), .string l.pa, .string l.tx, .int .i64 (l.n : Int), .int .i64 (l.m : Int)] 67)).drew := ⟨_, rfl⟩
  have hx2 : V.cell? ⟨bx, 0, none⟩ = some (.pointer (some ⟨P, 0, none⟩)) := by rw [hV]; exact hx2
  have ct : V.cell? ⟨P, 2 + l.r, none⟩ = some (.string t) := by rw [hV]; exact ct
  have cu : V.cell? ⟨P, 2 + l.s, none⟩ = some (.string u) := by rw [hV]; exact cu
  have q2 : V.cell? ⟨w.heap.size, 2, none⟩ = some (.int .i64 (l.s : Int)) := by rw [hV]; exact q2
  have q1 : V.cell? ⟨w.heap.size, 1, none⟩ = some (.int .i64 (l.r : Int)) := by rw [hV]; exact q1
  rw [← hV] at HP
  refine wp_region_still_tail 18 (by kernel_rfl) (by kernel_rfl) ?_
  simp only [List.take_succ_cons, List.take_zero, List.drop_succ_cons, List.drop_zero]
  change wpStill _ _ (w.alloc (.cells #[.string l.wd, .int .i64 (l.r : Int), .int .i64 (l.s : Int), .string l.pa, .string l.tx, .int .i64 (l.n : Int), .int .i64 (l.m : Int)] 67)).drew (fun a' => wpList _ _ _ _ a' (w.alloc (.cells #[.string l.wd, .int .i64 (l.r : Int), .int .i64 (l.s : Int), .string l.pa, .string l.tx, .int .i64 (l.n : Int), .int .i64 (l.m : Int)] 67)).drew) _ _
  rw [← hV]
  clear hV
  repeat still_step
  refine wpStill_nil ?_
  go_wp2_with (first
    | (go_at_call 68; refine HP.out.mono ?_; rintro e w1 ⟨rfl, H1⟩)
    | go_in)
  go_end0
  exact ⟨rfl, H1.out⟩

set_option maxHeartbeats 2000000 in
set_option maxRecDepth 100000 in
theorem deed_same (m : Mc) (P bx : Nat) (l : Ln) (t u : ByteArray) (w : World) (h : McAt w P m) (hx : w.cell? ⟨bx, 0, none⟩ = some (.pointer (some ⟨P, 0, none⟩))) (hf : m.fuel ≤ 1000000) (hr : l.r < 8) (hs : l.s < 8) (ht : m.tx[l.r]? = some t) (hu : m.tx[l.s]? = some u) :
    Calls Tryz.prog 83 #[.agg (lnC l), .pointer (some ⟨bx, 0, none⟩)] w fun e w' => e = .returned (.tuple #[]) ∧ ∃ b : Bool, (b = true ↔ t.data.toList = u.data.toList) ∧ McAt w' P (goM m b l.n) ∧ UpB P w w' := by
  have hbl : bx < w.heap.size := World.block_lt_of_cell? w ⟨bx, 0, none⟩ hx
  obtain ⟨W, hW⟩ : ∃ W, W = w.alloc (.cells (lnC l) 67) := ⟨_, rfl⟩
  have hb : Below w.heap.size w W := by rw [hW]; exact (Below.refl _ w).alloc (Nat.le_refl _) _
  have hP := fun b : Bool => goIf_any m P b l.n W.drew ⟨(h.below hb).at_, h.len⟩ hf
  have HP : Hid (∀ b : Bool, Calls Tryz.prog 84 #[.pointer (some ⟨P, 0, none⟩), .bool b, .int .i64 (l.n : Int)] W.drew fun e w' => e = .returned (.tuple #[]) ∧ Hid (McAt w' P (goM m b l.n) ∧ UpB P w w')) := fun b => (hP b).mono fun e w' q => ⟨q.1, q.2.1, (UpB.of_below hb).trans ⟨q.2.2.os, q.2.2.tape, q.2.2.output, q.2.2.size, q.2.2.block⟩⟩
  have hx2 : W.cell? ⟨bx, 0, none⟩ = some (.pointer (some ⟨P, 0, none⟩)) := (hb.cell (p := ⟨bx, 0, none⟩) hbl).trans hx
  have ct : W.cell? ⟨P, 2 + l.r, none⟩ = some (.string t) := ((h.below hb).cell _).trans (mcL_lo l.r t ht)
  have cu : W.cell? ⟨P, 2 + l.s, none⟩ = some (.string u) := ((h.below hb).cell _).trans (mcL_lo l.s u hu)
  have hL : W.heap[w.heap.size]? = some (.cells (lnC l) 67 (0, 0)) := by rw [hW]; exact heap_alloc_new w _
  have q2 : W.cell? ⟨w.heap.size, 2, none⟩ = some (.int .i64 (l.s : Int)) := by rw [Lib.cell_of_heap hL]; rfl
  have q1 : W.cell? ⟨w.heap.size, 1, none⟩ = some (.int .i64 (l.r : Int)) := by rw [Lib.cell_of_heap hL]; rfl
  have q5 : W.cell? ⟨w.heap.size, 5, none⟩ = some (.int .i64 (l.n : Int)) := by rw [Lib.cell_of_heap hL]; rfl
  have hri : (l.r : Int) < 8 := by omega
  have hsi : (l.s : Int) < 8 := by omega
  rw [hW] at HP hx2 ct cu q2 q1 q5
  clear h hf ht hu hP hb hW hx hL hbl hr hs
  unfold lnC at *
  go_enter Tryz.func83, Tryz.ntmps83
  go_wp2
  obtain ⟨V, hV⟩ : ∃ V, V = (w.alloc (.cells #[.string l.wd, .int .i64 (l.r : Int), .int .i64 (l.s : Int), .string l.pa, .string l.tx, .int .i64 (l.n : Int), .int .i64 (l.m : Int)] 67)).drew := ⟨_, rfl⟩
  have hx2 : V.cell? ⟨bx, 0, none⟩ = some (.pointer (some ⟨P, 0, none⟩)) := by rw [hV]; exact hx2
  have ct : V.cell? ⟨P, 2 + l.r, none⟩ = some (.string t) := by rw [hV]; exact ct
  have cu : V.cell? ⟨P, 2 + l.s, none⟩ = some (.string u) := by rw [hV]; exact cu
  have q2 : V.cell? ⟨w.heap.size, 2, none⟩ = some (.int .i64 (l.s : Int)) := by rw [hV]; exact q2
  have q1 : V.cell? ⟨w.heap.size, 1, none⟩ = some (.int .i64 (l.r : Int)) := by rw [hV]; exact q1
  have q5 : V.cell? ⟨w.heap.size, 5, none⟩ = some (.int .i64 (l.n : Int)) := by rw [hV]; exact q5
  rw [← hV] at HP
  refine wp_region_still_tail 18 (by kernel_rfl) (by kernel_rfl) ?_
  simp only [List.take_succ_cons, List.take_zero, List.drop_succ_cons, List.drop_zero]
  change wpStill _ _ (w.alloc (.cells #[.string l.wd, .int .i64 (l.r : Int), .int .i64 (l.s : Int), .string l.pa, .string l.tx, .int .i64 (l.n : Int), .int .i64 (l.m : Int)] 67)).drew (fun a' => wpList _ _ _ _ a' (w.alloc (.cells #[.string l.wd, .int .i64 (l.r : Int), .int .i64 (l.s : Int), .string l.pa, .string l.tx, .int .i64 (l.n : Int), .int .i64 (l.m : Int)] 67)).drew) _ _
  rw [← hV]
  clear hV
  repeat still_step
  refine wpStill_nil ?_
  go_wp2_with (first
    | (go_at_call 84; refine (HP.out _).mono ?_; rintro e w1 ⟨rfl, H1⟩)
    | go_in)
  go_end0
  exact ⟨rfl, _, by simp [Lib.toList_data], H1.out⟩

set_option maxHeartbeats 2000000 in
set_option maxRecDepth 100000 in
theorem deed_less (m : Mc) (P bx : Nat) (l : Ln) (t u : ByteArray) (w : World) (h : McAt w P m) (hx : w.cell? ⟨bx, 0, none⟩ = some (.pointer (some ⟨P, 0, none⟩))) (hf : m.fuel ≤ 1000000) (hr : l.r < 8) (hs : l.s < 8) (ht : m.tx[l.r]? = some t) (hu : m.tx[l.s]? = some u) :
    Calls Tryz.prog 85 #[.agg (lnC l), .pointer (some ⟨bx, 0, none⟩)] w fun e w' => e = .returned (.tuple #[]) ∧ ∃ b : Bool, (b = true ↔ t.data.toList < u.data.toList) ∧ McAt w' P (goM m b l.n) ∧ UpB P w w' := by
  have hbl : bx < w.heap.size := World.block_lt_of_cell? w ⟨bx, 0, none⟩ hx
  obtain ⟨W, hW⟩ : ∃ W, W = w.alloc (.cells (lnC l) 67) := ⟨_, rfl⟩
  have hb : Below w.heap.size w W := by rw [hW]; exact (Below.refl _ w).alloc (Nat.le_refl _) _
  have hP := fun b : Bool => goIf_any m P b l.n W.drew ⟨(h.below hb).at_, h.len⟩ hf
  have HP : Hid (∀ b : Bool, Calls Tryz.prog 84 #[.pointer (some ⟨P, 0, none⟩), .bool b, .int .i64 (l.n : Int)] W.drew fun e w' => e = .returned (.tuple #[]) ∧ Hid (McAt w' P (goM m b l.n) ∧ UpB P w w')) := fun b => (hP b).mono fun e w' q => ⟨q.1, q.2.1, (UpB.of_below hb).trans ⟨q.2.2.os, q.2.2.tape, q.2.2.output, q.2.2.size, q.2.2.block⟩⟩
  have hx2 : W.cell? ⟨bx, 0, none⟩ = some (.pointer (some ⟨P, 0, none⟩)) := (hb.cell (p := ⟨bx, 0, none⟩) hbl).trans hx
  have ct : W.cell? ⟨P, 2 + l.r, none⟩ = some (.string t) := ((h.below hb).cell _).trans (mcL_lo l.r t ht)
  have cu : W.cell? ⟨P, 2 + l.s, none⟩ = some (.string u) := ((h.below hb).cell _).trans (mcL_lo l.s u hu)
  have hL : W.heap[w.heap.size]? = some (.cells (lnC l) 67 (0, 0)) := by rw [hW]; exact heap_alloc_new w _
  have q2 : W.cell? ⟨w.heap.size, 2, none⟩ = some (.int .i64 (l.s : Int)) := by rw [Lib.cell_of_heap hL]; rfl
  have q1 : W.cell? ⟨w.heap.size, 1, none⟩ = some (.int .i64 (l.r : Int)) := by rw [Lib.cell_of_heap hL]; rfl
  have q5 : W.cell? ⟨w.heap.size, 5, none⟩ = some (.int .i64 (l.n : Int)) := by rw [Lib.cell_of_heap hL]; rfl
  have hri : (l.r : Int) < 8 := by omega
  have hsi : (l.s : Int) < 8 := by omega
  rw [hW] at HP hx2 ct cu q2 q1 q5
  clear h hf ht hu hP hb hW hx hL hbl hr hs
  unfold lnC at *
  go_enter Tryz.func85, Tryz.ntmps85
  go_wp2
  obtain ⟨V, hV⟩ : ∃ V, V = (w.alloc (.cells #[.string l.wd, .int .i64 (l.r : Int), .int .i64 (l.s : Int), .string l.pa, .string l.tx, .int .i64 (l.n : Int), .int .i64 (l.m : Int)] 67)).drew := ⟨_, rfl⟩
  have hx2 : V.cell? ⟨bx, 0, none⟩ = some (.pointer (some ⟨P, 0, none⟩)) := by rw [hV]; exact hx2
  have ct : V.cell? ⟨P, 2 + l.r, none⟩ = some (.string t) := by rw [hV]; exact ct
  have cu : V.cell? ⟨P, 2 + l.s, none⟩ = some (.string u) := by rw [hV]; exact cu
  have q2 : V.cell? ⟨w.heap.size, 2, none⟩ = some (.int .i64 (l.s : Int)) := by rw [hV]; exact q2
  have q1 : V.cell? ⟨w.heap.size, 1, none⟩ = some (.int .i64 (l.r : Int)) := by rw [hV]; exact q1
  have q5 : V.cell? ⟨w.heap.size, 5, none⟩ = some (.int .i64 (l.n : Int)) := by rw [hV]; exact q5
  rw [← hV] at HP
  refine wp_region_still_tail 18 (by kernel_rfl) (by kernel_rfl) ?_
  simp only [List.take_succ_cons, List.take_zero, List.drop_succ_cons, List.drop_zero]
  change wpStill _ _ (w.alloc (.cells #[.string l.wd, .int .i64 (l.r : Int), .int .i64 (l.s : Int), .string l.pa, .string l.tx, .int .i64 (l.n : Int), .int .i64 (l.m : Int)] 67)).drew (fun a' => wpList _ _ _ _ a' (w.alloc (.cells #[.string l.wd, .int .i64 (l.r : Int), .int .i64 (l.s : Int), .string l.pa, .string l.tx, .int .i64 (l.n : Int), .int .i64 (l.m : Int)] 67)).drew) _ _
  rw [← hV]
  clear hV
  repeat still_step
  refine wpStill_nil ?_
  go_wp2_with (first
    | (go_at_call 84; refine (HP.out _).mono ?_; rintro e w1 ⟨rfl, H1⟩)
    | go_in)
  go_end0
  exact ⟨rfl, _, by rw [bytesLess_eq, Lib.toList_data, Lib.toList_data]; exact decide_eq_true_iff, H1.out⟩

set_option maxHeartbeats 2000000 in
set_option maxRecDepth 100000 in
theorem deed_run (m : Mc) (P bx n : Nat) (L : List Fl) (l : Ln) (t : ByteArray) (w : World) (h : McAt w P m) (hx : w.cell? ⟨bx, 0, none⟩ = some (.pointer (some ⟨P, 0, none⟩))) (hf : m.fuel ≤ 1000000) (hr : l.r < 8) (ht : m.tx[l.r]? = some t) (hts : t.size ≤ 1000000) (hps : l.pa.size ≤ 1000000)
    (ho : w.ownsMap Tryz.prog 9 fileE m.mp n (byD L)) (hn : (L.map pth).Nodup) (hnn : n ≤ 1000000) (hne : m.mp ≠ P) (hbp : bx ≠ P) :
    Calls Tryz.prog 82 #[.agg (lnC l), .pointer (some ⟨bx, 0, none⟩)] w fun e w' => e = .returned (.tuple #[]) ∧ McAt w' P (mkM m L ⟨l.pa, t, true⟩) ∧ (∃ n', n' ≤ n + 1 ∧ w'.ownsMap Tryz.prog 9 fileE m.mp n' (mkD m L ⟨l.pa, t, true⟩ (byD L))) ∧ UpC P m.mp w w' := by
  have hbl : bx < w.heap.size := World.block_lt_of_cell? w ⟨bx, 0, none⟩ hx
  obtain ⟨W, hW⟩ : ∃ W, W = w.alloc (.cells (lnC l) 67) := ⟨_, rfl⟩
  have hb : Below w.heap.size w W := by rw [hW]; exact (Below.refl _ w).alloc (Nat.le_refl _) _
  have hMl := ho.lt
  have hM := makeFile_any m P n L ⟨l.pa, t, true⟩ W.drew ⟨(h.below hb).at_, h.len⟩ (ownsMap_heap ho (hb.block _ hMl)) hn hnn hne hps hts hf
  have hx2 : W.cell? ⟨bx, 0, none⟩ = some (.pointer (some ⟨P, 0, none⟩)) := (hb.cell (p := ⟨bx, 0, none⟩) hbl).trans hx
  have ct : W.cell? ⟨P, 2 + l.r, none⟩ = some (.string t) := ((h.below hb).cell _).trans (mcL_lo l.r t ht)
  have hL : W.heap[w.heap.size]? = some (.cells (lnC l) 67 (0, 0)) := by rw [hW]; exact heap_alloc_new w _
  have q3 : W.cell? ⟨w.heap.size, 3, none⟩ = some (.string l.pa) := by rw [Lib.cell_of_heap hL]; rfl
  have q1 : W.cell? ⟨w.heap.size, 1, none⟩ = some (.int .i64 (l.r : Int)) := by rw [Lib.cell_of_heap hL]; rfl
  have hsz : W.heap.size = w.heap.size + 1 := by rw [hW]; exact World.size_alloc _ _
  have hPl := h.lt
  have hbm : bx ≠ m.mp := map_no_cell ho hx
  have HM : Hid (Calls Tryz.prog 81 #[.pointer (some ⟨P, 0, none⟩), .agg #[.string l.pa, .string t, .bool true]] W.drew fun e w' => e = .returned (.tuple #[]) ∧ (w'.cell? ⟨bx, 0, none⟩ = some (.pointer (some ⟨P, 0, none⟩)) ∧ w'.cell? ⟨P, 2 + l.r, none⟩ = some (.string t) ∧ w'.cell? ⟨w.heap.size, 3, none⟩ = some (.string l.pa) ∧ w'.cell? ⟨w.heap.size, 1, none⟩ = some (.int .i64 (l.r : Int))) ∧ Hid (McAt w' P (mkM m L ⟨l.pa, t, true⟩) ∧ (∃ n', n' ≤ n + 1 ∧ w'.ownsMap Tryz.prog 9 fileE m.mp n' (mkD m L ⟨l.pa, t, true⟩ (byD L))) ∧ UpC P m.mp w w')) := hM.mono fun e w' q => by
    obtain ⟨q0, k1, k2, k3⟩ := q
    have hLn : w'.heap[w.heap.size]? = some (.cells (lnC l) 67 (0, 0)) := (k3.block w.heap.size (by show w.heap.size < W.heap.size; omega) (by omega) (by omega)).trans hL
    refine ⟨q0, ⟨?_, ?_, ?_, ?_⟩, k1, k2, ⟨k3.os.trans hb.os, k3.tape.trans hb.tape, k3.output.trans hb.output, Nat.le_trans hb.size k3.size, fun g hg h1 h2 => (k3.block g (Nat.lt_of_lt_of_le hg hb.size) h1 h2).trans (hb.block g hg)⟩⟩
    · exact (cell_same (w := W) (k3.block bx (by show bx < W.heap.size; omega) hbp hbm) 0).trans hx2
    · exact (k1.cell _).trans (mcL_lo l.r t (by rw [mkM_tx]; exact ht))
    · rw [Lib.cell_of_heap hLn]; rfl
    · rw [Lib.cell_of_heap hLn]; rfl
  have hri : (l.r : Int) < 8 := by omega
  rw [hW] at HM hx2 ct q3 q1
  have HS : Hid ((w.alloc (.cells (lnC l) 67)).drew.cell? ⟨bx, 0, none⟩ = some (.pointer (some ⟨P, 0, none⟩)) ∧ (w.alloc (.cells (lnC l) 67)).drew.cell? ⟨P, 2 + l.r, none⟩ = some (.string t) ∧ (w.alloc (.cells (lnC l) 67)).drew.cell? ⟨w.heap.size, 3, none⟩ = some (.string l.pa) ∧ (w.alloc (.cells (lnC l) 67)).drew.cell? ⟨w.heap.size, 1, none⟩ = some (.int .i64 (l.r : Int))) := ⟨hx2, ct, q3, q1⟩
  clear h hf ht hM hb hW hx hL ho hn hnn hne hbl hMl hsz hPl hbm hbp hr hts hps
  unfold lnC at *
  go_enter Tryz.func82, Tryz.ntmps82
  go_wp2
  go_region_held3 (fun V => V.cell? ⟨bx, 0, none⟩ = some (.pointer (some ⟨P, 0, none⟩)) ∧ V.cell? ⟨P, 2 + l.r, none⟩ = some (.string t) ∧ V.cell? ⟨w.heap.size, 3, none⟩ = some (.string l.pa) ∧ V.cell? ⟨w.heap.size, 1, none⟩ = some (.int .i64 (l.r : Int))) (first | assumption | exact HS.out | go_keep) (first
    | (go_at_call 81; refine HM.out.mono ?_; rintro e w1 ⟨rfl, hS1, H1⟩)
    | fail)
  all_goals
    go_wp2
    go_end0
    exact ⟨rfl, H1.out⟩

/-- Bytes are cut out. -/
def cutM (s : ByteArray) (a b : Nat) : ByteArray := s.extract (min a (min b s.size)) (min b s.size)

set_option maxHeartbeats 1000000 in
set_option maxRecDepth 100000 in
theorem cut_any (s : ByteArray) (a b : Nat) (w : World) (hs : s.size ≤ 1000000) :
    Calls Tryz.prog 75 #[.string s, .int .i64 (a : Int), .int .i64 (b : Int)] w fun e w' => e = .returned (.string (cutM s a b)) ∧ w' = w := by
  unfold cutM
  have hsz9 : (s.size : Int) ≤ 9223372036854775807 := by omega
  obtain ⟨c, hc⟩ : ∃ c : Nat, min b s.size = c := ⟨_, rfl⟩
  obtain ⟨d, hd⟩ : ∃ d : Nat, min a c = d := ⟨_, rfl⟩
  rw [hc, hd]
  have e1 : min (b : Int) (s.size : Int) = (c : Int) := by omega
  have e2 : min (a : Int) (c : Int) = (d : Int) := by omega
  have e3 : d ≤ c := by omega
  have e4 : c ≤ s.size := by omega
  have e5 : (d : Int) ≤ (c : Int) := by omega
  have e6 : (c : Int) ≤ (s.size : Int) := by omega
  clear hc hd hs
  go_enter Tryz.func75, Tryz.ntmps75
  go_wp2
  go_ret
  exact ⟨rfl, rfl⟩

set_option maxHeartbeats 2000000 in
set_option maxRecDepth 100000 in
theorem deed_cut (m : Mc) (P bx : Nat) (l : Ln) (t : ByteArray) (w : World) (h : McAt w P m) (hx : w.cell? ⟨bx, 0, none⟩ = some (.pointer (some ⟨P, 0, none⟩))) (hf : m.fuel ≤ 1000000) (hr : l.r < 8) (ht : m.tx[l.r]? = some t) (hz : t.size ≤ 1000000) :
    Calls Tryz.prog 74 #[.agg (lnC l), .pointer (some ⟨bx, 0, none⟩)] w fun e w' => e = .returned (.tuple #[]) ∧ McAt w' P (putM m l.r (cutM t l.n l.m)) ∧ UpB P w w' := by
  have hbl : bx < w.heap.size := World.block_lt_of_cell? w ⟨bx, 0, none⟩ hx
  obtain ⟨W, hW⟩ : ∃ W, W = w.alloc (.cells (lnC l) 67) := ⟨_, rfl⟩
  have hb : Below w.heap.size w W := by rw [hW]; exact (Below.refl _ w).alloc (Nat.le_refl _) _
  have hP := put_any m P l.r (cutM t l.n l.m) W.drew ⟨(h.below hb).at_, h.len⟩ hf hr (by unfold cutM; simp; omega)
  have HP : Hid (Calls Tryz.prog 68 #[.pointer (some ⟨P, 0, none⟩), .int .i64 (l.r : Int), .string (cutM t l.n l.m)] W.drew fun e w' => e = .returned (.tuple #[]) ∧ Hid (McAt w' P (putM m l.r (cutM t l.n l.m)) ∧ UpB P w w')) := hP.mono fun e w' q => ⟨q.1, q.2.1, (UpB.of_below hb).trans ⟨q.2.2.os, q.2.2.tape, q.2.2.output, q.2.2.size, q.2.2.block⟩⟩
  have hx2 : W.cell? ⟨bx, 0, none⟩ = some (.pointer (some ⟨P, 0, none⟩)) := (hb.cell (p := ⟨bx, 0, none⟩) hbl).trans hx
  have ct : W.cell? ⟨P, 2 + l.r, none⟩ = some (.string t) := ((h.below hb).cell _).trans (mcL_lo l.r t ht)
  have HC : Hid (∀ V : World, Calls Tryz.prog 75 #[.string t, .int .i64 (l.n : Int), .int .i64 (l.m : Int)] V fun e w' => e = .returned (.string (cutM t l.n l.m)) ∧ w' = V) := fun V => cut_any t l.n l.m V hz
  have hL : W.heap[w.heap.size]? = some (.cells (lnC l) 67 (0, 0)) := by rw [hW]; exact heap_alloc_new w _
  have q5 : W.cell? ⟨w.heap.size, 5, none⟩ = some (.int .i64 (l.n : Int)) := by rw [Lib.cell_of_heap hL]; rfl
  have q6 : W.cell? ⟨w.heap.size, 6, none⟩ = some (.int .i64 (l.m : Int)) := by rw [Lib.cell_of_heap hL]; rfl
  have q1 : W.cell? ⟨w.heap.size, 1, none⟩ = some (.int .i64 (l.r : Int)) := by rw [Lib.cell_of_heap hL]; rfl
  have hri : (l.r : Int) < 8 := by omega
  rw [hW] at HP hx2 ct q5 q6 q1
  clear h hf ht hP hb hW hx hL hbl hr hz
  unfold lnC at *
  go_enter Tryz.func74, Tryz.ntmps74
  go_wp2
  obtain ⟨V, hV⟩ : ∃ V, V = (w.alloc (.cells #[.string l.wd, .int .i64 (l.r : Int), .int .i64 (l.s : Int), .string l.pa, .string l.tx, .int .i64 (l.n : Int), .int .i64 (l.m : Int)] 67)).drew := ⟨_, rfl⟩
  have hx2 : V.cell? ⟨bx, 0, none⟩ = some (.pointer (some ⟨P, 0, none⟩)) := by rw [hV]; exact hx2
  have ct : V.cell? ⟨P, 2 + l.r, none⟩ = some (.string t) := by rw [hV]; exact ct
  have q5 : V.cell? ⟨w.heap.size, 5, none⟩ = some (.int .i64 (l.n : Int)) := by rw [hV]; exact q5
  have q6 : V.cell? ⟨w.heap.size, 6, none⟩ = some (.int .i64 (l.m : Int)) := by rw [hV]; exact q6
  have q1 : V.cell? ⟨w.heap.size, 1, none⟩ = some (.int .i64 (l.r : Int)) := by rw [hV]; exact q1
  rw [← hV] at HP
  refine wp_region_still_tail 15 (by kernel_rfl) (by kernel_rfl) ?_
  simp only [List.take_succ_cons, List.take_zero, List.drop_succ_cons, List.drop_zero]
  change wpStill _ _ (w.alloc (.cells #[.string l.wd, .int .i64 (l.r : Int), .int .i64 (l.s : Int), .string l.pa, .string l.tx, .int .i64 (l.n : Int), .int .i64 (l.m : Int)] 67)).drew (fun a' => wpList _ _ _ _ a' (w.alloc (.cells #[.string l.wd, .int .i64 (l.r : Int), .int .i64 (l.s : Int), .string l.pa, .string l.tx, .int .i64 (l.n : Int), .int .i64 (l.m : Int)] 67)).drew) _ _
  rw [← hV]
  clear hV
  repeat still_step
  still_call (HC.out _)
  refine wpStill_nil ?_
  go_wp2_with (first
    | (go_at_call 68; refine HP.out.mono ?_; rintro e w1 ⟨rfl, H1⟩)
    | go_in)
  go_end0
  exact ⟨rfl, H1.out⟩
end Go.Proofs.YtapiedeekbfpnaaGreatDoor

/- A machine comes to an end: each deed burns, or ends it. -/
namespace Go.Proofs.YtapiedeekbfpnaaGreatDoor
open Go.RowKit Go.Shelf

/-- There is less fuel, or it has ended; never more fuel, and as many registers. -/
def Goes (m m' : Mc) : Prop := (m'.fuel < m.fuel ∨ m'.ended = true) ∧ m'.fuel ≤ m.fuel ∧ m'.tx.length = m.tx.length ∧ m'.mp = m.mp ∧ m'.fv = m.fv
theorem burn_goes (m : Mc) (b : Nat) : Goes m (burnM m b).1 := by
  unfold burnM
  split
  · exact ⟨.inr rfl, Nat.zero_le _, rfl, rfl, rfl⟩
  · refine ⟨.inl ?_, ?_, rfl, rfl, rfl⟩
    · show m.fuel - (1 + b / 16) < m.fuel
      omega
    · show m.fuel - (1 + b / 16) ≤ m.fuel
      omega
theorem end_goes (m : Mc) (c : Nat) : Goes m (endM m c) := by
  unfold endM
  have h := burn_goes m 0
  split
  · exact ⟨.inr rfl, h.2.1, h.2.2.1, h.2.2.2.1, h.2.2.2.2⟩
  · exact h
theorem put_goes (m : Mc) (r : Nat) (t : ByteArray) : Goes m (putM m r t) := by
  unfold putM
  have h := burn_goes m t.size
  split
  · exact end_goes m 102
  · split
    · refine ⟨h.1, h.2.1, ?_, h.2.2.2.1, h.2.2.2.2⟩
      show ((burnM m t.size).1.tx.set r t).length = _
      rw [List.length_set]
      exact h.2.2.1
    · exact h
theorem go_goes (m : Mc) (b : Bool) (n : Nat) : Goes m (goM m b n) := by
  unfold goM
  have h := burn_goes m 0
  split
  · exact ⟨h.1, h.2.1, h.2.2.1, h.2.2.2.1, h.2.2.2.2⟩
  · exact h
theorem mk_goes (m : Mc) (L : List Fl) (f : Fl) : Goes m (mkM m L f) := by
  unfold mkM
  split
  · exact burn_goes m _
  · exact end_goes m 103
end Go.Proofs.YtapiedeekbfpnaaGreatDoor

/- Arrays of numbers, as they lie in blocks. -/
namespace Go.Proofs.YtapiedeekbfpnaaGreatDoor
open Go.RowKit

/-- An array of these numbers. -/
def nums (l : List Int) : List Value := l.map (Value.int .u32)
def arr (l : List Int) : Value := .agg (nums l).toArray
/-- It lies whole in block b, which is of type T. -/
def ArrAt (w : World) (b : Nat) (T : TypeId) (l : List Int) : Prop := w.heap[b]? = some (.cells (nums l).toArray T (0, 0))

theorem ArrAt.set {w : World} {b : Nat} {T : TypeId} {l : List Int} (h : ArrAt w b T l) (k : Nat) (v : Int) : ArrAt (w.setCell ⟨b, k, none⟩ (.int .u32 v)) b T (l.set k v) := by
  have := heap_setCell_same w b k _ T (.int .u32 v) h
  unfold ArrAt nums at *
  rw [this]
  congr 2
  apply Array.toList_inj.1
  simp [List.map_set]
theorem ArrAt.other {w : World} {b b' : Nat} {T : TypeId} {l : List Int} (h : ArrAt w b T l) (k : Nat) (v : Value) (hb : b ≠ b') : ArrAt (w.setCell ⟨b', k, none⟩ v) b T l := by
  unfold ArrAt at *
  rw [Below.heap_setCell w ⟨b', k, none⟩ v b hb]
  exact h
theorem ArrAt.cell {w : World} {b : Nat} {T : TypeId} {l : List Int} (h : ArrAt w b T l) (k : Nat) (hk : k < l.length) : w.cell? ⟨b, k, none⟩ = some (.int .u32 l[k]) := by
  rw [Lib.cell_of_heap h]
  simp [nums, hk]
theorem ArrAt.fro {w : World} {b : Nat} {T : TypeId} {l : List Int} (h : ArrAt w b T l) (k : Nat) : w.frozen? ⟨b, k, none⟩ = false := Lib.frozen_of_heap h k
theorem ArrAt.up {B : Nat} {w w' : World} {b : Nat} {T : TypeId} {l : List Int} (h : ArrAt w b T l) (hb : Below B w w') (hB : b < B) : ArrAt w' b T l := (hb.block b hB).trans h
theorem ArrAt.new (w : World) (T : TypeId) (l : List Int) : ArrAt (w.alloc (.cells (nums l).toArray T)) w.heap.size T l := heap_alloc_new w _

theorem take_set (l : List Int) (k : Nat) (v : Int) (hk : k < l.length) : (l.set k v).take (k + 1) = l.take k ++ [v] := by
  rw [List.take_succ_eq_append_getElem (by simpa using hk), List.getElem_set_self, List.take_set]
  congr 1
  exact List.set_eq_of_length_le (by rw [List.length_take]; omega)
theorem get_take (l m : List Int) (k j : Nat) (h : l.take k = m) (hj : j < k) (hl : j < l.length) : l[j] = m.getD j 0 := by
  rw [← h, List.getD, List.getElem?_take, if_pos hj, List.getElem?_eq_getElem hl]
  rfl

theorem nums_len (l : List Int) : (nums l).length = l.length := by simp [nums]
theorem ArrAt.range {w : World} {b : Nat} {T : TypeId} {l : List Int} (h : ArrAt w b T l) : w.rangeAt b 0 (nums l) := fun j v hv => by
  rw [Nat.zero_add, Lib.cell_of_heap h]
  simpa using hv
theorem ArrAt.there {w : World} {b : Nat} {T : TypeId} {l : List Int} (h : ArrAt w b T l) (n : Nat) (hn : n = l.length) : w.there b 0 n := fun j hj => by
  subst hn
  rw [Nat.zero_add]
  exact ⟨by rw [h.cell j hj]; rfl, h.fro j⟩
theorem nums_one (l : List Int) : (nums l).toArray.all (·.oneCell') = true := all_oneCell_toArray fun v hv => by
  obtain ⟨n, _, rfl⟩ := List.mem_map.1 hv
  rfl
theorem results_one {fn : Func} {p : Tmp} {ty : TypeId} {P : Program} {b : Nat} {v : Value} (h : fn.results = #[.cell p ty]) (tmps : Array Value) (w : World) (hp : tmps.getD p undef = .pointer (some ⟨b, 0, none⟩)) (hl : (loadVar ty ⟨b, 0, none⟩).run P w = .ok v w) : (results fn tmps).run P w = .ok v w := by
  have hp2 : tmps[p]?.getD undef = .pointer (some ⟨b, 0, none⟩) := by simpa using hp
  simp [results, h, hp2, hl, asAddr]
theorem below_setCells {B b : Nat} (hb : B ≤ b) : ∀ (vs : List Value) (o : Nat) {w w' : World}, Below B w w' → Below B w (w'.setCells b o vs)
  | [], _, _, _, h => h
  | v :: vs, o, _, _, h => below_setCells hb vs (o + 1) (h.setCell (p := ⟨b, o, none⟩) hb v)
theorem wpList_store_any {P : Program} {ops : Array Oper} {rest : List Oper} {op : Oper} {a : Act} {w : World} {Q : Exit → Act → World → Prop} (hgd : op.guard = none) (ty : TypeId) (x y : Operand) (ho : op.op = .store ty x y)
    (b o : Nat) (cells : Array Value) (hx : a.eval x = .pointer (some ⟨b, o, none⟩)) (hy : a.eval y = .agg cells)
    (ht : w.there b o cells.size) (hi : (P.info? ty).map (·.size) = some cells.size) (h1 : cells.all (·.oneCell') = true) (F : World → Prop) (hF : F (w.setCells b o cells.toList))
    (h : ∀ W, F W → wpList P ops Q rest (a.put op.dst undef) W) : wpList P ops Q (op :: rest) a w :=
  wpList_store_mid hgd ty x y ho b o cells hx hy ht hi h1 (h _ hF)
end Go.Proofs.YtapiedeekbfpnaaGreatDoor

/- The digest's own sum: what each step of it does. -/
namespace Go.Proofs.YtapiedeekbfpnaaGreatDoor
open Go.RowKit

def rotR (x : Int) (n : Nat) : Int := bits .or .u32 (IntKind.u32.wrap (x * 2 ^ (32 - n))) (x / 2 ^ n)

theorem rot_and : ∀ n : Nat, n < 32 → 1 ≤ n → bits .and .u64 (IntKind.u64.wrap (-(n : Int))) 31 = ((32 - n : Nat) : Int) := by decide

set_option maxHeartbeats 1000000 in
theorem rl_any (x : Int) (n : Nat) (w : World) (h1 : 1 ≤ n) (h2 : n ≤ 31) :
    Calls Tryz.prog 163 #[.int .u32 x, .int .i64 (-(n : Int))] w fun e w' => e = .returned (.int .u32 (rotR x n)) ∧ w' = w := by
  have hb := rot_and n (by omega) h1
  obtain ⟨m, hm⟩ : ∃ m, m = 32 - n := ⟨_, rfl⟩
  rw [← hm] at hb
  have hs1 : Op.shift .shl .u32 x .u64 (m : Int) = pure (.int .u32 (IntKind.u32.wrap (x * 2 ^ m))) := by
    rw [shift_shl _ _ _ _ (by omega) (by show (m : Int) ≤ 32; omega)]
    rfl
  have hs2 : Op.shift .shr .u32 x .u64 (n : Int) = pure (.int .u32 (x / 2 ^ n)) := by
    rw [shift_shr _ _ _ _ (by omega) (by show (n : Int) ≤ 32; omega)]
    rfl
  have hw : IntKind.u64.wrap (32 - (m : Int)) = n := by rw [IntKind.wrap_u64]; omega
  have HR : Hid (rotR x n = bits .or .u32 (IntKind.u32.wrap (x * 2 ^ m)) (x / 2 ^ n)) := by show _ = _; unfold rotR; rw [hm]
  clear hm h1 h2
  go_enter Tryz.func163, Tryz.ntmps163
  go_wp2
  go_ret
  exact ⟨by rw [HR.out]; rfl, rfl⟩

set_option maxHeartbeats 1000000 in
theorem turned_any (x : Int) (n : Nat) (w : World) (h1 : 1 ≤ n) (h2 : n ≤ 31) :
    Calls Tryz.prog 139 #[.int .u32 x, .int .i64 n] w fun e w' => e = .returned (.int .u32 (rotR x n)) ∧ w' = w := by
  have hw : IntKind.i64.wrap (-(n : Int)) = -(n : Int) := by rw [IntKind.wrap_i64]; omega
  go_enter Tryz.func139, Tryz.ntmps139
  go_wp2_with fail
  refine (rl_any x n w h1 h2).mono ?_
  rintro e w1 ⟨rfl, rfl⟩
  go_wp2
  go_ret
  exact ⟨rfl, rfl⟩

theorem below8 {B b : Nat} {w w' : World} (h : Below B w w') (hb : B ≤ b) (v0 v1 v2 v3 v4 v5 v6 v7 : Value) : Below B w ((((((((w'.setCell ⟨b, 0, none⟩ v0).setCell ⟨b, 1, none⟩ v1).setCell ⟨b, 2, none⟩ v2).setCell ⟨b, 3, none⟩ v3).setCell ⟨b, 4, none⟩ v4).setCell ⟨b, 5, none⟩ v5).setCell ⟨b, 6, none⟩ v6).setCell ⟨b, 7, none⟩ v7) :=
  (((((((h.setCell (p := ⟨b, 0, none⟩) hb _).setCell (p := ⟨b, 1, none⟩) hb _).setCell (p := ⟨b, 2, none⟩) hb _).setCell (p := ⟨b, 3, none⟩) hb _).setCell (p := ⟨b, 4, none⟩) hb _).setCell (p := ⟨b, 5, none⟩) hb _).setCell (p := ⟨b, 6, none⟩) hb _).setCell (p := ⟨b, 7, none⟩) hb _
theorem eight {l : List Int} (h : l.length = 8) : ∃ a0 a1 a2 a3 a4 a5 a6 a7, l = [a0, a1, a2, a3, a4, a5, a6, a7] := by
  match l, h with
  | [a0, a1, a2, a3, a4, a5, a6, a7], _ => exact ⟨a0, a1, a2, a3, a4, a5, a6, a7, rfl⟩

/-- The numbers of a variable of the program lie where they were laid. -/
def LaidAt (g : Nat) (w : World) (l : List Int) : Prop := ∀ j (hj : j < l.length), w.cell? ⟨g, j, none⟩ = some (.int .u32 l[j])
theorem LaidAt.up {g B : Nat} {w w' : World} {l : List Int} (h : LaidAt g w l) (hb : Below B w w') (hB : g < B) : LaidAt g w' l := fun j hj => (hb.cell (p := ⟨g, j, none⟩) hB).trans (h j hj)

set_option maxHeartbeats 4000000 in
set_option maxRecDepth 100000 in
theorem newState_any (w : World) (sq : List Int) (hl : sq.length = 8) (hg : LaidAt 0 w sq) :
    Calls Tryz.prog 119 #[] w fun e w' => e = .returned (arr sq) ∧ Below w.heap.size w w' := by
  have hz : 0 < w.heap.size := World.block_lt_of_cell? w ⟨0, 0, none⟩ (hg 0 (by omega))
  have HG : Hid _ := hg
  clear hg
  go_enter Tryz.func119, Tryz.ntmps119
  go_wp2
  go_loopw [3] (fun i wr => ∃ (k : Nat) (l : List Int), k ≤ 8 ∧ i = .int .i64 k ∧ l.length = 8 ∧ (∀ j (hj : j < sq.length) (hj' : j < l.length), j < k → l[j] = sq[j]) ∧ ArrAt wr (w.heap.size + 1) 127 l ∧ ArrAt wr w.heap.size 127 [0, 0, 0, 0, 0, 0, 0, 0] ∧ Below w.heap.size w wr) (fun i _ => 8 - (intOf i).toNat)
  case atStart =>
    refine ⟨0, [0, 0, 0, 0, 0, 0, 0, 0], by omega, rfl, rfl, by omega, ?_, ?_, ((Below.refl _ _).alloc (Nat.le_refl _) _).alloc (by simp) _⟩
    · have := ArrAt.new (w.alloc (.cells #[.int .u32 0, .int .u32 0, .int .u32 0, .int .u32 0, .int .u32 0, .int .u32 0, .int .u32 0, .int .u32 0] 127)) 127 [0, 0, 0, 0, 0, 0, 0, 0]
      rw [World.size_alloc] at this
      exact this
    · exact (ArrAt.new w 127 [0, 0, 0, 0, 0, 0, 0, 0]).up ((Below.refl (w.heap.size + 1) _).alloc (by simp) _) (Nat.lt_succ_self _)
  case round =>
    obtain ⟨k, l, hk, rfl, hll, hlo, hA, hR, hb⟩ := hrel
    have HLO : Hid _ := hlo
    have HA : Hid (ArrAt wr (w.heap.size + 1) 127 l) := hA
    have HR : Hid (ArrAt wr w.heap.size 127 [0, 0, 0, 0, 0, 0, 0, 0]) := hR
    have HB : Hid (Below w.heap.size w wr) := hb
    clear hlo hA hR hb
    by_cases hlt : k < 8
    · have c0 := LaidAt.up HG.out HB.out hz k (by omega)
      have c1 := HA.out.cell k (by omega)
      have c2 := HA.out.fro k
      have i2 : (k : Int) < 8 := by omega
      go_wp2
      refine ⟨⟨k + 1, l.set k sq[k], by omega, by go_num, by simpa using hll, fun j hj hj' hjk => ?_, HA.out.set k _, HR.out.other k _ (by omega), HB.out.setCell (p := ⟨w.heap.size + 1, k, none⟩) (Nat.le_succ _) _⟩, by simp [intOf]; omega⟩
      rw [List.getElem_set]
      by_cases h : k = j
      · subst h; simp
      · rw [if_neg h]
        exact HLO.out j hj (by simpa using hj') (by omega)
    · obtain rfl : k = 8 := by omega
      obtain rfl : l = sq := List.ext_getElem (by omega) fun j h1 h2 => HLO.out j h2 h1 (by omega)
      obtain ⟨a0, a1, a2, a3, a4, a5, a6, a7, rfl⟩ := eight hl
      have c0 := HA.out.cell 0 (by simp)
      have c1 := HA.out.cell 1 (by simp)
      have c2 := HA.out.cell 2 (by simp)
      have c3 := HA.out.cell 3 (by simp)
      have c4 := HA.out.cell 4 (by simp)
      have c5 := HA.out.cell 5 (by simp)
      have c6 := HA.out.cell 6 (by simp)
      have c7 := HA.out.cell 7 (by simp)
      have z0 := HR.out.cell 0 (by decide)
      have f0 := HR.out.fro 0
      have z1 := HR.out.cell 1 (by decide)
      have f1 := HR.out.fro 1
      have z2 := HR.out.cell 2 (by decide)
      have f2 := HR.out.fro 2
      have z3 := HR.out.cell 3 (by decide)
      have f3 := HR.out.fro 3
      have z4 := HR.out.cell 4 (by decide)
      have f4 := HR.out.fro 4
      have z5 := HR.out.cell 5 (by decide)
      have f5 := HR.out.fro 5
      have z6 := HR.out.cell 6 (by decide)
      have f6 := HR.out.fro 6
      have z7 := HR.out.cell 7 (by decide)
      have f7 := HR.out.fro 7
      simp only [List.getElem_cons_zero, List.getElem_cons_succ] at c0 c1 c2 c3 c4 c5 c6 c7 z0 z1 z2 z3 z4 z5 z6 z7
      go_wp2
      refine bodyPost_ret (v := arr [a0, a1, a2, a3, a4, a5, a6, a7]) (by simp [results, Tryz.results119, go_sem, z0, z1, z2, z3, z4, z5, z6, z7, arr, nums]) rfl ⟨rfl, below8 HB.out (Nat.le_refl _) _ _ _ _ _ _ _ _⟩
end Go.Proofs.YtapiedeekbfpnaaGreatDoor

/- What the digest's own words of a block are. -/
namespace Go.Proofs.YtapiedeekbfpnaaGreatDoor
open Go.RowKit

def zeros : List Int := List.replicate 64 0
def be4 (c0 c1 c2 c3 : Int) : Int := bits .or .u32 (bits .or .u32 (bits .or .u32 (c0 % 4294967296 * 16777216 % 4294967296) (c1 % 4294967296 * 65536 % 4294967296)) (c2 % 4294967296 * 256 % 4294967296)) (c3 % 4294967296)
def sig0 (x : Int) : Int := bits .xor .u32 (bits .xor .u32 (rotR x 7) (rotR x 18)) (x / 8)
def sig1 (x : Int) : Int := bits .xor .u32 (bits .xor .u32 (rotR x 17) (rotR x 19)) (x / 1024)
def byteAt (s : ByteArray) (k : Nat) : Int := ((s.data.toList.getD k 0).toNat : Int)
/-- The word k, of those ahead of it. -/
def wnext (s : ByteArray) (l : List Int) (k : Nat) : Int :=
  if k < 16 then be4 (byteAt s (4 * k)) (byteAt s (4 * k + 1)) (byteAt s (4 * k + 2)) (byteAt s (4 * k + 3))
  else (l.getD (k - 16) 0 + sig0 (l.getD (k - 15) 0) + l.getD (k - 7) 0 + sig1 (l.getD (k - 2) 0)) % 4294967296
def ws (s : ByteArray) : Nat → List Int
  | 0 => []
  | k + 1 => ws s k ++ [wnext s (ws s k) k]
theorem ws_len (s : ByteArray) (k : Nat) : (ws s k).length = k := by
  induction k with
  | zero => rfl
  | succ k ih => simp [ws, ih]
theorem byteAt_get (s : ByteArray) (k : Nat) (hk : k < s.size) : byteAt s k = (s[k].toNat : Int) := by
  unfold byteAt
  have h : k < s.data.toList.length := by rw [Array.length_toList]; exact hk
  rw [List.getD, List.getElem?_eq_getElem h]
  rfl
theorem info64 : (Tryz.prog.info? 139).map (·.size) = some 64 := by kernel_rfl

set_option maxHeartbeats 4000000 in
set_option maxRecDepth 100000 in
theorem words_any (w : World) (s : ByteArray) (hs : s.size = 64) :
    Calls Tryz.prog 138 #[.string s] w fun e w' => e = .returned (arr (ws s 64)) ∧ Below w.heap.size w w' := by
  have HS : Hid (s.size = 64) := hs
  clear hs
  go_enter Tryz.func138, Tryz.ntmps138
  go_wp2
  go_loopw [10] (fun i wr => ∃ (k : Nat) (l : List Int), k ≤ 16 ∧ i = .int .i64 k ∧ l.length = 64 ∧ l.take k = ws s k ∧ ArrAt wr (w.heap.size + 1) 139 l ∧ ArrAt wr w.heap.size 139 zeros ∧ Below w.heap.size w wr) (fun i _ => 16 - (intOf i).toNat)
  case atStart =>
    refine ⟨0, zeros, by omega, rfl, rfl, rfl, ?_, ?_, ((Below.refl _ _).alloc (Nat.le_refl _) _).alloc (by simp) _⟩
    · have := ArrAt.new (w.alloc (.cells (nums zeros).toArray 139)) 139 zeros
      rw [World.size_alloc] at this
      exact this
    · exact (ArrAt.new w 139 zeros).up ((Below.refl (w.heap.size + 1) _).alloc (by simp) _) (Nat.lt_succ_self _)
  case round =>
    obtain ⟨k, l, hk, rfl, hll, htk, hA, hR, hb⟩ := hrel
    have HT : Hid _ := htk
    have HA : Hid (ArrAt wr (w.heap.size + 1) 139 l) := hA
    have HR : Hid (ArrAt wr w.heap.size 139 zeros) := hR
    have HB : Hid (Below w.heap.size w wr) := hb
    clear htk hA hR hb
    by_cases hlt : k < 16
    · have c1 := HA.out.cell k (by omega)
      have c2 := HA.out.fro k
      have i2 : (k : Int) < 16 := by omega
      have j0 : IntKind.i64.wrap (4 * (k : Int)) = 4 * (k : Int) := by rw [IntKind.wrap_i64]; omega
      have j1 : IntKind.i64.wrap (4 * (k : Int) + 1) = 4 * (k : Int) + 1 := by rw [IntKind.wrap_i64]; omega
      have j2 : IntKind.i64.wrap (4 * (k : Int) + 2) = 4 * (k : Int) + 2 := by rw [IntKind.wrap_i64]; omega
      have j3 : IntKind.i64.wrap (4 * (k : Int) + 3) = 4 * (k : Int) + 3 := by rw [IntKind.wrap_i64]; omega
      have b0 : (0 : Int) ≤ 4 * (k : Int) := by omega
      have b1 : (0 : Int) ≤ 4 * (k : Int) + 1 := by omega
      have b2 : (0 : Int) ≤ 4 * (k : Int) + 2 := by omega
      have b3 : (0 : Int) ≤ 4 * (k : Int) + 3 := by omega
      have d0 : 4 * (k : Int) < s.size := by have := HS.out; omega
      have d1 : 4 * (k : Int) + 1 < s.size := by have := HS.out; omega
      have d2 : 4 * (k : Int) + 2 < s.size := by have := HS.out; omega
      have d3 : 4 * (k : Int) + 3 < s.size := by have := HS.out; omega
      have t0 : (4 * (k : Int)).toNat = 4 * k := by omega
      have t1 : (4 * (k : Int) + 1).toNat = 4 * k + 1 := by omega
      have t2 : (4 * (k : Int) + 2).toNat = 4 * k + 2 := by omega
      have t3 : (4 * (k : Int) + 3).toNat = 4 * k + 3 := by omega
      go_wp2
      go_region
      go_wp2
      refine ⟨⟨k + 1, l.set k (wnext s (ws s k) k), by omega, by go_num, by simpa using hll, ?_, ?_, ?_, ?_⟩, by simp [intOf]; omega⟩
      · rw [take_set l k _ (by omega), HT.out]; rfl
      · have hv : wnext s (ws s k) k = be4 (s[4 * k].toNat : Int) (s[4 * k + 1].toNat : Int) (s[4 * k + 2].toNat : Int) (s[4 * k + 3].toNat : Int) := by
          unfold wnext
          rw [if_pos hlt, byteAt_get s _ (by omega), byteAt_get s _ (by omega), byteAt_get s _ (by omega), byteAt_get s _ (by omega)]
        rw [hv]
        exact HA.out.set k _
      · exact HR.out.other k _ (by omega)
      · exact (HB.out.setCell (p := ⟨w.heap.size + 1, k, none⟩) (Nat.le_succ _) _).drew
    · have HK : Hid (k = 16) := by show _ = _; omega
      have i3 : (16 : Int) ≤ (k : Int) := by omega
      go_wp2
      go_loopw [5] (fun i wr => ∃ (k : Nat) (l : List Int), 16 ≤ k ∧ k ≤ 64 ∧ i = .int .i64 k ∧ l.length = 64 ∧ l.take k = ws s k ∧ ArrAt wr (w.heap.size + 1) 139 l ∧ ArrAt wr w.heap.size 139 zeros ∧ Below w.heap.size w wr) (fun i _ => 64 - (intOf i).toNat)
      case atStart => exact ⟨16, l, by omega, by omega, rfl, hll, by have := HT.out; rwa [HK.out] at this, HA.out, HR.out, HB.out⟩
      case round =>
        clear hll HT HA HR HB HK
        obtain ⟨k, l, hk0, hk, rfl, hll, htk, hA, hR, hb⟩ := hrel
        have HT : Hid (l.take k = ws s k) := htk
        have HR : Hid (ArrAt _ w.heap.size 139 zeros) := hR
        have HB : Hid (Below w.heap.size w _) := hb
        have HA : Hid (ArrAt _ (w.heap.size + 1) 139 l) := hA
        clear htk hA hR hb
        by_cases hlt : k < 64
        · have i2 : (k : Int) < 64 := by omega
          have c0 := HA.out.cell k (by omega)
          have f0 := HA.out.fro k
          have c1 := HA.out.cell (k - 15) (by omega)
          have c2 := HA.out.cell (k - 2) (by omega)
          have c3 := HA.out.cell (k - 16) (by omega)
          have c4 := HA.out.cell (k - 7) (by omega)
          rw [get_take l _ k _ HT.out (by omega)] at c1 c2 c3 c4
          have j1 : IntKind.i64.wrap ((k : Int) - 15) = (k : Int) - 15 := by rw [IntKind.wrap_i64]; omega
          have j2 : IntKind.i64.wrap ((k : Int) - 2) = (k : Int) - 2 := by rw [IntKind.wrap_i64]; omega
          have j3 : IntKind.i64.wrap ((k : Int) - 16) = (k : Int) - 16 := by rw [IntKind.wrap_i64]; omega
          have j4 : IntKind.i64.wrap ((k : Int) - 7) = (k : Int) - 7 := by rw [IntKind.wrap_i64]; omega
          have b1 : (0 : Int) ≤ (k : Int) - 15 := by omega
          have b2 : (0 : Int) ≤ (k : Int) - 2 := by omega
          have b3 : (0 : Int) ≤ (k : Int) - 16 := by omega
          have b4 : (0 : Int) ≤ (k : Int) - 7 := by omega
          have d1 : (k : Int) - 15 < 64 := by omega
          have d2 : (k : Int) - 2 < 64 := by omega
          have d3 : (k : Int) - 16 < 64 := by omega
          have d4 : (k : Int) - 7 < 64 := by omega
          have t1 : ((k : Int) - 15).toNat = k - 15 := by omega
          have t2 : ((k : Int) - 2).toNat = k - 2 := by omega
          have t3 : ((k : Int) - 16).toNat = k - 16 := by omega
          have t4 : ((k : Int) - 7).toNat = k - 7 := by omega
          generalize hx1 : (ws s k).getD (k - 15) 0 = x1 at c1
          generalize hx2 : (ws s k).getD (k - 2) 0 = x2 at c2
          generalize hx3 : (ws s k).getD (k - 16) 0 = x3 at c3
          generalize hx4 : (ws s k).getD (k - 7) 0 = x4 at c4
          have HV : Hid (wnext s (ws s k) k = (x3 + sig0 x1 + x4 + sig1 x2) % 4294967296) := by
            show _ = _
            unfold wnext
            rw [if_neg (by omega), hx1, hx2, hx3, hx4]
          clear hx1 hx2 hx3 hx4
          go_wp2
          go_region
          go_wp2_with fail
          refine (turned_any x1 7 _ (by decide) (by decide)).mono ?_
          rintro e w1 ⟨rfl, rfl⟩
          go_wp2_with fail
          refine (turned_any x1 18 _ (by decide) (by decide)).mono ?_
          rintro e w1 ⟨rfl, rfl⟩
          go_wp2_with fail
          refine (turned_any x2 17 _ (by decide) (by decide)).mono ?_
          rintro e w1 ⟨rfl, rfl⟩
          go_wp2_with fail
          refine (turned_any x2 19 _ (by decide) (by decide)).mono ?_
          rintro e w1 ⟨rfl, rfl⟩
          go_wp2
          go_region
          go_wp2
          refine ⟨⟨k + 1, l.set k (wnext s (ws s k) k), by omega, by omega, by go_num, by simpa using hll, ?_, ?_, ?_, ?_⟩, by simp [intOf]; omega⟩
          · rw [take_set l k _ (by omega), HT.out]; rfl
          · rw [HV.out]
            exact HA.out.set k _
          · exact HR.out.other k _ (by omega)
          · exact (HB.out.setCell (p := ⟨w.heap.size + 1, k, none⟩) (Nat.le_succ _) _).drew.drew
        · obtain rfl : k = 64 := by omega
          have HL : Hid (l = ws s 64) := by show _ = _; rw [← HT.out, List.take_of_length_le (by omega)]
          have hth := HR.out.there 64 rfl
          have HB6 : Hid (Below w.heap.size w (wr.setCells w.heap.size 0 (nums l))) := below_setCells (Nat.le_refl _) _ _ HB.out
          have hrs : (loadVar 139 ⟨w.heap.size, 0, none⟩).run Tryz.prog (wr.setCells w.heap.size 0 (nums l)) = .ok (.agg (nums l).toArray) (wr.setCells w.heap.size 0 (nums l)) :=
            run_loadVar_mid _ w.heap.size 0 139 (nums l) _ (World.rangeAt_setCells_same _ _ _ _ (HR.out.there _ (by rw [nums_len, hll]; rfl))) Tryz.underlying139 rfl (by rw [info64, nums_len, hll])
          have HTH : Hid (wr.there w.heap.size 0 64) := hth
          have HRS : Hid _ := hrs
          have HI : Hid ((Tryz.prog.info? 139).map (·.size) = some (nums l).length ∧ (nums l).toArray.size = 64) := ⟨by rw [info64, nums_len, hll], by rw [List.size_toArray, nums_len, hll]⟩
          have HRG : Hid (wr.rangeAt (w.heap.size + 1) 0 (nums l)) := HA.out.range
          have HON : Hid ((nums l).toArray.all (·.oneCell') = true) := nums_one l
          clear hrs hth HA HR HT HB
          generalize hcs : nums l = cs at HB6 HRS HI HRG HON
          have HCS : Hid (nums l = cs) := hcs
          clear hcs
          go_wp2_with (first
            | (refine wpList_load_mid rfl 139 (Operand.tmp 3) rfl (w.heap.size + 1) 0 rfl cs _ HRG.out Tryz.underlying139 rfl HI.out.1 ?_)
            | (refine wpList_store_mid rfl 139 (Operand.tmp 2) (Operand.tmp 88) rfl w.heap.size 0 cs.toArray rfl rfl (by rw [HI.out.2]; exact HTH.out) (by rw [info64, HI.out.2]) HON.out ?_))
          refine bodyPost_ret (v := .agg cs.toArray) (results_one Tryz.results138 _ _ rfl HRS.out) rfl ⟨?_, HB6.out⟩
          rw [← HL.out]
          exact congrArg (fun c : List Value => Ending.returned (.agg c.toArray)) HCS.out.symm
end Go.Proofs.YtapiedeekbfpnaaGreatDoor

/- An element of an array of eight numbers. -/
namespace Go.Proofs.YtapiedeekbfpnaaGreatDoor
open Go.RowKit

theorem ix8 (b0 b1 b2 b3 b4 b5 b6 b7 : Int) (j : Nat) (hj : j < 8) (v : Value) (hv : ([.int .u32 b0, .int .u32 b1, .int .u32 b2, .int .u32 b3, .int .u32 b4, .int .u32 b5, .int .u32 b6, .int .u32 b7] : List Value)[j]? = some v) (W : World) : (Instr.index 127 (.agg #[.int .u32 b0, .int .u32 b1, .int .u32 b2, .int .u32 b3, .int .u32 b4, .int .u32 b5, .int .u32 b6, .int .u32 b7]) (.int .i64 j)).run Tryz.prog W = .ok v W := by
  have h1 : (j : Int) < 8 := by omega
  have h2 : (0 : Int) ≤ (j : Int) := by omega
  simp only [Instr.index, asIntOf, Sem.run_bind, Sem.run_pure, Result.andThen_ok, run_underlying Tryz.underlying127]
  rw [if_pos ⟨h2, h1⟩]
  simp [part, Tryz.isAgg126, Tryz.sizeOf126, hv]
end Go.Proofs.YtapiedeekbfpnaaGreatDoor

/- What the digest's own mixing of a block does. -/
namespace Go.Proofs.YtapiedeekbfpnaaGreatDoor
open Go.RowKit

structure S8 where
  (a b c d e f g h : Int)
def S8.l (s : S8) : List Int := [s.a, s.b, s.c, s.d, s.e, s.f, s.g, s.h]
def big0 (x : Int) : Int := bits .xor .u32 (bits .xor .u32 (rotR x 2) (rotR x 13)) (rotR x 22)
def big1 (x : Int) : Int := bits .xor .u32 (bits .xor .u32 (rotR x 6) (rotR x 11)) (rotR x 25)
def ch (e f g : Int) : Int := bits .xor .u32 (bits .and .u32 e f) (bits .and .u32 (bits .xor .u32 IntKind.u32.max e) g)
def maj (a b c : Int) : Int := bits .xor .u32 (bits .xor .u32 (bits .and .u32 a b) (bits .and .u32 a c)) (bits .and .u32 b c)
/-- One round, with its K and its word. -/
def S8.u (s : S8) (k v : Int) : Int := (s.h + big1 s.e + ch s.e s.f s.g + k + v) % 4294967296
def S8.step (s : S8) (k v : Int) : S8 := ⟨(s.u k v + (big0 s.a + maj s.a s.b s.c) % 4294967296) % 4294967296, s.a, s.b, s.c, (s.d + s.u k v) % 4294967296, s.e, s.f, s.g⟩
def rounds8 (wl ks : List Int) : Nat → S8 → S8
  | 0, s => s
  | n + 1, s => (rounds8 wl ks n s).step (ks.getD n 0) (wl.getD n 0)
/-- The state behind a block. -/
def mixS (q : S8) (s : ByteArray) (ks : List Int) : S8 :=
  ⟨(q.a + (rounds8 (ws s 64) ks 64 q).a) % 4294967296, (q.b + (rounds8 (ws s 64) ks 64 q).b) % 4294967296, (q.c + (rounds8 (ws s 64) ks 64 q).c) % 4294967296, (q.d + (rounds8 (ws s 64) ks 64 q).d) % 4294967296, (q.e + (rounds8 (ws s 64) ks 64 q).e) % 4294967296, (q.f + (rounds8 (ws s 64) ks 64 q).f) % 4294967296, (q.g + (rounds8 (ws s 64) ks 64 q).g) % 4294967296, (q.h + (rounds8 (ws s 64) ks 64 q).h) % 4294967296⟩
abbrev S8.v (q : S8) : Value := .agg #[.int .u32 q.a, .int .u32 q.b, .int .u32 q.c, .int .u32 q.d, .int .u32 q.e, .int .u32 q.f, .int .u32 q.g, .int .u32 q.h]
/-- What lies where the rounds begin: the words in block p, K. -/
def Reads (w : World) (p : Nat) (wl ks : List Int) : Prop := (∀ j (hj : j < wl.length), w.cell? ⟨p, j, none⟩ = some (.int .u32 wl[j])) ∧ LaidAt 1 w ks

/-- What lies there when the rounds begin. -/
def Mix (w : World) (p : Nat) (wl ks l : List Int) (W : World) : Prop := Reads W p wl ks ∧ ArrAt W w.heap.size 127 l ∧ ArrAt W (w.heap.size + 1) 127 [0, 0, 0, 0, 0, 0, 0, 0] ∧ Below w.heap.size w W ∧ p < W.heap.size

/-- Of these numbers the first j are added. -/
def Added (x y : List Int) (j : Nat) (l : List Int) : Prop := l.length = 8 ∧ ∀ t, l.getD t 0 = if t < j then (x.getD t 0 + y.getD t 0) % 4294967296 else x.getD t 0
theorem Added.zero (x y : List Int) (h : x.length = 8) : Added x y 0 x := ⟨h, fun t => by rw [if_neg (by omega)]⟩
theorem Added.step {x y l : List Int} {j : Nat} (h : Added x y j l) (hj : j < l.length) (_ : x.length = 8) : Added x y (j + 1) (l.set j ((l[j] + y.getD j 0) % 4294967296)) := by
  refine ⟨by simpa using h.1, fun t => ?_⟩
  have ht := h.2 t
  have hjj := h.2 j
  rw [if_neg (by omega), List.getD_eq_getElem?_getD, List.getElem?_eq_getElem hj, Option.getD_some] at hjj
  by_cases e : t = j
  · subst e
    rw [if_pos (by omega), List.getD_eq_getElem?_getD, List.getElem?_set_self hj, Option.getD_some, hjj]
  · rw [List.getD_eq_getElem?_getD, List.getElem?_set_ne (by omega), ← List.getD_eq_getElem?_getD, ht]
    by_cases e2 : t < j
    · rw [if_pos e2, if_pos (by omega)]
    · rw [if_neg e2, if_neg (by omega)]
theorem Added.done {x y l : List Int} (h : Added x y 8 l) (hx : x.length = 8) (hy : y.length = 8) : List.zipWith (fun a b => (a + b) % 4294967296) x y = l := by
  refine List.ext_getElem (by rw [List.length_zipWith, h.1]; omega) fun t h1 h2 => ?_
  have := h.2 t
  have h8 := h.1
  rw [if_pos (by omega), List.getD_eq_getElem?_getD, List.getD_eq_getElem?_getD, List.getD_eq_getElem?_getD, List.getElem?_eq_getElem h2, List.getElem?_eq_getElem (by omega), List.getElem?_eq_getElem (by omega)] at this
  simp at this
  rw [List.getElem_zipWith, this]
theorem nums_at (l : List Int) (j : Nat) (hj : j < l.length) : (nums l)[j]? = some (.int .u32 (l.getD j 0)) := by
  simp [nums, hj]

set_option maxHeartbeats 40000000 in
set_option maxRecDepth 100000 in
theorem mixed_any (w : World) (s : ByteArray) (q : S8) (ks : List Int) (hs : s.size = 64) (hk : ks.length = 64) (hg : LaidAt 1 w ks) :
    Calls Tryz.prog 120 #[.agg #[.int .u32 q.a, .int .u32 q.b, .int .u32 q.c, .int .u32 q.d, .int .u32 q.e, .int .u32 q.f, .int .u32 q.g, .int .u32 q.h], .string s] w fun e w' => e = .returned (mixS q s ks).v ∧ Below w.heap.size w w' := by
  obtain ⟨a, b, c, d, e, f, g, h⟩ := q
  have hz : 1 < w.heap.size := World.block_lt_of_cell? w ⟨1, 0, none⟩ (hg 0 (by omega))
  have HG : Hid (LaidAt 1 w ks) := hg
  have a0 : ArrAt ((w.alloc (.cells (nums [a, b, c, d, e, f, g, h]).toArray 127)).alloc (.cells (nums [0, 0, 0, 0, 0, 0, 0, 0]).toArray 127)) w.heap.size 127 [a, b, c, d, e, f, g, h] := (ArrAt.new w _ _).up ((Below.refl (w.heap.size + 1) _).alloc (by simp) _) (Nat.lt_succ_self _)
  have r0 : ArrAt ((w.alloc (.cells (nums [a, b, c, d, e, f, g, h]).toArray 127)).alloc (.cells (nums [0, 0, 0, 0, 0, 0, 0, 0]).toArray 127)) (w.heap.size + 1) 127 [0, 0, 0, 0, 0, 0, 0, 0] := by
    have := ArrAt.new (w.alloc (.cells (nums [a, b, c, d, e, f, g, h]).toArray 127)) 127 [0, 0, 0, 0, 0, 0, 0, 0]
    rw [World.size_alloc] at this
    exact this
  have A0 : Hid _ := a0
  have R0 : Hid _ := r0
  have B0 : Hid (Below w.heap.size w ((w.alloc (.cells (nums [a, b, c, d, e, f, g, h]).toArray 127)).alloc (.cells (nums [0, 0, 0, 0, 0, 0, 0, 0]).toArray 127))) := ((Below.refl _ _).alloc (Nat.le_refl _) _).alloc (by simp) _
  clear hg a0 r0
  go_enter Tryz.func120, Tryz.ntmps120
  go_wp2_with fail
  refine (words_any _ s hs).mono ?_
  rintro e1 w1 ⟨rfl, hb1⟩
  have hwl := ws_len s 64
  have hmx : ∀ r : S8, r = rounds8 (ws s 64) ks 64 ⟨a, b, c, d, e, f, g, h⟩ → (mixS ⟨a, b, c, d, e, f, g, h⟩ s ks).v = .agg #[.int .u32 ((a + r.a) % 4294967296), .int .u32 ((b + r.b) % 4294967296), .int .u32 ((c + r.c) % 4294967296), .int .u32 ((d + r.d) % 4294967296), .int .u32 ((e + r.e) % 4294967296), .int .u32 ((f + r.f) % 4294967296), .int .u32 ((g + r.g) % 4294967296), .int .u32 ((h + r.h) % 4294967296)] := by
    rintro r rfl
    rfl
  generalize ws s 64 = wl at hwl hmx
  have HMX : Hid _ := hmx
  clear hmx
  have z1 : w.heap.size + 2 ≤ w1.heap.size := by have := hb1.size; simp at this; omega
  have A1 : Hid (ArrAt w1 w.heap.size 127 [a, b, c, d, e, f, g, h]) := ArrAt.up A0.out hb1 (by simp; omega)
  have R1 : Hid (ArrAt w1 (w.heap.size + 1) 127 [0, 0, 0, 0, 0, 0, 0, 0]) := ArrAt.up R0.out hb1 (by simp)
  have B1 : Hid (Below w.heap.size w w1) := B0.out.trans (hb1.mono (by simp; omega))
  clear hb1
  have HI : Hid ((nums wl).toArray.size = 64 ∧ (Tryz.prog.info? 139).map (·.size) = some (nums wl).toArray.size) := ⟨by rw [List.size_toArray, nums_len, hwl], by rw [info64, List.size_toArray, nums_len, hwl]⟩
  have HTH : Hid ((w1.alloc (.cells (nums zeros).toArray 139)).there w1.heap.size 0 64) := (ArrAt.new w1 139 zeros).there 64 rfl
  have HON : Hid ((nums wl).toArray.all (·.oneCell') = true) := nums_one wl
  have hb2 : Below w1.heap.size w1 ((w1.alloc (.cells (nums zeros).toArray 139)).setCells w1.heap.size 0 (nums wl)) := below_setCells (Nat.le_refl _) _ _ ((Below.refl _ _).alloc (Nat.le_refl _) _)
  have hrg : ((w1.alloc (.cells (nums zeros).toArray 139)).setCells w1.heap.size 0 (nums wl)).rangeAt w1.heap.size 0 (nums wl) := World.rangeAt_setCells_same _ _ _ _ (by rw [nums_len, hwl]; exact HTH.out)
  have hsz2 : w1.heap.size < ((w1.alloc (.cells (nums zeros).toArray 139)).setCells w1.heap.size 0 (nums wl)).heap.size := World.block_lt_of_cell? _ ⟨w1.heap.size, 0 + 0, none⟩ (hrg 0 _ (List.getElem?_eq_getElem (by rw [nums_len, hwl]; decide)))
  have HRD : Hid (Reads ((w1.alloc (.cells (nums zeros).toArray 139)).setCells w1.heap.size 0 (nums wl)) w1.heap.size wl ks) := by
    refine ⟨fun j hj => ?_, LaidAt.up (LaidAt.up HG.out B1.out hz) hb2 (by omega)⟩
    have := hrg j (.int .u32 wl[j]) (by simp [nums, hj])
    rwa [Nat.zero_add] at this
  have A2 : Hid (ArrAt ((w1.alloc (.cells (nums zeros).toArray 139)).setCells w1.heap.size 0 (nums wl)) w.heap.size 127 [a, b, c, d, e, f, g, h]) := A1.out.up hb2 (by omega)
  have R2 : Hid (ArrAt ((w1.alloc (.cells (nums zeros).toArray 139)).setCells w1.heap.size 0 (nums wl)) (w.heap.size + 1) 127 [0, 0, 0, 0, 0, 0, 0, 0]) := R1.out.up hb2 (by omega)
  have B2 : Hid (Below w.heap.size w ((w1.alloc (.cells (nums zeros).toArray 139)).setCells w1.heap.size 0 (nums wl))) := B1.out.trans (hb2.mono B1.out.size)
  have HF : Hid (Mix w w1.heap.size wl ks [a, b, c, d, e, f, g, h] ((w1.alloc (.cells (nums zeros).toArray 139)).setCells w1.heap.size 0 (nums wl))) := ⟨HRD.out, A2.out, R2.out, B2.out, hsz2⟩
  clear hb2 hrg hsz2 HRD A2 R2 B2
  simp only [arr]
  go_wp2_with (refine wpList_store_any rfl 139 (Operand.tmp 5) (Operand.tmp 22) rfl w1.heap.size 0 (nums wl).toArray rfl rfl (by rw [HI.out.1]; exact HTH.out) HI.out.2 HON.out (Mix w w1.heap.size wl ks [a, b, c, d, e, f, g, h]) HF.out ?_; intro w2 hF; simp only [Act.put])
  obtain ⟨hrd, ha2, hr2, hb2, hsz2⟩ := hF
  have HRD : Hid (Reads w2 w1.heap.size wl ks) := hrd
  have A2 : Hid (ArrAt w2 w.heap.size 127 [a, b, c, d, e, f, g, h]) := ha2
  have R2 : Hid (ArrAt w2 (w.heap.size + 1) 127 [0, 0, 0, 0, 0, 0, 0, 0]) := hr2
  have B2 : Hid (Below w.heap.size w w2) := hb2
  clear hrd ha2 hr2 hb2 HTH HON HI A1 R1 B1 HF
  have c0 := A2.out.cell 0 (by simp)
  have c1 := A2.out.cell 1 (by simp)
  have c2 := A2.out.cell 2 (by simp)
  have c3 := A2.out.cell 3 (by simp)
  have c4 := A2.out.cell 4 (by simp)
  have c5 := A2.out.cell 5 (by simp)
  have c6 := A2.out.cell 6 (by simp)
  have c7 := A2.out.cell 7 (by simp)
  simp only [List.getElem_cons_zero, List.getElem_cons_succ] at c0 c1 c2 c3 c4 c5 c6 c7
  go_region
  go_wp2
  go_region
  go_wp2
  go_loopw [6, 7, 8, 9, 10, 11, 12, 13, 39] (fun va vb vc vd ve vf vg vh vi wr => ∃ (k : Nat) (r : S8), k ≤ 64 ∧ r = rounds8 wl ks k ⟨a, b, c, d, e, f, g, h⟩ ∧ va = .int .u32 r.a ∧ vb = .int .u32 r.b ∧ vc = .int .u32 r.c ∧ vd = .int .u32 r.d ∧ ve = .int .u32 r.e ∧ vf = .int .u32 r.f ∧ vg = .int .u32 r.g ∧ vh = .int .u32 r.h ∧ vi = .int .i64 k ∧ Below w2.heap.size w2 wr) (fun _ _ _ _ _ _ _ _ vi _ => 64 - (intOf vi).toNat)
  case atStart => exact ⟨0, ⟨a, b, c, d, e, f, g, h⟩, by omega, rfl, rfl, rfl, rfl, rfl, rfl, rfl, rfl, rfl, rfl, (Below.refl _ _).drew.drew⟩
  case round =>
    obtain ⟨k, r, hk, hr, rfl, rfl, rfl, rfl, rfl, rfl, rfl, rfl, rfl, hb⟩ := hrel
    have HR : Hid _ := hr
    have HB : Hid (Below w2.heap.size w2 wr) := hb
    clear hr hb
    obtain ⟨a', b', c', d', e', f', g', h'⟩ := r
    simp only
    clear c0 c1 c2 c3 c4 c5 c6 c7
    by_cases hlt : k < 64
    · as_aux_lemma =>
        have i2 : (k : Int) < 64 := by omega
        have q0 := (HB.out.cell (p := ⟨w1.heap.size, k, none⟩) hsz2).trans (HRD.out.1 k (by omega))
        have q1 := (HB.out.cell (p := ⟨1, k, none⟩) (by show 1 < _; omega)).trans (HRD.out.2 k (by omega))
        generalize hx0 : wl[k] = x0 at q0
        generalize hx1 : ks[k] = x1 at q1
        have HX : Hid (ks.getD k 0 = x1 ∧ wl.getD k 0 = x0) := ⟨by rw [List.getD, List.getElem?_eq_getElem (by omega), ← hx1]; rfl, by rw [List.getD, List.getElem?_eq_getElem (by omega), ← hx0]; rfl⟩
        clear hx0 hx1
        go_wp2_with fail
        refine (turned_any e' 6 _ (by decide) (by decide)).mono ?_
        rintro e1 w3 ⟨rfl, rfl⟩
        go_wp2_with fail
        refine (turned_any e' 11 _ (by decide) (by decide)).mono ?_
        rintro e1 w3 ⟨rfl, rfl⟩
        go_wp2_with fail
        refine (turned_any e' 25 _ (by decide) (by decide)).mono ?_
        rintro e1 w3 ⟨rfl, rfl⟩
        go_wp2
        go_region
        go_wp2_with fail
        refine (turned_any a' 2 _ (by decide) (by decide)).mono ?_
        rintro e1 w3 ⟨rfl, rfl⟩
        go_wp2_with fail
        refine (turned_any a' 13 _ (by decide) (by decide)).mono ?_
        rintro e1 w3 ⟨rfl, rfl⟩
        go_wp2_with fail
        refine (turned_any a' 22 _ (by decide) (by decide)).mono ?_
        rintro e1 w3 ⟨rfl, rfl⟩
        go_wp2
        refine ⟨⟨k + 1, S8.step ⟨a', b', c', d', e', f', g', h'⟩ x1 x0, by omega, ?_, rfl, rfl, rfl, rfl, rfl, rfl, rfl, rfl, by go_num, HB.out.drew⟩, by simp [intOf]; omega⟩
        show _ = (rounds8 wl ks k _).step _ _
        rw [HX.out.1, HX.out.2, ← HR.out]
    · have HK : Hid (k = 64) := by show _ = _; omega
      have i3 : (64 : Int) ≤ (k : Int) := by omega
      have a2 := A2.out.up HB.out (by omega)
      have r2 := R2.out.up HB.out (by omega)
      have BF : Hid (Below w.heap.size w wr) := B2.out.trans (HB.out.mono B2.out.size)
      have A3 : Hid (ArrAt wr w.heap.size 127 [a, b, c, d, e, f, g, h]) := a2
      have R3 : Hid (ArrAt wr (w.heap.size + 1) 127 [0, 0, 0, 0, 0, 0, 0, 0]) := r2
      clear a2 r2 A2 R2 HRD HB HG
      have hix : ∀ (j : Nat) (hj : j < 8) (W : World), (Instr.index 127 (.agg #[.int .u32 a', .int .u32 b', .int .u32 c', .int .u32 d', .int .u32 e', .int .u32 f', .int .u32 g', .int .u32 h']) (.int .i64 j)).run Tryz.prog W = .ok (.int .u32 ([a', b', c', d', e', f', g', h'].getD j 0)) W := fun j hj W => ix8 a' b' c' d' e' f' g' h' j hj _ (nums_at [a', b', c', d', e', f', g', h'] j hj) W
      go_wp2
      go_loopw [113] (fun i wx => ∃ (j : Nat) (l : List Int), j ≤ 8 ∧ i = .int .i64 j ∧ Added [a, b, c, d, e, f, g, h] [a', b', c', d', e', f', g', h'] j l ∧ ArrAt wx w.heap.size 127 l ∧ ArrAt wx (w.heap.size + 1) 127 [0, 0, 0, 0, 0, 0, 0, 0] ∧ Below w.heap.size w wx) (fun i _ => 8 - (intOf i).toNat)
      case atStart => exact ⟨0, _, by omega, rfl, Added.zero _ _ rfl, A3.out, R3.out, BF.out⟩
      case round =>
        obtain ⟨j, l, hj, rfl, had, hA, hZ, hb⟩ := hrel
        clear A3 R3 BF
        have HD : Hid (Added [a, b, c, d, e, f, g, h] [a', b', c', d', e', f', g', h'] j l) := had
        have hll : l.length = 8 := had.1
        have HA : Hid (ArrAt _ w.heap.size 127 l) := hA
        have HZ : Hid (ArrAt _ (w.heap.size + 1) 127 [0, 0, 0, 0, 0, 0, 0, 0]) := hZ
        have BX : Hid (Below w.heap.size w _) := hb
        clear had hA hZ hb
        by_cases hj8 : j < 8
        · have y := hix j hj8
          have c0 := HA.out.cell j (by omega)
          have f0 := HA.out.fro j
          have j2 : (j : Int) < 8 := by omega
          clear hix
          generalize hx0 : l[j] = x0 at c0
          generalize hx1 : [a', b', c', d', e', f', g', h'].getD j 0 = x1 at y
          have HX : Hid (l[j] = x0 ∧ [a', b', c', d', e', f', g', h'].getD j 0 = x1) := ⟨hx0, hx1⟩
          clear hx0 hx1
          go_wp2
          refine ⟨⟨j + 1, l.set j ((x0 + x1) % 4294967296), by omega, by go_num, ?_, HA.out.set j _, HZ.out.other j _ (by omega), BX.out.setCell (p := ⟨w.heap.size, j, none⟩) (Nat.le_refl _) _⟩, by simp [intOf]; omega⟩
          have := HD.out.step (by omega) (by rfl)
          rwa [HX.out.1, HX.out.2] at this
        obtain rfl : j = 8 := by omega
        clear hix
        obtain rfl := HD.out.done rfl rfl
        clear HD
        have c0 := HA.out.cell 0 (by simp)
        have z0 := HZ.out.cell 0 (by simp)
        have g0 := HZ.out.fro 0
        have c1 := HA.out.cell 1 (by simp)
        have z1 := HZ.out.cell 1 (by simp)
        have g1 := HZ.out.fro 1
        have c2 := HA.out.cell 2 (by simp)
        have z2 := HZ.out.cell 2 (by simp)
        have g2 := HZ.out.fro 2
        have c3 := HA.out.cell 3 (by simp)
        have z3 := HZ.out.cell 3 (by simp)
        have g3 := HZ.out.fro 3
        have c4 := HA.out.cell 4 (by simp)
        have z4 := HZ.out.cell 4 (by simp)
        have g4 := HZ.out.fro 4
        have c5 := HA.out.cell 5 (by simp)
        have z5 := HZ.out.cell 5 (by simp)
        have g5 := HZ.out.fro 5
        have c6 := HA.out.cell 6 (by simp)
        have z6 := HZ.out.cell 6 (by simp)
        have g6 := HZ.out.fro 6
        have c7 := HA.out.cell 7 (by simp)
        have z7 := HZ.out.cell 7 (by simp)
        have g7 := HZ.out.fro 7
        simp only [List.getElem_cons_zero, List.getElem_cons_succ, List.zipWith] at c0 c1 c2 c3 c4 c5 c6 c7 z0 z1 z2 z3 z4 z5 z6 z7
        go_wp2
        refine bodyPost_ret (v := .agg #[.int .u32 ((a + a') % 4294967296), .int .u32 ((b + b') % 4294967296), .int .u32 ((c + c') % 4294967296), .int .u32 ((d + d') % 4294967296), .int .u32 ((e + e') % 4294967296), .int .u32 ((f + f') % 4294967296), .int .u32 ((g + g') % 4294967296), .int .u32 ((h + h') % 4294967296)]) (by simp [results, Tryz.results120, go_sem, z0, z1, z2, z3, z4, z5, z6, z7]) rfl ⟨?_, below8 BX.out (Nat.le_succ _) _ _ _ _ _ _ _ _⟩
        rw [HMX.out ⟨a', b', c', d', e', f', g', h'⟩ (by rw [HR.out, HK.out])]
end Go.Proofs.YtapiedeekbfpnaaGreatDoor

/- What the digest's own digits of a state are. -/
namespace Go.Proofs.YtapiedeekbfpnaaGreatDoor
open Go.RowKit

def hexC (n : Nat) : Nat := if n < 10 then 48 + n else 87 + n
def nib (x : Int) (s : Nat) : Int := bits .and .u32 (x / 2 ^ s) 15
/-- Digit j of a number, the greatest first. -/
def dgt (x : Int) (j : Nat) : UInt8 := UInt8.ofNat (hexC (nib x (28 - 4 * j)).toNat)
def dg (x : Int) (j : Nat) : List UInt8 := (List.range j).map (dgt x)
def dgs (l : List Int) : List UInt8 := l.flatMap fun x => dg x 8
def bcs (l : List UInt8) : List Value := l.map fun c => .int .u8 c.toNat
theorem infB : (Tryz.prog.info? 5).map (fun i => (i.zero, i.size, i.bytes)) = some (some (.int .u8 0), 1, 1) := by kernel_rfl
theorem nib_lt (x : Int) (s : Nat) : 0 ≤ nib x s ∧ nib x s < 16 := by
  unfold nib bits
  have h : (BitVec.ofInt 32 (x / 2 ^ s) &&& BitVec.ofInt 32 15).toNat < 16 := by
    rw [BitVec.toNat_and]
    exact Nat.lt_of_le_of_lt Nat.and_le_right (by decide)
  generalize hn : (BitVec.ofInt 32 (x / 2 ^ s) &&& BitVec.ofInt 32 15).toNat = n at h
  have e : IntKind.u32.wrap (n : Int) = n := by rw [IntKind.wrap_u32]; omega
  show 0 ≤ IntKind.u32.wrap ((BitVec.ofInt 32 (x / 2 ^ s) &&& BitVec.ofInt 32 15).toNat : Int) ∧ IntKind.u32.wrap ((BitVec.ofInt 32 (x / 2 ^ s) &&& BitVec.ofInt 32 15).toNat : Int) < 16
  rw [hn, e]
  omega

abbrev hexS : ByteArray := ⟨#[48, 49, 50, 51, 52, 53, 54, 55, 56, 57, 97, 98, 99, 100, 101, 102]⟩
theorem hexS_at : ∀ n : Nat, n < 16 → hexS[n]? = some (UInt8.ofNat (hexC n)) := by decide
theorem hex_ix (x : Int) (s : Nat) (W : World) : (Instr.index 9 (.string hexS) (.int .u32 (nib x s))).run Tryz.prog W = .ok (.int .u8 ((UInt8.ofNat (hexC (nib x s).toNat)).toNat)) W := by
  have h := nib_lt x s
  have h2 := hexS_at (nib x s).toNat (by omega)
  simp [Instr.index, run_underlying Tryz.underlying9, asIntOf, h.1, h2]

set_option maxHeartbeats 4000000 in
set_option maxRecDepth 100000 in
theorem digits_any (w : World) (a0 a1 a2 a3 a4 a5 a6 a7 : Int) :
    Calls Tryz.prog 122 #[.agg #[.int .u32 a0, .int .u32 a1, .int .u32 a2, .int .u32 a3, .int .u32 a4, .int .u32 a5, .int .u32 a6, .int .u32 a7]] w fun e w' => e = .returned (.string ⟨(dgs [a0, a1, a2, a3, a4, a5, a6, a7]).toArray⟩) ∧ Below w.heap.size w w' := by
  obtain ⟨i0, hi, hz0, hz1, hz2⟩ := info_p infB
  go_enter Tryz.func122, Tryz.ntmps122
  go_wp2_with (at_make; refine wpList_make_own _ rfl _ _ 82 rfl w.heap.size 5 i0 (.int .u8 0) 1 Tryz.underlying82 hi hz0 hz1 _ _ _ 64 rfl rfl ?m1 ?m2 ?m3 ?m4 ?_)
  case m1 => rfl
  case m2 => rw [hz2]; decide
  case m3 => unfold maxLen; decide
  case m4 => simp
  intro w2 hown hg2
  have a2 : ArrAt w2 w.heap.size 127 [a0, a1, a2, a3, a4, a5, a6, a7] := (hg2.block w.heap.size (by simp) (by simp)).trans (ArrAt.new w 127 [a0, a1, a2, a3, a4, a5, a6, a7])
  have HB2 : Hid (Below w.heap.size w w2) := ((Below.refl _ _).alloc (Nat.le_refl _) _).grown hg2 (by simp) (by intro k hk; cases hk)
  have c0 := a2.cell 0 (by simp)
  have c1 := a2.cell 1 (by simp)
  have c2 := a2.cell 2 (by simp)
  have c3 := a2.cell 3 (by simp)
  have c4 := a2.cell 4 (by simp)
  have c5 := a2.cell 5 (by simp)
  have c6 := a2.cell 6 (by simp)
  have c7 := a2.cell 7 (by simp)
  simp only [List.getElem_cons_zero, List.getElem_cons_succ] at c0 c1 c2 c3 c4 c5 c6 c7
  have HO2 : Hid (w2.ownsRow (w.heap.size + 1) 5 1 (.slice (some ⟨w.heap.size + 1, 0, none⟩) 0 64) 0 []) := by
    show World.ownsRow _ _ _ _ _ _ _
    refine ⟨rfl, Or.inr ?_⟩
    rcases hown.2 with ⟨h, _⟩ | ⟨g, cap, cur, hv, _, hh, r⟩
    · cases h
    · cases hv
      exact ⟨w.heap.size + 1, 64, cur, by simp, Nat.le_refl _, by simpa using hh, r⟩
  clear hown hg2 a2
  obtain ⟨l, hl⟩ : ∃ l : List Int, l = [a0, a1, a2, a3, a4, a5, a6, a7] := ⟨_, rfl⟩
  have hll : l.length = 8 := by rw [hl]; rfl
  have HIX : Hid (∀ (k : Nat) (hk : k < l.length) (W : World), (Instr.index 127 (.agg #[.int .u32 a0, .int .u32 a1, .int .u32 a2, .int .u32 a3, .int .u32 a4, .int .u32 a5, .int .u32 a6, .int .u32 a7]) (.int .i64 k)).run Tryz.prog W = .ok (.int .u32 l[k]) W) := fun k hk W => by
    subst hl
    refine ix8 a0 a1 a2 a3 a4 a5 a6 a7 k (by simpa using hk) _ ?_ W
    match k, hk with
    | 0, _ => rfl
    | 1, _ => rfl
    | 2, _ => rfl
    | 3, _ => rfl
    | 4, _ => rfl
    | 5, _ => rfl
    | 6, _ => rfl
    | 7, _ => rfl
  have HL : Hid (l = [a0, a1, a2, a3, a4, a5, a6, a7]) := hl
  clear hl
  go_wp2
  clear c0 c1 c2 c3 c4 c5 c6 c7
  go_loopw [3, 9] (fun v i wr => ∃ k : Nat, k ≤ 8 ∧ i = .int .i64 k ∧ wr.ownsRow (w.heap.size + 1) 5 1 v (8 * k) (bcs (dgs (l.take k))) ∧ Below w.heap.size w wr) (fun _ i _ => 8 - (intOf i).toNat)
  case atStart => exact ⟨0, by omega, rfl, HO2.out, HB2.out⟩
  case round =>
    obtain ⟨k, hk, rfl, hown, hb⟩ := hrel
    have HO : Hid (wr.ownsRow (w.heap.size + 1) 5 1 u3 (8 * k) (bcs (dgs (l.take k)))) := hown
    have HB : Hid (Below w.heap.size w wr) := hb
    clear hown hb HO2 HB2
    by_cases hlt : k < 8
    · have hix := HIX.out k (by omega)
      have i2 : (k : Int) < 8 := by omega
      generalize hx : l[k] = x at hix
      have HX : Hid (l[k] = x) := hx
      clear hx
      go_wp2
      go_loopw [3, 6] (fun v sh wr => ∃ j : Nat, j ≤ 8 ∧ sh = .int .i64 (28 - 4 * (j : Int)) ∧ wr.ownsRow (w.heap.size + 1) 5 1 v (8 * k + j) (bcs (dgs (l.take k) ++ dg x j)) ∧ Below w.heap.size w wr) (fun _ sh _ => (intOf sh + 4).toNat)
      case atStart => exact ⟨0, by omega, rfl, by simpa [dg] using HO.out, HB.out⟩
      case round =>
        clear HO HB
        obtain ⟨j, hj, rfl, hown, hb⟩ := hrel
        have HO : Hid (World.ownsRow _ (w.heap.size + 1) 5 1 _ (8 * k + j) (bcs (dgs (l.take k) ++ dg x j))) := hown
        have HB : Hid (Below w.heap.size w _) := hb
        clear hown hb
        by_cases hjt : j < 8
        · obtain ⟨m, hm⟩ : ∃ m : Nat, m = 28 - 4 * j := ⟨_, rfl⟩
          have hm2 : (28 : Int) - 4 * (j : Int) = (m : Int) := by omega
          have hsr : Op.shift .shr .u32 x .i64 (m : Int) = pure (.int .u32 (x / 2 ^ m)) := by
            rw [shift_shr _ _ _ _ (by omega) (by show (m : Int) ≤ 32; omega)]
            rfl
          have hxi : ∀ W : World, (Instr.index 9 (.string hexS) (.int .u32 (bits .and .u32 (x / 2 ^ m) 15))).run Tryz.prog W = .ok (.int .u8 ((dgt x j).toNat : Int)) W := fun W => by
            have := hex_ix x m W
            rw [hm] at this
            unfold dgt
            rw [hm]
            exact this
          have m0 : (0 : Int) ≤ (m : Int) := by omega
          generalize hc : ((dgt x j).toNat : Int) = ch at hxi
          have HC : Hid (((dgt x j).toNat : Int) = ch) := hc
          have HM : Hid (m = 28 - 4 * j) := hm
          clear hc hm
          go_wp2_with (at_builtin; refine wpList_append_own _ rfl _ _ 82 rfl (w.heap.size + 1) 5 i0 (.int .u8 0) 1 1 Tryz.underlying82 hi hz0 hz1 hz2 rfl (by decide) _ _ _ rfl (HO.out.alloc _) ⟨_, 0, none⟩ 1 1 [.int .u8 ch] rfl rfl ?c1 ?c2 ?c3 ?c4 ?c5 ?_)
          case c1 =>
            intro j u hj
            match j, hj with
            | 0, hj => simp at hj; subst hj; simp [Addr.add]
          case c2 => intro u hu; simp at hu; subst hu; rfl
          case c3 => unfold maxLen; omega
          case c4 => omega
          case c5 => have := HB.out.size; have := HO.out.lt; simp; rcases HO.out.2 with ⟨_, h⟩ | ⟨g, cap, cur, _, hg, hh, _⟩ <;> first | omega | (have := (Array.getElem?_eq_some_iff.1 hh).1; omega)
          intro v' w4 hown4 hg4 _
          have hrow : ∀ j, Value.ownBlock _ = some j → w.heap.size + 1 ≤ j := fun j hj => (HO.out.lt j hj).1
          have HB4 : Hid (Below w.heap.size w w4) := (HB.out.alloc HB.out.size _).grown hg4 (by have := HB.out.size; simp; omega) (fun j hj => by have := hrow j hj; omega)
          have HO4 : Hid (w4.ownsRow (w.heap.size + 1) 5 1 v' (8 * k + j + 1) (bcs (dgs (l.take k) ++ dg x j) ++ [.int .u8 ch])) := hown4
          clear hown4 hg4 hrow
          go_wp2
          refine ⟨⟨j + 1, by omega, ?_, ?_, HB4.out⟩, by simp [intOf]; omega⟩
          · have := HM.out
            congr 1
            omega
          · have e1 : bcs (dgs (l.take k) ++ dg x (j + 1)) = bcs (dgs (l.take k) ++ dg x j) ++ [.int .u8 ch] := by
              rw [← HC.out]
              simp [bcs, dg, List.range_succ]
            rw [e1]
            exact HO4.out
        · obtain rfl : j = 8 := by omega
          go_wp2
          refine ⟨⟨k + 1, by omega, by go_num, ?_, HB.out⟩, by simp [intOf]; omega⟩
          have e1 : dgs (l.take (k + 1)) = dgs (l.take k) ++ dg x 8 := by
            rw [List.take_succ_eq_append_getElem (by omega), HX.out]
            simp [dgs]
          rw [e1]
          exact HO.out
    · obtain rfl : k = 8 := by omega
      have ho := HO.out
      rw [List.take_of_length_le (by omega)] at ho
      have h64 : (dgs l).length = 64 := by
        have := ho.1
        simpa [bcs] using this
      obtain ⟨g, cap, rfl, hcells⟩ : ∃ g cap, u3 = .slice (some ⟨g, 0, none⟩) (8 * 8) cap ∧ ∀ j (hj : j < (dgs l).length), wr.cell? ((⟨g, 0, none⟩ : Addr).add j) = some (.int .u8 ((dgs l)[j].toNat : Int)) := by
        have hc := fun (g : Nat) (hg : u3.ownBlock = some g) => ho.cells hg
        rcases ho.2 with ⟨_, h⟩ | ⟨g, cap, cur, hv, _⟩
        · omega
        · exact ⟨g, cap, hv, fun j hj => hc g (by rw [hv]; rfl) j _ (by simp [bcs, hj])⟩
      have hcv : (convert 82 9 (.slice (some ⟨g, 0, none⟩) (8 * 8) cap)).run Tryz.prog wr = .ok (.string ⟨(dgs l).toArray⟩) wr := by
        rw [show 8 * 8 = (dgs l).length from h64.symm]
        exact run_convert_bytes_back wr 82 9 5 ⟨g, 0, none⟩ cap (dgs l) Tryz.underlying82 Tryz.underlying5 Tryz.underlying9 hcells
      clear ho hcells h64 HO
      go_wp2
      go_ret
      exact ⟨by rw [HL.out]; rfl, HB.out⟩
end Go.Proofs.YtapiedeekbfpnaaGreatDoor
