/- What each line does is laid into a map. -/
import Derived.Test.YtcpomkgfcpfedaaGreatDoorSbS
import Derived.Test.YtcpomkgfcpfedaaGreatDoorSbD
import Derived.Laws.EntriesVeiled
namespace Go.Proofs.YtcpomkgfcpfedaaGreatDoor
open Go.RowKit Go.Shelf Go.Maps Go.WideMaps

/-- How a deed reads: by its function's number. -/
def fnE (bx : Nat) (v : Value) : Option (DataW Unit × List MemPlace) := match v with
  | .func (.func n) a c => match a.toList, c.toList with
    | [], [.pointer (some ⟨b, 0, none⟩)] => if b = bx then some (.lit (.int .i64 ((4 * n + 0 : Nat) : Int)), []) else none
    | _, _ => none
  | .nilFunc => some (.lit (.int .i64 (-1)), [])
  | _ => none
theorem fnE_mk (bx n : Nat) : fnE bx (.func (.func n) #[] #[.pointer (some ⟨bx, 0, none⟩)]) = some (.lit (.int .i64 ((4 * n + 0 : Nat) : Int)), []) := by
  show (if bx = bx then _ else _) = _
  rw [if_pos rfl]
theorem fnE_inv {bx : Nat} {v : Value} {n : Nat} {ps : List MemPlace} (h : fnE bx v = some (.lit (.int .i64 ((4 * n + 0 : Nat) : Int)), ps)) : v = .func (.func n) #[] #[.pointer (some ⟨bx, 0, none⟩)] := by
  unfold fnE at h
  split at h
  · split at h
    · split at h
      · rename_i n2 a c x1 x2 b ha hc hb
        injection h with h
        injection h with h _
        injection h with h
        injection h with _ h
        have h4 : 4 * (n2 : Nat) + 0 = 4 * n + 0 := Int.ofNat.inj h
        have hn2 : (n2 : Nat) = n := Nat.eq_of_mul_eq_mul_left (by decide : 0 < 4) h4
        have e1 : a = #[] := Array.toList_inj.1 ha
        have e2 : c = #[.pointer (some ⟨bx, 0, none⟩)] := Array.toList_inj.1 (by rw [← hb]; exact hc)
        rw [e1, e2, hn2]
      · cases h
    · cases h
  · injection h with h
    injection h with h _
    injection h with h
    injection h with _ h
    omega
  · cases h
theorem zeroD (w : World) : (zeroValue 77).run Tryz.prog w = .ok .nilFunc w := by kernel_rfl

def dedK : List (List UInt8 × List Nat) := frmL.map fun f => (f.1, [])
def dedN : List Nat := [59, 61, 63, 65, 66, 68, 70, 72, 74, 75, 77, 78, 79]
/-- The deeds, while they are laid: so many of them are there. -/
structure DdI (B M bx P : Nat) (w0 : World) (k : Nat) (w : World) : Prop where
  own : w.ownsMap Tryz.prog 9 (fnE bx) M k (dF dedK (dedN.take k) (.map []))
  env : w.cell? ⟨bx, 0, none⟩ = some (.pointer (some ⟨P, 0, none⟩))
  lo : B ≤ bx ∧ bx < M
  lt : M < w.heap.size
  bel : Below B w0 w
theorem DdI.step {B M bx P : Nat} {w0 w w1 : World} {k n : Nat} {f : List UInt8 × List Nat} (h : DdI B M bx P w0 k w) (hk : k < 13) (hf : dedK[k]? = some f) (hn : dedN[k]? = some n)
    (hown : w1.ownsMap Tryz.prog 9 (fnE bx) M (k + 1) ((dF dedK (dedN.take k) (.map [])).put (.string f.1) (.lit (.int .i64 ((4 * n + 0 : Nat) : Int)))))
    (hg : w.grownBy w1 (some M)) : DdI B M bx P w0 (k + 1) w1 := by
  have hlo := h.lo
  have hlen : (dedN.take k).length = k := by rw [List.length_take]; show min k 13 = k; omega
  have hf2 : f.2 = [] := by
    have := List.mem_of_getElem? hf
    obtain ⟨g, _, rfl⟩ := List.mem_map.1 this
    rfl
  refine ⟨?_, ?_, h.lo, Nat.lt_of_lt_of_le h.lt hg.size, ?_⟩
  · have e := dF_snoc dedK (dedN.take k) (.map []) n f (by rw [hlen]; exact hf)
    rw [List.take_add_one, hn]
    show w1.ownsMap _ _ _ _ _ (dF dedK (dedN.take k ++ [n]) (.map []))
    rw [e, hf2]
    exact hown
  · have hlt : bx < w.heap.size := World.block_lt_of_cell? w ⟨bx, 0, none⟩ h.env
    have := hg.block bx hlt (fun e => by have := Option.some.inj e; omega)
    have h2 := h.env
    unfold World.cell? at h2 ⊢
    simp only at h2 ⊢
    rw [this]
    exact h2
  · exact h.bel.grown hg (by have := h.lt; omega) (fun j hj => by cases hj; omega)

theorem upon_deed {B M bx P : Nat} {w0 w : World} {k n : Nat} {f : List UInt8 × List Nat} {ky : ByteArray} {β : Type} {R : Result β → Prop} {c : Unit → World → Result β}
    (h : DdI B M bx P w0 k w) (hk : k < 13) (hf : dedK[k]? = some f) (hn : dedN[k]? = some n) (hky : ky = bA f.1) (hl : f.1.length ≤ 4)
    (hK : ∀ w', DdI B M bx P w0 (k + 1) w' → R (c () w')) :
    R (((Instr.mapUpdate 75 (.map (some M)) (.string ky) (.func (.func n) #[] #[.pointer (some ⟨bx, 0, none⟩)])).run Tryz.prog w).andThen c) := by
  subst hky
  have hkey : keyOf Tryz.prog 9 (.string (bA f.1)) = some (.string f.1) := by
    have := keyOf_string_mk (s := bA f.1) Tryz.underlying9 (by unfold maxLen; rw [show (bA f.1).size = f.1.length from size_of rfl]; omega)
    rw [this]
    unfold bA
    simp
  obtain ⟨w', hrun, r1, r2⟩ := h.own.update lawSb Tryz.underlying75 (by unfold maxLen; omega) hkey (fnE_mk bx n)
  rw [hrun]
  exact hK w' (h.step hk hf hn r1 r2)

theorem DdI.first (P : Nat) (w : World) : DdI w.heap.size (w.heap.size + 1) w.heap.size P w 0 ((w.alloc (.cells #[.pointer (some ⟨P, 0, none⟩)] 50)).alloc (.map #[] 0)) := by
  have hsz : (w.alloc (.cells #[.pointer (some ⟨P, 0, none⟩)] 50)).heap.size = w.heap.size + 1 := World.size_alloc _ _
  refine ⟨?_, ?_, ⟨by omega, by omega⟩, by rw [World.size_alloc, hsz]; omega, ((Below.refl _ w).alloc (Nat.le_refl _) _).alloc (by rw [hsz]; omega) _⟩
  · have := World.ownsMap_made (H := Unit) (w.alloc (.cells #[.pointer (some ⟨P, 0, none⟩)] 50)) Tryz.prog 9 (fnE w.heap.size)
    rw [hsz] at this
    exact this
  · rw [World.cell?_alloc_old _ _ _ (by simp only; omega), Lib.cell_of_heap (heap_alloc_new w _)]
    rfl

set_option maxHeartbeats 4000000 in
set_option maxRecDepth 100000 in
theorem newDeeds_any (P : Nat) (w : World) :
    Calls Tryz.prog 47 #[.pointer (some ⟨P, 0, none⟩)] w fun e w' => ∃ M bx, e = .returned (.map (some M)) ∧ DdI w.heap.size M bx P w 13 w' := by
  have hmm := @run_makeMap Tryz.prog
  have HF : Hid (DdI w.heap.size (w.heap.size + 1) w.heap.size P w 0 ((w.alloc (.cells #[.pointer (some ⟨P, 0, none⟩)] 50)).alloc (.map #[] 0))) := DdI.first P w
  go_enter Tryz.func47, Tryz.ntmps47
  go_wp2
  iterate 13
    refine upon_deed (R := Oper.upon _ _ _ _ _) HF.out (by decide) (by rfl) (by rfl) (by rfl) (by decide) ?_
    intro w1 hf1
    clear HF
    have HF : Hid _ := hf1
    clear hf1
    go_wp2
  go_ret
  exact ⟨_, _, rfl, HF.out⟩

theorem DdI.keep {B M bx P k : Nat} {w0 w w' : World} (h : DdI B M bx P w0 k w) (hb : w'.heap[M]? = w.heap[M]?) (hx : w'.heap[bx]? = w.heap[bx]?) (hs : w.heap.size ≤ w'.heap.size) (hbel : Below B w0 w') : DdI B M bx P w0 k w' := by
  refine ⟨omapS h.own hb, ?_, h.lo, Nat.lt_of_lt_of_le h.lt hs, hbel⟩
  have h2 := h.env
  unfold World.cell? at h2 ⊢
  simp only at h2 ⊢
  rw [hx]
  exact h2
theorem ded_look {x : List UInt8} {f : List Nat} (h : frmF x = some f) : dedK.lookup x = some [] := by
  have : ∀ (L : List (List UInt8 × List Nat)), L.lookup x = some f → (L.map fun f => (f.1, ([] : List Nat))).lookup x = some [] := by
    intro L
    induction L with
    | nil => intro h; cases h
    | cons a L ih =>
      intro h
      obtain ⟨a1, a2⟩ := a
      rw [List.lookup_cons] at h
      rw [List.map_cons, List.lookup_cons]
      simp only
      split at h
      · rfl
      · exact ih h
  exact this frmL h
theorem look_deed {B M bx P : Nat} {w0 w : World} (h : DdI B M bx P w0 13 w) (s : ByteArray) (hs : s.size ≤ maxLen) {f : List Nat} (hf : frmF s.data.toList = some f) :
    ∃ (j n : Nat), dedK[j]? = some (s.data.toList, []) ∧ dedN[j]? = some n ∧ ∀ W : World, W.heap[M]? = w.heap[M]? → (Instr.lookup 75 (.map (some M)) (.string s) false).run Tryz.prog W = .ok (.func (.func n) #[] #[.pointer (some ⟨bx, 0, none⟩)]) W := by
  have hnd : (dedK.map (·.1)).Nodup := by decide
  obtain ⟨j, n, k1, k2, k3, _⟩ := (dF_at s.data.toList (.lit (.int .i64 (-1))) dedK dedN (.map []) tidy_empty rfl hnd).2 [] (ded_look hf)
  refine ⟨j, n, k1, k2, fun W hW => ?_⟩
  obtain ⟨v, ps, hr, hv⟩ := (omapS h.own hW).lookup lawSb Tryz.underlying75 (zeroD W) (zd := .lit (.int .i64 (-1))) (zp := []) rfl (keyOf_string_mk Tryz.underlying9 hs)
  rw [show dedN.take 13 = dedN from rfl, k3] at hv
  rw [fnE_inv hv] at hr
  exact hr
end Go.Proofs.YtcpomkgfcpfedaaGreatDoor
