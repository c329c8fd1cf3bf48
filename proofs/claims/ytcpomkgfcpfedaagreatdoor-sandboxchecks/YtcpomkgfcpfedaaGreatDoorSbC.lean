/- What stands behind each first word is laid into a map. -/
import Derived.Test.YtcpomkgfcpfedaaGreatDoorSbB
import Derived.Laws.EntriesVeiled
namespace Go.Proofs.YtcpomkgfcpfedaaGreatDoor
open Go.RowKit Go.Shelf Go.Maps Go.WideMaps

theorem lawSb : Keyed Tryz.prog 9 := string_keyed Tryz.underlying9
/-- How a list of parts reads: by its block, and how many there are. -/
def slE (v : Value) : Option (DataW Unit × List MemPlace) := match v with
  | .slice (some ⟨b, 0, none⟩) n c => if n = c ∧ n < 4 then some (.lit (.int .i64 ((4 * b + n : Nat) : Int)), []) else none
  | .slice none 0 0 => some (.lit (.int .i64 (-1)), [])
  | _ => none
theorem slE_mk (b n : Nat) (h : n < 4) : slE (.slice (some ⟨b, 0, none⟩) n n) = some (.lit (.int .i64 ((4 * b + n : Nat) : Int)), []) := by
  show (if n = n ∧ n < 4 then _ else _) = _
  rw [if_pos ⟨rfl, h⟩]
theorem slE_inv {v : Value} {b n : Nat} {ps : List MemPlace} (hn : n < 4) (h : slE v = some (.lit (.int .i64 ((4 * b + n : Nat) : Int)), ps)) : v = .slice (some ⟨b, 0, none⟩) n n := by
  unfold slE at h
  split at h
  · split at h
    · rename_i b2 n2 c2 hc
      injection h with h
      injection h with h _
      injection h with h
      injection h with _ h
      have e : 4 * b2 + n2 = 4 * b + n := by omega
      obtain rfl : b2 = b := by omega
      obtain rfl : n2 = n := by omega
      rw [← hc.1]
    · cases h
  · injection h with h
    injection h with h _
    injection h with h
    injection h with _ h
    omega
  · cases h
theorem zeroL (w : World) : (zeroValue 63).run Tryz.prog w = .ok (.slice none 0 0) w := by kernel_rfl

/-- The parts themselves. -/
def cvP (bn bl bp k : Nat) : Value :=
  if k = 0 then .func (.func 25) #[] #[]
  else if k = 1 then .func (.func 27) #[] #[]
  else if k = 2 then .func (.func 28) #[] #[]
  else if k = 3 then .func (.func 30) #[] #[]
  else if k = 4 then .func (.func 31) #[] #[.pointer (some ⟨bn, 0, none⟩), .pointer (some ⟨bl, 0, none⟩)]
  else if k = 5 then .func (.func 32) #[] #[.pointer (some ⟨bn, 0, none⟩)]
  else if k = 6 then .func (.func 33) #[] #[]
  else if k = 7 then .func (.func 34) #[] #[]
  else .func (.func 36) #[] #[.pointer (some ⟨bp, 0, none⟩)]
/-- The map's datum. -/
def dF : List (List UInt8 × List Nat) → List Nat → DataW Unit → DataW Unit
  | f :: fs, b :: bs, D => dF fs bs (D.put (.string f.1) (.lit (.int .i64 ((4 * b + f.2.length : Nat) : Int))))
  | _, _, D => D
theorem dF_snoc : ∀ (fs : List (List UInt8 × List Nat)) (bs : List Nat) (D : DataW Unit) (b : Nat) (f : List UInt8 × List Nat), fs[bs.length]? = some f → dF fs (bs ++ [b]) D = (dF fs bs D).put (.string f.1) (.lit (.int .i64 ((4 * b + f.2.length : Nat) : Int))) := by
  intro fs
  induction fs with
  | nil => intro bs D b f h; simp at h
  | cons g fs ih =>
    intro bs D b f h
    cases bs with
    | nil =>
      have h' : g = f := by simpa using h
      subst h'
      cases fs <;> rfl
    | cons c bs => exact ih bs _ b f (by simpa using h)
structure FmI (B M bn bl bp lines : Nat) (w0 : World) (bs : List Nat) (w : World) : Prop where
  own : w.ownsMap Tryz.prog 9 slE M bs.length (dF frmL bs (.map []))
  rows : ∀ (j b : Nat), bs[j]? = some b → ∃ f : List UInt8 × List Nat, frmL[j]? = some f ∧ w.heap[b]? = some (.cells (f.2.map (cvP bn bl bp)).toArray 68 (0, 0)) ∧ M < b ∧ b < w.heap.size
  env : PrtE w bn bl bp lines
  lo : B ≤ bn ∧ B ≤ bl ∧ B ≤ bp ∧ bn < M ∧ bl < M ∧ bp < M
  lt : M < w.heap.size
  bel : Below B w0 w
theorem frm_len : ∀ f ∈ frmL, f.2.length < 4 ∧ f.1.length ≤ 4 := by decide

theorem FmI.step {B M bn bl bp lines : Nat} {w0 w w1 : World} {bs : List Nat} {f : List UInt8 × List Nat} (h : FmI B M bn bl bp lines w0 bs w) (hf : frmL[bs.length]? = some f)
    (hown : w1.ownsMap Tryz.prog 9 slE M (bs.length + 1) ((dF frmL bs (.map [])).put (.string f.1) (.lit (.int .i64 ((4 * w.heap.size + f.2.length : Nat) : Int)))))
    (hg : (w.alloc (.cells (f.2.map (cvP bn bl bp)).toArray 68)).grownBy w1 (some M)) : FmI B M bn bl bp lines w0 (bs ++ [w.heap.size]) w1 := by
  have hsz : (w.alloc (.cells (f.2.map (cvP bn bl bp)).toArray 68)).heap.size = w.heap.size + 1 := World.size_alloc _ _
  have hBM : B ≤ M := by have := h.lo; omega
  have hk : ∀ g, g < w.heap.size → g ≠ M → w1.heap[g]? = w.heap[g]? := fun g hlt hne => (hg.block g (by omega) (fun e => hne (Option.some.inj e))).trans (((Below.refl _ w).alloc (Nat.le_refl _) _).block g hlt)
  have hkc : ∀ g v, w.cell? ⟨g, 0, none⟩ = some v → g ≠ M → w1.cell? ⟨g, 0, none⟩ = some v := by
    intro g v hc hne
    have hlt : g < w.heap.size := World.block_lt_of_cell? w ⟨g, 0, none⟩ hc
    have := hk g hlt hne
    unfold World.cell? at hc ⊢
    simp only at hc ⊢
    rw [this]
    exact hc
  have hlt1 : w.heap.size + 1 ≤ w1.heap.size := by rw [← hsz]; exact hg.size
  have hM := h.lt
  refine ⟨?_, ?_, ?_, h.lo, by omega, ?_⟩
  · rw [dF_snoc _ _ _ _ _ hf, List.length_append]
    exact hown
  · intro j b hj
    by_cases hjl : j < bs.length
    · rw [List.getElem?_append_left hjl] at hj
      obtain ⟨f', h1, h2, h3, h4⟩ := h.rows j b hj
      exact ⟨f', h1, (hk b h4 (by omega)).trans h2, h3, by omega⟩
    · rw [List.getElem?_append_right (by omega)] at hj
      have hj0 : j = bs.length := by
        by_cases e : j - bs.length = 0
        · omega
        · rw [List.getElem?_eq_none (by simp; omega)] at hj
          cases hj
      subst hj0
      simp at hj
      subst hj
      refine ⟨f, hf, (hg.block _ (by omega) (fun e => by have := Option.some.inj e; omega)).trans (heap_alloc_new w _), hM, by omega⟩
  · obtain ⟨e1, e2, e3⟩ := h.env
    have := h.lo
    exact ⟨hkc _ _ e1 (by omega), hkc _ _ e2 (by omega), hkc _ _ e3 (by omega)⟩
  · exact (h.bel.alloc (by omega) _).grown hg (by rw [hsz]; omega) (fun j hj => by cases hj; exact hBM)

theorem upon_form {B M bn bl bp lines : Nat} {w0 w : World} {bs : List Nat} {f : List UInt8 × List Nat} {row : Array Value} {nb n : Nat} {ky : ByteArray} {β : Type} {R : Result β → Prop} {c : Unit → World → Result β}
    (h : FmI B M bn bl bp lines w0 bs w) (hf : frmL[bs.length]? = some f) (hrow : row = (f.2.map (cvP bn bl bp)).toArray) (hnb : w.heap.size = nb) (hk : ky = bA f.1) (hn2 : n = f.2.length)
    (hK : ∀ w', FmI B M bn bl bp lines w0 (bs ++ [nb]) w' → R (c () w')) :
    R (((Instr.mapUpdate 40 (.map (some M)) (.string ky) (.slice (some ⟨nb, 0, none⟩) n n)).run Tryz.prog (w.alloc (.cells row 68))).andThen c) := by
  subst hrow hnb hk hn2
  have hlt : bs.length < frmL.length := by
    by_cases hh : bs.length < frmL.length
    · exact hh
    · rw [List.getElem?_eq_none (by omega)] at hf; cases hf
  have hfm : f ∈ frmL := List.mem_of_getElem? hf
  obtain ⟨l1, l2⟩ := frm_len f hfm
  have hn : bs.length < maxLen := by
    have : frmL.length = 13 := rfl
    unfold maxLen
    omega
  have hkey : keyOf Tryz.prog 9 (.string (bA f.1)) = some (.string f.1) := by
    have := keyOf_string_mk (s := bA f.1) Tryz.underlying9 (by unfold maxLen; rw [show (bA f.1).size = f.1.length from size_of rfl]; omega)
    rw [this]
    unfold bA
    simp
  obtain ⟨w', hrun, r1, r2⟩ := (h.own.alloc (.cells (f.2.map (cvP bn bl bp)).toArray 68)).update lawSb Tryz.underlying40 hn hkey (slE_mk w.heap.size f.2.length l1)
  rw [hrun]
  exact hK w' (h.step hf r1 r2)

theorem FmI.first (lines : Nat) (w : World) : FmI w.heap.size (w.heap.size + 1 + 1 + 1) (w.heap.size + 1) w.heap.size (w.heap.size + 1 + 1) lines w [] ((((w.alloc (.cells #[.int .i64 (lines : Int)] 3)).alloc (.cells #[.func (.func 28) #[] #[]] 62)).alloc (.cells #[.func (.func 34) #[] #[]] 62)).alloc (.map #[] 0)) := by
  generalize hA : w.alloc (.cells #[.int .i64 (lines : Int)] 3) = wa
  have sa : wa.heap.size = w.heap.size + 1 := by rw [← hA, World.size_alloc]
  have ca : wa.cell? ⟨w.heap.size, 0, none⟩ = some (.int .i64 (lines : Int)) := by rw [← hA]; simp [go_sem]
  have ba : Below w.heap.size w wa := by rw [← hA]; exact (Below.refl _ w).alloc (Nat.le_refl _) _
  clear hA
  generalize hB : wa.alloc (.cells #[.func (.func 28) #[] #[]] 62) = wb
  have sb : wb.heap.size = w.heap.size + 1 + 1 := by rw [← hB, World.size_alloc, sa]
  have cb : wb.cell? ⟨w.heap.size + 1, 0, none⟩ = some (.func (.func 28) #[] #[]) := by rw [← hB, ← sa]; simp [go_sem]
  have cb2 : wb.cell? ⟨w.heap.size, 0, none⟩ = some (.int .i64 (lines : Int)) := by rw [← hB, World.cell?_alloc_old _ _ _ (by simp only; omega)]; exact ca
  have bb : Below w.heap.size w wb := by rw [← hB]; exact ba.alloc (by omega) _
  clear hB
  generalize hC : wb.alloc (.cells #[.func (.func 34) #[] #[]] 62) = wc
  have sc : wc.heap.size = w.heap.size + 1 + 1 + 1 := by rw [← hC, World.size_alloc, sb]
  have cc : wc.cell? ⟨w.heap.size + 1 + 1, 0, none⟩ = some (.func (.func 34) #[] #[]) := by rw [← hC, ← sb]; simp [go_sem]
  have cc2 : wc.cell? ⟨w.heap.size, 0, none⟩ = some (.int .i64 (lines : Int)) := by rw [← hC, World.cell?_alloc_old _ _ _ (by simp only; omega)]; exact cb2
  have cc3 : wc.cell? ⟨w.heap.size + 1, 0, none⟩ = some (.func (.func 28) #[] #[]) := by rw [← hC, World.cell?_alloc_old _ _ _ (by simp only; omega)]; exact cb
  have bc : Below w.heap.size w wc := by rw [← hC]; exact bb.alloc (by omega) _
  clear hC
  refine ⟨?_, fun j b h => by simp at h, ⟨?_, ?_, ?_⟩, ⟨by omega, by omega, by omega, by omega, by omega, by omega⟩, by rw [World.size_alloc]; omega, bc.alloc (by omega) _⟩
  · have := World.ownsMap_made (H := Unit) wc Tryz.prog 9 slE
    rw [sc] at this
    exact this
  · rw [World.cell?_alloc_old _ _ _ (by simp only; omega)]; exact cc3
  · rw [World.cell?_alloc_old _ _ _ (by simp only; omega)]; exact cc2
  · rw [World.cell?_alloc_old _ _ _ (by simp only; omega)]; exact cc

set_option maxHeartbeats 4000000 in
set_option maxRecDepth 100000 in
theorem newForms_any (lines : Nat) (w : World) :
    Calls Tryz.prog 13 #[.int .i64 (lines : Int)] w fun e w' => ∃ M bn bl bp bs, e = .returned (.map (some M)) ∧ bs.length = 13 ∧ FmI w.heap.size M bn bl bp lines w bs w' := by
  have hmm := @run_makeMap Tryz.prog
  have HF : Hid (FmI w.heap.size (w.heap.size + 1 + 1 + 1) (w.heap.size + 1) w.heap.size (w.heap.size + 1 + 1) lines w [] ((((w.alloc (.cells #[.int .i64 (lines : Int)] 3)).alloc (.cells #[.func (.func 28) #[] #[]] 62)).alloc (.cells #[.func (.func 34) #[] #[]] 62)).alloc (.map #[] 0))) := FmI.first lines w
  go_enter Tryz.func13, Tryz.ntmps13
  go_wp2
  iterate 13
    refine upon_form (R := Oper.upon _ _ _ _ _) HF.out (by rfl) (by rfl) (by first | rfl | simp only [World.size_alloc]) (by rfl) (by rfl) ?_
    intro w1 hf1
    clear HF
    have HF : Hid _ := hf1
    obtain ⟨cn, _, cp⟩ := hf1.env
    clear hf1
    go_wp2
    clear cn cp
  go_ret
  exact ⟨_, _, _, _, _, rfl, rfl, HF.out⟩
end Go.Proofs.YtcpomkgfcpfedaaGreatDoor
