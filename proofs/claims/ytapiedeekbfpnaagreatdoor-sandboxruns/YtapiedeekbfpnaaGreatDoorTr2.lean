/- What stands behind each first word is laid into a map. -/
import Derived.Laws.EntriesVeiled
import Derived.Shelf.Strings.Cut
import Derived.ProofKit
import Derived.Below
import Derived.Lib.SmallJoins
import Derived.Deep.QuietTactic
import Derived.Test.YtapiedeekbfpnaaGreatDoorChecked
import Derived.Test.YtapiedeekbfpnaaGreatDoorTr1
namespace Go.Proofs.YtapiedeekbfpnaaGreatDoor
open Go.RowKit Go.Shelf Go.Maps Go.WideMaps

theorem lawSb : Keyed Tryz.prog 9 := string_keyed Tryz.underlying9
/-- How a list of parts reads: by its block, and how many there are. -/
def slE (v : Value) : Option (DataW Unit × List MemPlace) := match v with
  | .slice (some ⟨b, 0, none⟩) n c => if n = c ∧ n < 4 then some (.lit (.int .i64 ((4 * b + n : Nat) : Int)), []) else none
  | .slice none 0 0 => some (.lit (.int .i64 (-1)), [])
  | _ => none
theorem slE_mk (b n : Nat) (h : n < 4) : slE (.slice (some ⟨b, 0, none⟩) n n) = some (.lit (.int .i64 ((4 * b + n : Nat) : Int)), []) := by
  show (if n = n ∧ n < 4 then _ else _) = _
  rw [if_pos ⟨rfl, h⟩]
theorem slE_inv {v : Value} {b n : Nat} {ps : List MemPlace} (hn : n < 4) (h : slE v = some (.lit (.int .i64 ((4 * b + n : Nat) : Int)), ps)) : v = .slice (some ⟨b, 0, none⟩) n n := by
  unfold slE at h
  split at h
  · split at h
    · rename_i b2 n2 c2 hc
      injection h with h
      injection h with h _
      injection h with h
      injection h with _ h
      have e : 4 * b2 + n2 = 4 * b + n := by omega
      obtain rfl : b2 = b := by omega
      obtain rfl : n2 = n := by omega
      rw [← hc.1]
    · cases h
  · injection h with h
    injection h with h _
    injection h with h
    injection h with _ h
    omega
  · cases h
theorem zeroL (w : World) : (zeroValue 94).run Tryz.prog w = .ok (.slice none 0 0) w := by kernel_rfl

/-- The parts themselves. -/
def cvP (bn bl bp k : Nat) : Value :=
  if k = 0 then .func (.func 54) #[] #[]
  else if k = 1 then .func (.func 56) #[] #[]
  else if k = 2 then .func (.func 57) #[] #[]
  else if k = 3 then .func (.func 59) #[] #[]
  else if k = 4 then .func (.func 60) #[] #[.pointer (some ⟨bn, 0, none⟩), .pointer (some ⟨bl, 0, none⟩)]
  else if k = 5 then .func (.func 61) #[] #[.pointer (some ⟨bn, 0, none⟩)]
  else if k = 6 then .func (.func 62) #[] #[]
  else if k = 7 then .func (.func 63) #[] #[]
  else .func (.func 64) #[] #[.pointer (some ⟨bp, 0, none⟩)]
/-- The map's datum. -/
def dF : List (List UInt8 × List Nat) → List Nat → DataW Unit → DataW Unit
  | f :: fs, b :: bs, D => dF fs bs (D.put (.string f.1) (.lit (.int .i64 ((4 * b + f.2.length : Nat) : Int))))
  | _, _, D => D
theorem dF_snoc : ∀ (fs : List (List UInt8 × List Nat)) (bs : List Nat) (D : DataW Unit) (b : Nat) (f : List UInt8 × List Nat), fs[bs.length]? = some f → dF fs (bs ++ [b]) D = (dF fs bs D).put (.string f.1) (.lit (.int .i64 ((4 * b + f.2.length : Nat) : Int))) := by
  intro fs
  induction fs with
  | nil => intro bs D b f h; simp at h
  | cons g fs ih =>
    intro bs D b f h
    cases bs with
    | nil =>
      have h' : g = f := by simpa using h
      subst h'
      cases fs <;> rfl
    | cons c bs => exact ih bs _ b f (by simpa using h)
structure FmI (B M bn bl bp lines : Nat) (w0 : World) (bs : List Nat) (w : World) : Prop where
  own : w.ownsMap Tryz.prog 9 slE M bs.length (dF frmL bs (.map []))
  rows : ∀ (j b : Nat), bs[j]? = some b → ∃ f : List UInt8 × List Nat, frmL[j]? = some f ∧ w.heap[b]? = some (.cells (f.2.map (cvP bn bl bp)).toArray 99 (0, 0)) ∧ M < b ∧ b < w.heap.size
  env : PrtE w bn bl bp lines
  lo : B ≤ bn ∧ B ≤ bl ∧ B ≤ bp ∧ bn < M ∧ bl < M ∧ bp < M
  lt : M < w.heap.size
  bel : Below B w0 w
theorem frm_len : ∀ f ∈ frmL, f.2.length < 4 ∧ f.1.length ≤ 4 := by decide

theorem FmI.step {B M bn bl bp lines : Nat} {w0 w w1 : World} {bs : List Nat} {f : List UInt8 × List Nat} (h : FmI B M bn bl bp lines w0 bs w) (hf : frmL[bs.length]? = some f)
    (hown : w1.ownsMap Tryz.prog 9 slE M (bs.length + 1) ((dF frmL bs (.map [])).put (.string f.1) (.lit (.int .i64 ((4 * w.heap.size + f.2.length : Nat) : Int)))))
    (hg : (w.alloc (.cells (f.2.map (cvP bn bl bp)).toArray 99)).grownBy w1 (some M)) : FmI B M bn bl bp lines w0 (bs ++ [w.heap.size]) w1 := by
  have hsz : (w.alloc (.cells (f.2.map (cvP bn bl bp)).toArray 99)).heap.size = w.heap.size + 1 := World.size_alloc _ _
  have hBM : B ≤ M := by have := h.lo; omega
  have hk : ∀ g, g < w.heap.size → g ≠ M → w1.heap[g]? = w.heap[g]? := fun g hlt hne => (hg.block g (by omega) (fun e => hne (Option.some.inj e))).trans (((Below.refl _ w).alloc (Nat.le_refl _) _).block g hlt)
  have hkc : ∀ g v, w.cell? ⟨g, 0, none⟩ = some v → g ≠ M → w1.cell? ⟨g, 0, none⟩ = some v := by
    intro g v hc hne
    have hlt : g < w.heap.size := World.block_lt_of_cell? w ⟨g, 0, none⟩ hc
    have := hk g hlt hne
    unfold World.cell? at hc ⊢
    simp only at hc ⊢
    rw [this]
    exact hc
  have hlt1 : w.heap.size + 1 ≤ w1.heap.size := by rw [← hsz]; exact hg.size
  have hM := h.lt
  refine ⟨?_, ?_, ?_, h.lo, by omega, ?_⟩
  · rw [dF_snoc _ _ _ _ _ hf, List.length_append]
    exact hown
  · intro j b hj
    by_cases hjl : j < bs.length
    · rw [List.getElem?_append_left hjl] at hj
      obtain ⟨f', h1, h2, h3, h4⟩ := h.rows j b hj
      exact ⟨f', h1, (hk b h4 (by omega)).trans h2, h3, by omega⟩
    · rw [List.getElem?_append_right (by omega)] at hj
      have hj0 : j = bs.length := by
        by_cases e : j - bs.length = 0
        · omega
        · rw [List.getElem?_eq_none (by simp; omega)] at hj
          cases hj
      subst hj0
      simp at hj
      subst hj
      refine ⟨f, hf, (hg.block _ (by omega) (fun e => by have := Option.some.inj e; omega)).trans (heap_alloc_new w _), hM, by omega⟩
  · obtain ⟨e1, e2, e3⟩ := h.env
    have := h.lo
    exact ⟨hkc _ _ e1 (by omega), hkc _ _ e2 (by omega), hkc _ _ e3 (by omega)⟩
  · exact (h.bel.alloc (by omega) _).grown hg (by rw [hsz]; omega) (fun j hj => by cases hj; exact hBM)

theorem upon_form {B M bn bl bp lines : Nat} {w0 w : World} {bs : List Nat} {f : List UInt8 × List Nat} {row : Array Value} {nb n : Nat} {ky : ByteArray} {β : Type} {R : Result β → Prop} {c : Unit → World → Result β}
    (h : FmI B M bn bl bp lines w0 bs w) (hf : frmL[bs.length]? = some f) (hrow : row = (f.2.map (cvP bn bl bp)).toArray) (hnb : w.heap.size = nb) (hk : ky = bA f.1) (hn2 : n = f.2.length)
    (hK : ∀ w', FmI B M bn bl bp lines w0 (bs ++ [nb]) w' → R (c () w')) :
    R (((Instr.mapUpdate 64 (.map (some M)) (.string ky) (.slice (some ⟨nb, 0, none⟩) n n)).run Tryz.prog (w.alloc (.cells row 99))).andThen c) := by
  subst hrow hnb hk hn2
  have hlt : bs.length < frmL.length := by
    by_cases hh : bs.length < frmL.length
    · exact hh
    · rw [List.getElem?_eq_none (by omega)] at hf; cases hf
  have hfm : f ∈ frmL := List.mem_of_getElem? hf
  obtain ⟨l1, l2⟩ := frm_len f hfm
  have hn : bs.length < maxLen := by
    have : frmL.length = 13 := rfl
    unfold maxLen
    omega
  have hkey : keyOf Tryz.prog 9 (.string (bA f.1)) = some (.string f.1) := by
    have := keyOf_string_mk (s := bA f.1) Tryz.underlying9 (by unfold maxLen; rw [show (bA f.1).size = f.1.length from size_of rfl]; omega)
    rw [this]
    unfold bA
    simp
  obtain ⟨w', hrun, r1, r2⟩ := (h.own.alloc (.cells (f.2.map (cvP bn bl bp)).toArray 99)).update lawSb Tryz.underlying64 hn hkey (slE_mk w.heap.size f.2.length l1)
  rw [hrun]
  exact hK w' (h.step hf r1 r2)

theorem FmI.first (lines : Nat) (w : World) : FmI w.heap.size (w.heap.size + 1 + 1 + 1) (w.heap.size + 1) w.heap.size (w.heap.size + 1 + 1) lines w [] ((((w.alloc (.cells #[.int .i64 (lines : Int)] 3)).alloc (.cells #[.func (.func 57) #[] #[]] 93)).alloc (.cells #[.func (.func 63) #[] #[]] 93)).alloc (.map #[] 0)) := by
  generalize hA : w.alloc (.cells #[.int .i64 (lines : Int)] 3) = wa
  have sa : wa.heap.size = w.heap.size + 1 := by rw [← hA, World.size_alloc]
  have ca : wa.cell? ⟨w.heap.size, 0, none⟩ = some (.int .i64 (lines : Int)) := by rw [← hA]; simp [go_sem]
  have ba : Below w.heap.size w wa := by rw [← hA]; exact (Below.refl _ w).alloc (Nat.le_refl _) _
  clear hA
  generalize hB : wa.alloc (.cells #[.func (.func 57) #[] #[]] 93) = wb
  have sb : wb.heap.size = w.heap.size + 1 + 1 := by rw [← hB, World.size_alloc, sa]
  have cb : wb.cell? ⟨w.heap.size + 1, 0, none⟩ = some (.func (.func 57) #[] #[]) := by rw [← hB, ← sa]; simp [go_sem]
  have cb2 : wb.cell? ⟨w.heap.size, 0, none⟩ = some (.int .i64 (lines : Int)) := by rw [← hB, World.cell?_alloc_old _ _ _ (by simp only; omega)]; exact ca
  have bb : Below w.heap.size w wb := by rw [← hB]; exact ba.alloc (by omega) _
  clear hB
  generalize hC : wb.alloc (.cells #[.func (.func 63) #[] #[]] 93) = wc
  have sc : wc.heap.size = w.heap.size + 1 + 1 + 1 := by rw [← hC, World.size_alloc, sb]
  have cc : wc.cell? ⟨w.heap.size + 1 + 1, 0, none⟩ = some (.func (.func 63) #[] #[]) := by rw [← hC, ← sb]; simp [go_sem]
  have cc2 : wc.cell? ⟨w.heap.size, 0, none⟩ = some (.int .i64 (lines : Int)) := by rw [← hC, World.cell?_alloc_old _ _ _ (by simp only; omega)]; exact cb2
  have cc3 : wc.cell? ⟨w.heap.size + 1, 0, none⟩ = some (.func (.func 57) #[] #[]) := by rw [← hC, World.cell?_alloc_old _ _ _ (by simp only; omega)]; exact cb
  have bc : Below w.heap.size w wc := by rw [← hC]; exact bb.alloc (by omega) _
  clear hC
  refine ⟨?_, fun j b h => by simp at h, ⟨?_, ?_, ?_⟩, ⟨by omega, by omega, by omega, by omega, by omega, by omega⟩, by rw [World.size_alloc]; omega, bc.alloc (by omega) _⟩
  · have := World.ownsMap_made (H := Unit) wc Tryz.prog 9 slE
    rw [sc] at this
    exact this
  · rw [World.cell?_alloc_old _ _ _ (by simp only; omega)]; exact cc3
  · rw [World.cell?_alloc_old _ _ _ (by simp only; omega)]; exact cc2
  · rw [World.cell?_alloc_old _ _ _ (by simp only; omega)]; exact cc

set_option maxHeartbeats 4000000 in
set_option maxRecDepth 100000 in
theorem newForms_any (lines : Nat) (w : World) :
    Calls Tryz.prog 34 #[.int .i64 (lines : Int)] w fun e w' => ∃ M bn bl bp bs, e = .returned (.map (some M)) ∧ bs.length = 13 ∧ FmI w.heap.size M bn bl bp lines w bs w' := by
  have hmm := @run_makeMap Tryz.prog
  have HF : Hid (FmI w.heap.size (w.heap.size + 1 + 1 + 1) (w.heap.size + 1) w.heap.size (w.heap.size + 1 + 1) lines w [] ((((w.alloc (.cells #[.int .i64 (lines : Int)] 3)).alloc (.cells #[.func (.func 57) #[] #[]] 93)).alloc (.cells #[.func (.func 63) #[] #[]] 93)).alloc (.map #[] 0))) := FmI.first lines w
  go_enter Tryz.func34, Tryz.ntmps34
  go_wp2
  iterate 13
    refine upon_form (R := Oper.upon _ _ _ _ _) HF.out (by rfl) (by rfl) (by first | rfl | simp only [World.size_alloc]) (by rfl) (by rfl) ?_
    intro w1 hf1
    clear HF
    have HF : Hid _ := hf1
    obtain ⟨cn, _, cp⟩ := hf1.env
    clear hf1
    go_wp2
    clear cn cp
  go_ret
  exact ⟨_, _, _, _, _, rfl, rfl, HF.out⟩
end Go.Proofs.YtapiedeekbfpnaaGreatDoor

/- A line is taken apart. -/
namespace Go.Proofs.YtapiedeekbfpnaaGreatDoor
open Go.RowKit Go.Shelf Go.Maps Go.WideMaps

def laysCt_ren : Go.Shelf.Ren := ⟨fun | 145 => 65 | 220 => 109 | 219 => 131 | 217 => 151 | 225 => 152 | 224 => 153 | 267 => 154 | 266 => 170 | 314 => 171 | n => n, fun | 9 => 9 | 4 => 4 | 59 => 95 | 3 => 3 | 5 => 5 | 46 => 134 | 146 => 168 | 51 => 126 | n => n, fun | 1 => 2 | n => n⟩
theorem laysCt : Go.Proofs.Lays.n145 Tryz.prog laysCt_ren := {
  mixed := by kernel_rfl
  f145 := Tryz.func65.trans (congrArg some (by kernel_rfl))
  f217 := Tryz.func151.trans (congrArg some (by kernel_rfl))
  f219 := Tryz.func131.trans (congrArg some (by kernel_rfl))
  f220 := Tryz.func109.trans (congrArg some (by kernel_rfl))
  f224 := Tryz.func153.trans (congrArg some (by kernel_rfl))
  f225 := Tryz.func152.trans (congrArg some (by kernel_rfl))
  f266 := Tryz.func170.trans (congrArg some (by kernel_rfl))
  f267 := Tryz.func154.trans (congrArg some (by kernel_rfl))
  f314 := Tryz.func171.trans (congrArg some (by kernel_rfl))
  t3 := Tryz.underlying3
  a3 := Tryz.isAgg3
  z3 := Tryz.sizeOf3
  v3 := Tryz.zeroValue3
  t4 := Tryz.underlying4
  a4 := Tryz.isAgg4
  z4 := Tryz.sizeOf4
  v4 := Tryz.zeroValue4
  t5 := Tryz.underlying5
  a5 := Tryz.isAgg5
  z5 := Tryz.sizeOf5
  v5 := Tryz.zeroValue5
  t9 := Tryz.underlying9
  a9 := Tryz.isAgg9
  z9 := Tryz.sizeOf9
  v9 := Tryz.zeroValue9
  t46 := Tryz.underlying134
  a46 := Tryz.isAgg134
  z46 := Tryz.sizeOf134
  v46 := Tryz.zeroValue134
  t51 := Tryz.underlying126
  a51 := Tryz.isAgg126
  z51 := Tryz.sizeOf126
  v51 := Tryz.zeroValue126
  t59 := Tryz.underlying95
  a59 := Tryz.isAgg95
  z59 := Tryz.sizeOf95
  v59 := Tryz.zeroValue95
  t146 := Tryz.underlying168
  a146 := Tryz.isAgg168
  z146 := Tryz.sizeOf168
  v146 := Tryz.zeroValue168
  g1 := by kernel_rfl }

def laysSN_ren : Ren := ⟨fun | 138 => 133 | 143 => 134 | 147 => 66 | 195 => 155 | 197 => 156 | 217 => 151 | 218 => 157 | 219 => 131 | 221 => 110 | 224 => 153 | 225 => 152 | 260 => 172 | 266 => 170 | 267 => 154 | 268 => 132 | 314 => 171 | n => n, fun | 0 => 0 | 3 => 3 | 4 => 4 | 5 => 5 | 9 => 9 | 21 => 21 | 31 => 23 | 46 => 134 | 51 => 126 | 105 => 154 | 119 => 176 | 138 => 178 | 139 => 179 | 146 => 168 | n => n, fun | 1 => 2 | 3 => 4 | 4 => 5 | n => n⟩
theorem laysSN : Go.Proofs.Lays.n147 Tryz.prog laysSN_ren := {
  mixed := by kernel_rfl
  f138 := Tryz.func133.trans (congrArg some (by kernel_rfl))
  f143 := Tryz.func134.trans (congrArg some (by kernel_rfl))
  f147 := Tryz.func66.trans (congrArg some (by kernel_rfl))
  f195 := Tryz.func155.trans (congrArg some (by kernel_rfl))
  f197 := Tryz.func156.trans (congrArg some (by kernel_rfl))
  f217 := Tryz.func151.trans (congrArg some (by kernel_rfl))
  f218 := Tryz.func157.trans (congrArg some (by kernel_rfl))
  f219 := Tryz.func131.trans (congrArg some (by kernel_rfl))
  f221 := Tryz.func110.trans (congrArg some (by kernel_rfl))
  f224 := Tryz.func153.trans (congrArg some (by kernel_rfl))
  f225 := Tryz.func152.trans (congrArg some (by kernel_rfl))
  f260 := Tryz.func172.trans (congrArg some (by kernel_rfl))
  f266 := Tryz.func170.trans (congrArg some (by kernel_rfl))
  f267 := Tryz.func154.trans (congrArg some (by kernel_rfl))
  f268 := Tryz.func132.trans (congrArg some (by kernel_rfl))
  f314 := Tryz.func171.trans (congrArg some (by kernel_rfl))
  t0 := Tryz.underlying0
  a0 := Tryz.isAgg0
  z0 := Tryz.sizeOf0
  v0 := Tryz.zeroValue0
  t3 := Tryz.underlying3
  a3 := Tryz.isAgg3
  z3 := Tryz.sizeOf3
  v3 := Tryz.zeroValue3
  t4 := Tryz.underlying4
  a4 := Tryz.isAgg4
  z4 := Tryz.sizeOf4
  v4 := Tryz.zeroValue4
  t5 := Tryz.underlying5
  a5 := Tryz.isAgg5
  z5 := Tryz.sizeOf5
  v5 := Tryz.zeroValue5
  t9 := Tryz.underlying9
  a9 := Tryz.isAgg9
  z9 := Tryz.sizeOf9
  v9 := Tryz.zeroValue9
  t21 := Tryz.underlying21
  a21 := Tryz.isAgg21
  z21 := Tryz.sizeOf21
  v21 := Tryz.zeroValue21
  t31 := Tryz.underlying23
  a31 := Tryz.isAgg23
  z31 := Tryz.sizeOf23
  v31 := Tryz.zeroValue23
  t46 := Tryz.underlying134
  a46 := Tryz.isAgg134
  z46 := Tryz.sizeOf134
  v46 := Tryz.zeroValue134
  t51 := Tryz.underlying126
  a51 := Tryz.isAgg126
  z51 := Tryz.sizeOf126
  v51 := Tryz.zeroValue126
  t105 := Tryz.underlying154
  a105 := Tryz.isAgg154
  z105 := Tryz.sizeOf154
  v105 := Tryz.zeroValue154
  t119 := Tryz.underlying176
  a119 := Tryz.isAgg176
  z119 := Tryz.sizeOf176
  t138 := Tryz.underlying178
  a138 := Tryz.isAgg178
  z138 := Tryz.sizeOf178
  v138 := Tryz.zeroValue178
  t139 := Tryz.underlying179
  a139 := Tryz.isAgg179
  z139 := Tryz.sizeOf179
  v139 := Tryz.zeroValue179
  t146 := Tryz.underlying168
  a146 := Tryz.isAgg168
  z146 := Tryz.sizeOf168
  v146 := Tryz.zeroValue168
  g1 := by kernel_rfl
  g3 := by kernel_rfl
  g4 := by kernel_rfl }

theorem omapS {H : Type} {w w' : World} {P : Program} {k : TypeId} {R : Value → Option (DataW H × List MemPlace)} {b n : Nat} {D : DataW H} (h : w.ownsMap P k R b n D) (hh : w'.heap[b]? = w.heap[b]?) : w'.ownsMap P k R b n D := by
  obtain ⟨es, clock, hb, rest⟩ := h
  exact ⟨es, clock, hh.trans hb, rest⟩
theorem dF_at (x : List UInt8) (z : DataW Unit) : ∀ (fs : List (List UInt8 × List Nat)) (bs : List Nat) (D : DataW Unit), Tidy D → fs.length = bs.length → (fs.map (·.1)).Nodup →
    (fs.lookup x = none → (dF fs bs D).atKey (.string x) z = D.atKey (.string x) z ∧ Maps.has (dF fs bs D) (.string x) = Maps.has D (.string x)) ∧
    (∀ f, fs.lookup x = some f → ∃ (j b : Nat), fs[j]? = some (x, f) ∧ bs[j]? = some b ∧ (dF fs bs D).atKey (.string x) z = .lit (.int .i64 ((4 * b + f.length : Nat) : Int)) ∧ Maps.has (dF fs bs D) (.string x) = true) := by
  intro fs
  induction fs with
  | nil =>
    intro bs D _ _ _
    refine ⟨fun _ => ?_, fun f h => by cases h⟩
    cases bs <;> exact ⟨rfl, rfl⟩
  | cons g fs ih =>
    intro bs D hD hl hn
    cases bs with
    | nil => cases hl
    | cons b bs =>
      have hD2 : Tidy (D.put (.string g.1) (.lit (.int .i64 ((4 * b + g.2.length : Nat) : Int)))) := hD.put (by exact trivial) _
      rw [List.map_cons, List.nodup_cons] at hn
      obtain ⟨i1, i2⟩ := ih bs (D.put (.string g.1) (.lit (.int .i64 ((4 * b + g.2.length : Nat) : Int)))) hD2 (by simpa using hl) hn.2
      have hlk : (g :: fs).lookup x = if x = g.1 then some g.2 else fs.lookup x := by
        obtain ⟨g1, g2⟩ := g
        rw [List.lookup_cons]
        by_cases e : x = g1
        · subst e; simp
        · rw [if_neg e, beq_eq_false_iff_ne.2 e]
      rw [hlk]
      by_cases e : x = g.1
      · rw [if_pos e]
        refine ⟨fun h => absurd h (by simp), fun f h => ?_⟩
        obtain rfl := Option.some.inj h
        have hno : fs.lookup x = none := by
          cases hq : fs.lookup x with
          | none => rfl
          | some f2 =>
            exfalso
            exact hn.1 (by rw [← e]; exact List.mem_map.2 ⟨(x, f2), lookup_mem x fs hq, rfl⟩)
        obtain ⟨k1, k2⟩ := i1 hno
        refine ⟨0, b, by rw [e]; rfl, rfl, ?_, ?_⟩
        · show (dF fs bs _).atKey _ _ = _
          rw [k1, e, atKey_put_same hD.isMap (by exact trivial)]
        · show Maps.has (dF fs bs _) _ = _
          rw [k2, e, has_put_same hD.isMap (by exact trivial)]
      · rw [if_neg e]
        refine ⟨fun h => ?_, fun f h => ?_⟩
        · obtain ⟨k1, k2⟩ := i1 h
          refine ⟨?_, ?_⟩
          · show (dF fs bs _).atKey _ _ = _
            rw [k1, atKey_put_other (fun h => e (by injection h))]
          · show Maps.has (dF fs bs _) _ = _
            rw [k2, has_put_other (fun h => e (by injection h))]
        · obtain ⟨j, b2, k1, k2, k3, k4⟩ := i2 f h
          exact ⟨j + 1, b2, k1, k2, k3, k4⟩
theorem frm_nodup : (frmL.map (·.1)).Nodup := by decide

theorem look_no {B M bn bl bp lines : Nat} {w0 w : World} {bs : List Nat} (h : FmI B M bn bl bp lines w0 bs w) (hl : bs.length = 13) (s : ByteArray) (hs : s.size ≤ maxLen) (hf : frmF s.data.toList = none) :
    ∀ W : World, W.heap[M]? = w.heap[M]? → ∃ v, (Instr.lookup 64 (.map (some M)) (.string s) true).run Tryz.prog W = .ok (.tuple #[v, .bool false]) W := by
  intro W hW
  obtain ⟨v, ps, hr, hv⟩ := (omapS h.own hW).look_ok lawSb Tryz.underlying64 (zeroL W) (zd := .lit (.int .i64 (-1))) (zp := []) rfl (keyOf_string_mk Tryz.underlying9 hs)
  have := ((dF_at s.data.toList (.lit (.int .i64 (-1))) frmL bs (.map []) tidy_empty (by rw [hl]; rfl) frm_nodup).1 hf).2
  rw [this] at hr
  exact ⟨v, hr⟩
theorem look_yes {B M bn bl bp lines : Nat} {w0 w : World} {bs : List Nat} (h : FmI B M bn bl bp lines w0 bs w) (hl : bs.length = 13) (s : ByteArray) (hs : s.size ≤ maxLen) {f : List Nat} (hf : frmF s.data.toList = some f) :
    ∃ b, w.heap[b]? = some (.cells (f.map (cvP bn bl bp)).toArray 99 (0, 0)) ∧ ∀ W : World, W.heap[M]? = w.heap[M]? → (Instr.lookup 64 (.map (some M)) (.string s) true).run Tryz.prog W = .ok (.tuple #[.slice (some ⟨b, 0, none⟩) f.length f.length, .bool true]) W := by
  obtain ⟨j, b, k1, k2, k3, k4⟩ := (dF_at s.data.toList (.lit (.int .i64 (-1))) frmL bs (.map []) tidy_empty (by rw [hl]; rfl) frm_nodup).2 f hf
  obtain ⟨f', h1, h2, h3, h4⟩ := h.rows j b k2
  obtain rfl := Option.some.inj (k1.symm.trans h1)
  refine ⟨b, h2, fun W hW => ?_⟩
  obtain ⟨v, ps, hr, hv⟩ := (omapS h.own hW).look_ok lawSb Tryz.underlying64 (zeroL W) (zd := .lit (.int .i64 (-1))) (zp := []) rfl (keyOf_string_mk Tryz.underlying9 hs)
  rw [k3] at hv
  rw [k4, slE_inv (frm_len _ (List.mem_of_getElem? k1)).1 hv] at hr
  exact hr

/-- What SplitN answers, in memory. -/
theorem splitN_any (s : ByteArray) (k : Nat) (w : World) (hs : s.size ≤ 1000000) (hk : k ≤ 3) (h3 : k ≤ s.size) (hm : MaxIs w) :
    Calls Tryz.prog 66 #[.string s, .string blank, .int .i64 ((1 + k : Nat) : Int)] w fun e w' => e = .returned (.slice (some ⟨w.heap.size, 0, none⟩) (wdN k s.data.toList).length (1 + k)) ∧ (∀ j, j < (wdN k s.data.toList).length → w'.cell? ⟨w.heap.size, j, none⟩ = some (.string (bA ((wdN k s.data.toList).getD j [])))) ∧ w.heap.size < w'.heap.size ∧ Below w.heap.size w w' := by
  obtain ⟨m, hm⟩ := hm
  have h := Any.strings_SplitN laysSN (by kernel_rfl) s blank (1 + k) m w (by omega) hm (by decide) (by omega) (by omega)
  rw [show min (1 + k) (s.size + 1) = 1 + k by omega, show 1 + k - 1 = k by omega] at h
  have hd := Lib.splitB_data blank 0 k s
  have hlen : (Lib.splitB blank 0 k s).length = (wdN k s.data.toList).length := by
    show _ = (Lib.splitK [32] 0 k s.data.toList).length
    rw [← show (Lib.splitB blank 0 k s).map (·.data.toList) = Lib.splitK [32] 0 k s.data.toList from hd, List.length_map]
  rw [hlen] at h
  refine h.mono ?_
  rintro e w' ⟨rfl, rfl⟩
  refine ⟨rfl, fun j hj => ?_, by rw [World.size_alloc]; omega, (Below.refl _ w).alloc (Nat.le_refl _) _⟩
  rw [Lib.cell_of_heap (heap_alloc_new w _)]
  unfold Lib.cellsOf
  rw [List.getElem?_toArray, List.getElem?_append_left (by rw [List.length_map]; omega), List.getElem?_map, List.getElem?_eq_getElem (by omega)]
  have e2 : (wdN k s.data.toList).getD j [] = ((Lib.splitB blank 0 k s)[j]'(by omega)).data.toList := by
    have : wdN k s.data.toList = (Lib.splitB blank 0 k s).map (·.data.toList) := hd.symm
    rw [this, List.getD_eq_getElem?_getD, List.getElem?_map, List.getElem?_eq_getElem (by omega)]
    rfl
  rw [e2, bA_data]
  rfl
theorem Cut_blank (s : ByteArray) (w : World) (hs : s.size ≤ 1000000) (hm : MaxIs w) :
    Calls Tryz.prog 65 #[.string s, .string blank] w fun e w' => ∃ r b, e = .returned (.tuple #[.string (bA (Lib.cut s.data.toList [32]).1), r, b]) ∧ ∃ n, w' = w.drewN n := by
  obtain ⟨m, hm⟩ := hm
  refine (Any.strings_Cut laysCt s blank m w (by omega) hm).mono ?_
  rintro e w' ⟨rfl, n, rfl⟩
  exact ⟨_, _, rfl, n, rfl⟩

theorem FmI.keep {B M bn bl bp lines : Nat} {w0 w w' : World} {bs : List Nat} (h : FmI B M bn bl bp lines w0 bs w) (hb : Below w.heap.size w w') (hB : B ≤ w.heap.size) : FmI B M bn bl bp lines w0 bs w' := by
  have hc : ∀ g v, w.cell? ⟨g, 0, none⟩ = some v → w'.cell? ⟨g, 0, none⟩ = some v := fun g v hc => (hb.cell (p := ⟨g, 0, none⟩) (World.block_lt_of_cell? w ⟨g, 0, none⟩ hc)).trans hc
  obtain ⟨e1, e2, e3⟩ := h.env
  refine ⟨omapS h.own (hb.block M h.lt), fun j b hj => ?_, ⟨hc _ _ e1, hc _ _ e2, hc _ _ e3⟩, h.lo, Nat.lt_of_lt_of_le h.lt hb.size, ?_⟩
  · obtain ⟨f, q1, q2, q3, q4⟩ := h.rows j b hj
    exact ⟨f, q1, (hb.block b q4).trans q2, q3, Nat.lt_of_lt_of_le q4 hb.size⟩
  · exact ⟨hb.os.trans h.bel.os, hb.tape.trans h.bel.tape, hb.output.trans h.bel.output, Nat.le_trans h.bel.size hb.size, fun g hg => (hb.block g (by omega)).trans (h.bel.block g hg)⟩

/-- What a line comes to. -/
def linV (lines : Nat) (s : List UInt8) : Array Value := match linF lines s with
  | some l => #[.agg (lnC l), .bool true]
  | none => #[.agg (lnC Ln.none), .bool false]

set_option maxHeartbeats 2000000 in
set_option maxRecDepth 100000 in
theorem lineOf_no {B M bn bl bp lines : Nat} {w0 w : World} {bs : List Nat} (h : FmI B M bn bl bp lines w0 bs w) (hl : bs.length = 13) (s : ByteArray) (hs : s.size ≤ 100000) (hm : MaxIs w) (hf : frmF (Lib.cut s.data.toList [32]).1 = none) :
    Calls Tryz.prog 35 #[.string s, .map (some M)] w fun e w' => e = .returned (.tuple (linV lines s.data.toList)) ∧ Below w.heap.size w w' := by
  have hv : linV lines s.data.toList = #[.agg (lnC Ln.none), .bool false] := by
    unfold linV linF
    rw [hf]
  rw [hv]
  have HC : Hid (Calls Tryz.prog 65 #[.string s, .string blank] (w.alloc (.cells #[.string ⟨#[]⟩, .int .i64 0, .int .i64 0, .string ⟨#[]⟩, .string ⟨#[]⟩, .int .i64 0, .int .i64 0] 67)) fun e w' => ∃ (r b : Value) (W2 : World), e = .returned (.tuple #[.string (bA (Lib.cut s.data.toList [32]).1), r, b]) ∧ w' = W2.alloc (.cells #[.string ⟨#[]⟩, .int .i64 0, .int .i64 0, .string ⟨#[]⟩, .string ⟨#[]⟩, .int .i64 0, .int .i64 0] 67) ∧ w.heap.size = W2.heap.size ∧ Hid (∀ o, Below w.heap.size w (W2.alloc o) ∧ (W2.alloc o).heap[M]? = w.heap[M]?)) := by
    refine (Cut_blank s _ (by omega) (hm.up ((Below.refl _ w).alloc (Nat.le_refl _) _))).mono ?_
    rintro e w' ⟨r, b, rfl, n, rfl⟩
    have hb : ∀ o, Below w.heap.size w ((w.drewN n).alloc o) := fun o => (below_drewN (Below.refl _ w) n).alloc (Nat.le_refl _) o
    exact ⟨r, b, w.drewN n, rfl, rfl, rfl, fun o => ⟨hb o, (hb o).block M h.lt⟩⟩
  have hcl : (bA (Lib.cut s.data.toList [32]).1).size ≤ maxLen := by
    have h1 : (Lib.cut s.data.toList [32]).1.length ≤ s.data.toList.length := by
      unfold Lib.cut
      split
      · simp only [List.length_take]; omega
      · exact Nat.le_refl _
    rw [show (bA (Lib.cut s.data.toList [32]).1).size = (Lib.cut s.data.toList [32]).1.length from size_of rfl]
    rw [show s.size = s.data.toList.length from size_of rfl] at hs
    unfold maxLen
    omega
  have HK := look_no h hl _ hcl (by show frmF _ = none; unfold bA; simpa using hf)
  generalize bA (Lib.cut s.data.toList [32]).1 = wd at *
  clear hv hf hcl hs h hm
  go_enter Tryz.func35, Tryz.ntmps35
  go_wp2_with (first
    | (go_at_call 65; refine HC.out.mono ?_; rintro e w1 ⟨r1, r2, W2, rfl, rfl, hz, HW⟩; obtain ⟨vv, hlk⟩ := HK (W2.alloc (.cells #[.string ⟨#[]⟩, .int .i64 0, .int .i64 0, .string ⟨#[]⟩, .string ⟨#[]⟩, .int .i64 0, .int .i64 0] 67)) (HW.out _).2)
    | go_in)
  refine bodyPost_ret (v := .tuple #[.agg (lnC Ln.none), .bool false]) (by simp [results, Tryz.results35, go_sem, lnC, Ln.none]) rfl ?_
  exact ⟨rfl, (HW.out _).1⟩

/-- Each part, by its kind. -/
theorem part_any (bn bl bp lines k P : Nat) : ∃ N caps, cvP bn bl bp k = .func (.func N) #[] caps ∧ (∀ args w, (callFunc N args).run Tryz.prog w = .ok (.enter N args) w) ∧
    ∀ (l : Ln) (g : ByteArray) (w : World), LnAt w P l → g.size ≤ 1000000 → MaxIs w → PrtE w bn bl bp lines → Calls Tryz.prog N (#[.pointer (some ⟨P, 0, none⟩), .string g] ++ caps) w (TkQ lines k P l g w) := by
  unfold cvP
  by_cases h0 : k = 0
  · subst h0
    exact ⟨_, _, rfl, fun args w => by kernel_rfl, fun l g w hl hg _ _ => part_r lines P l g w hl hg⟩
  by_cases h1 : k = 1
  · subst h1
    exact ⟨_, _, rfl, fun args w => by kernel_rfl, fun l g w hl hg _ _ => part_s lines P l g w hl hg⟩
  by_cases h2 : k = 2
  · subst h2
    exact ⟨_, _, rfl, fun args w => by kernel_rfl, fun l g w hl hg _ _ => part_n lines P l g w hl hg⟩
  by_cases h3 : k = 3
  · subst h3
    exact ⟨_, _, rfl, fun args w => by kernel_rfl, fun l g w hl hg _ _ => part_m lines P l g w hl hg⟩
  by_cases h4 : k = 4
  · subst h4
    exact ⟨_, _, rfl, fun args w => by kernel_rfl, fun l g w hl hg _ he => part_at lines P bn bl l g w hl hg he.1 he.2.1⟩
  by_cases h5 : k = 5
  · subst h5
    exact ⟨_, _, rfl, fun args w => by kernel_rfl, fun l g w hl hg _ he => part_end lines P bn l g w hl hg he.1⟩
  by_cases h6 : k = 6
  · subst h6
    exact ⟨_, _, rfl, fun args w => by kernel_rfl, fun l g w hl _ _ _ => part_text lines P l g w hl⟩
  by_cases h7 : k = 7
  · subst h7
    exact ⟨_, _, rfl, fun args w => by kernel_rfl, fun l g w hl _ hm _ => part_path7 lines P l g w hl hm⟩
  · rw [if_neg h0, if_neg h1, if_neg h2, if_neg h3, if_neg h4, if_neg h5, if_neg h6, if_neg h7]
    refine ⟨_, _, rfl, fun args w => by kernel_rfl, fun l g w hl _ hm he => ?_⟩
    have := part_dir lines P bp l g w hl hm he.2.2
    unfold TkQ at this ⊢
    have e : takP lines k l g.data.toList = takP lines 8 l g.data.toList := by
      unfold takP
      simp [h0, h1, h2, h3, h4, h5, h6, h7]
    rw [e]
    exact this
end Go.Proofs.YtapiedeekbfpnaaGreatDoor

/- A line is taken apart, part by part. -/
namespace Go.Proofs.YtapiedeekbfpnaaGreatDoor
open Go.RowKit Go.Shelf Go.Maps Go.WideMaps

theorem frm_small : ∀ f ∈ frmL, 3 ≤ f.1.length ∧ 1 ≤ f.2.length ∧ f.2.length ≤ 3 := by decide
theorem frmF_small {x : List UInt8} {f : List Nat} (h : frmF x = some f) : 3 ≤ x.length ∧ 1 ≤ f.length ∧ f.length ≤ 3 := frm_small _ (lookup_mem x frmL h)
theorem cut_len (s : List UInt8) : (Lib.cut s [32]).1.length ≤ s.length := by
  unfold Lib.cut
  split
  · simp only [List.length_take]; omega
  · exact Nat.le_refl _
theorem wdN_size : ∀ (k : Nat) (s : List UInt8) (p : List UInt8), p ∈ wdN k s → p.length ≤ s.length := by
  intro k
  induction k with
  | zero => intro s p hp; obtain rfl := List.mem_singleton.1 hp; exact Nat.le_refl _
  | succ k ih =>
    intro s p hp
    unfold wdN Lib.splitK at hp
    split at hp
    · obtain rfl := List.mem_singleton.1 hp; exact Nat.le_refl _
    · rcases List.mem_cons.1 hp with rfl | hp
      · rw [List.length_take]; omega
      · have := ih _ p hp
        rw [List.length_drop] at this
        omega
theorem wdN_len (k : Nat) (s : List UInt8) : (wdN k s).length ≤ k + 1 := by
  have h1 : ∀ (k : Nat) (s : List UInt8), (Lib.splitK [32] 0 k s).length ≤ k + 1 := by
    intro k
    induction k with
    | zero => intro s; exact Nat.le_refl _
    | succ k ih =>
      intro s
      unfold Lib.splitK
      split
      · simp
      · have := ih (s.drop ((Lib.index s [32]).toNat + ([32] : List UInt8).length))
        simp only [List.length_cons] at *
        omega
  exact h1 k s

/-- How it stands when a line's words are parted. -/
structure Spl (w : World) (b bn bl bp lines : Nat) (f : List Nat) (ps : List (List UInt8)) (X : Nat) (w3 : World) : Prop where
  cells : ∀ j, j < ps.length → w3.cell? ⟨X, j, none⟩ = some (.string (bA (ps.getD j [])))
  r0 : w3.heap[w.heap.size]? = some (.cells #[.string ⟨#[]⟩, .int .i64 0, .int .i64 0, .string ⟨#[]⟩, .string ⟨#[]⟩, .int .i64 0, .int .i64 0] 67 (0, 0))
  row : w3.heap[b]? = some (.cells (f.map (cvP bn bl bp)).toArray 99 (0, 0))
  env : PrtE w3 bn bl bp lines
  mx : MaxIs w3
  bel : Below w.heap.size w w3
  sz : ∀ p ∈ ps, p.length ≤ 1000000
  lt : X < w3.heap.size ∧ w.heap.size < w3.heap.size

theorem front {B M bn bl bp lines : Nat} {w0 w : World} {bs : List Nat} (h : FmI B M bn bl bp lines w0 bs w) (hB : B ≤ w.heap.size) (hl : bs.length = 13) (s : ByteArray) (hs : s.size ≤ 100000) (hm : MaxIs w) {f : List Nat} (hf : frmF (Lib.cut s.data.toList [32]).1 = some f) (k1 : Nat) (hk1 : k1 = 1 + f.length) :
    ∃ b, Hid (Calls Tryz.prog 65 #[.string s, .string blank] (w.alloc (.cells #[.string ⟨#[]⟩, .int .i64 0, .int .i64 0, .string ⟨#[]⟩, .string ⟨#[]⟩, .int .i64 0, .int .i64 0] 67)) fun e w' => ∃ (r c : Value) (W2 : World), e = .returned (.tuple #[.string (bA (Lib.cut s.data.toList [32]).1), r, c]) ∧ w' = W2.alloc (.cells #[.string ⟨#[]⟩, .int .i64 0, .int .i64 0, .string ⟨#[]⟩, .string ⟨#[]⟩, .int .i64 0, .int .i64 0] 67) ∧ w.heap.size = W2.heap.size ∧
      (Instr.lookup 64 (.map (some M)) (.string (bA (Lib.cut s.data.toList [32]).1)) true).run Tryz.prog (W2.alloc (.cells #[.string ⟨#[]⟩, .int .i64 0, .int .i64 0, .string ⟨#[]⟩, .string ⟨#[]⟩, .int .i64 0, .int .i64 0] 67)) = .ok (.tuple #[.slice (some ⟨b, 0, none⟩) f.length f.length, .bool true]) (W2.alloc (.cells #[.string ⟨#[]⟩, .int .i64 0, .int .i64 0, .string ⟨#[]⟩, .string ⟨#[]⟩, .int .i64 0, .int .i64 0] 67)) ∧
      Hid (Calls Tryz.prog 66 #[.string s, .string blank, .int .i64 (k1 : Int)] (W2.alloc (.cells #[.string ⟨#[]⟩, .int .i64 0, .int .i64 0, .string ⟨#[]⟩, .string ⟨#[]⟩, .int .i64 0, .int .i64 0] 67)) fun e w3 => ∃ X, e = .returned (.slice (some ⟨X, 0, none⟩) (wdN f.length s.data.toList).length k1) ∧ Hid (Spl w b bn bl bp lines f (wdN f.length s.data.toList) X w3))) := by
  obtain ⟨q1, q2, q3⟩ := frmF_small hf
  have hsl : s.size = s.data.toList.length := size_of rfl
  have hcl := cut_len s.data.toList
  have hcs : (bA (Lib.cut s.data.toList [32]).1).size = (Lib.cut s.data.toList [32]).1.length := size_of rfl
  obtain ⟨b, hb, hlk⟩ := look_yes h hl (bA (Lib.cut s.data.toList [32]).1) (by unfold maxLen; omega) (f := f) (by unfold bA; simpa using hf)
  refine ⟨b, ?_⟩
  refine (Cut_blank s _ (by omega) (hm.up ((Below.refl _ w).alloc (Nat.le_refl _) _))).mono ?_
  rintro e w' ⟨r, c, rfl, n, rfl⟩
  have hbe : ∀ o, Below w.heap.size w ((w.drewN n).alloc o) := fun o => (below_drewN (Below.refl _ w) n).alloc (Nat.le_refl _) o
  refine ⟨r, c, w.drewN n, rfl, rfl, rfl, hlk _ ((hbe _).block M h.lt), ?_⟩
  rw [hk1]
  refine (splitN_any s f.length _ (by omega) q3 (by omega) (hm.up (hbe _))).mono ?_
  rintro e w3 ⟨rfl, hc, hlt, hb3⟩
  have hsz : ((w.drewN n).alloc (.cells #[.string ⟨#[]⟩, .int .i64 0, .int .i64 0, .string ⟨#[]⟩, .string ⟨#[]⟩, .int .i64 0, .int .i64 0] 67)).heap.size = w.heap.size + 1 := World.size_alloc _ _
  have hbw : Below w.heap.size w w3 := ⟨hb3.os.trans (hbe _).os, hb3.tape.trans (hbe _).tape, hb3.output.trans (hbe _).output, Nat.le_trans (hbe _).size hb3.size, fun g hg => (hb3.block g (by omega)).trans ((hbe _).block g hg)⟩
  have hF := h.keep hbw hB
  have hbl : b < w.heap.size := (Array.getElem?_eq_some_iff.1 hb).1
  refine ⟨_, rfl, ⟨hc, ?_, (hbw.block b hbl).trans hb, hF.env, hm.up hbw, hbw, fun p hp => ?_, hlt, by omega⟩⟩
  · exact (hb3.block w.heap.size (by omega)).trans (heap_alloc_new (w.drewN n) _)
  · have := wdN_size _ _ p hp
    omega

theorem ln_cells {w : World} {R : Nat} {a0 a1 a2 a3 a4 a5 a6 : Value} (h : w.heap[R]? = some (.cells #[a0, a1, a2, a3, a4, a5, a6] 67 (0, 0))) :
    (w.cell? ⟨R, 0, none⟩ = some a0 ∧ w.frozen? ⟨R, 0, none⟩ = false) ∧ (w.cell? ⟨R, 1, none⟩ = some a1 ∧ w.frozen? ⟨R, 1, none⟩ = false) ∧ (w.cell? ⟨R, 2, none⟩ = some a2 ∧ w.frozen? ⟨R, 2, none⟩ = false) ∧ (w.cell? ⟨R, 3, none⟩ = some a3 ∧ w.frozen? ⟨R, 3, none⟩ = false) ∧ (w.cell? ⟨R, 4, none⟩ = some a4 ∧ w.frozen? ⟨R, 4, none⟩ = false) ∧ (w.cell? ⟨R, 5, none⟩ = some a5 ∧ w.frozen? ⟨R, 5, none⟩ = false) ∧ (w.cell? ⟨R, 6, none⟩ = some a6 ∧ w.frozen? ⟨R, 6, none⟩ = false) :=
  ⟨⟨by rw [Lib.cell_of_heap h]; rfl, Lib.frozen_of_heap h 0⟩, ⟨by rw [Lib.cell_of_heap h]; rfl, Lib.frozen_of_heap h 1⟩, ⟨by rw [Lib.cell_of_heap h]; rfl, Lib.frozen_of_heap h 2⟩, ⟨by rw [Lib.cell_of_heap h]; rfl, Lib.frozen_of_heap h 3⟩, ⟨by rw [Lib.cell_of_heap h]; rfl, Lib.frozen_of_heap h 4⟩, ⟨by rw [Lib.cell_of_heap h]; rfl, Lib.frozen_of_heap h 5⟩, ⟨by rw [Lib.cell_of_heap h]; rfl, Lib.frozen_of_heap h 6⟩⟩

/-- A line is stored. -/
def st7 (w : World) (R : Nat) (l : Ln) : World := ((((((w.setCell ⟨R, 0, none⟩ (.string l.wd)).setCell ⟨R, 1, none⟩ (.int .i64 (l.r : Int))).setCell ⟨R, 2, none⟩ (.int .i64 (l.s : Int))).setCell ⟨R, 3, none⟩ (.string l.pa)).setCell ⟨R, 4, none⟩ (.string l.tx)).setCell ⟨R, 5, none⟩ (.int .i64 (l.n : Int))).setCell ⟨R, 6, none⟩ (.int .i64 (l.m : Int))
theorem st7_at {w : World} {R : Nat} {l0 : Ln} (h : LnAt w R l0) (l : Ln) : LnAt (st7 w R l) R l := by
  unfold st7
  have h0 : (w.setCell ⟨R, 0, none⟩ (.string l.wd)).heap[R]? = some (.cells #[.string l.wd, .int .i64 (l0.r : Int), .int .i64 (l0.s : Int), .string l0.pa, .string l0.tx, .int .i64 (l0.n : Int), .int .i64 (l0.m : Int)] 67 (0, 0)) := Go.Joins.block_setCell (i := 0) h _
  generalize (w.setCell ⟨R, 0, none⟩ (.string l.wd)) = w0 at *
  have h1 : (w0.setCell ⟨R, 1, none⟩ (.int .i64 (l.r : Int))).heap[R]? = some (.cells #[.string l.wd, .int .i64 (l.r : Int), .int .i64 (l0.s : Int), .string l0.pa, .string l0.tx, .int .i64 (l0.n : Int), .int .i64 (l0.m : Int)] 67 (0, 0)) := Go.Joins.block_setCell (i := 1) h0 _
  generalize (w0.setCell ⟨R, 1, none⟩ (.int .i64 (l.r : Int))) = w1 at *
  have h2 : (w1.setCell ⟨R, 2, none⟩ (.int .i64 (l.s : Int))).heap[R]? = some (.cells #[.string l.wd, .int .i64 (l.r : Int), .int .i64 (l.s : Int), .string l0.pa, .string l0.tx, .int .i64 (l0.n : Int), .int .i64 (l0.m : Int)] 67 (0, 0)) := Go.Joins.block_setCell (i := 2) h1 _
  generalize (w1.setCell ⟨R, 2, none⟩ (.int .i64 (l.s : Int))) = w2 at *
  have h3 : (w2.setCell ⟨R, 3, none⟩ (.string l.pa)).heap[R]? = some (.cells #[.string l.wd, .int .i64 (l.r : Int), .int .i64 (l.s : Int), .string l.pa, .string l0.tx, .int .i64 (l0.n : Int), .int .i64 (l0.m : Int)] 67 (0, 0)) := Go.Joins.block_setCell (i := 3) h2 _
  generalize (w2.setCell ⟨R, 3, none⟩ (.string l.pa)) = w3 at *
  have h4 : (w3.setCell ⟨R, 4, none⟩ (.string l.tx)).heap[R]? = some (.cells #[.string l.wd, .int .i64 (l.r : Int), .int .i64 (l.s : Int), .string l.pa, .string l.tx, .int .i64 (l0.n : Int), .int .i64 (l0.m : Int)] 67 (0, 0)) := Go.Joins.block_setCell (i := 4) h3 _
  generalize (w3.setCell ⟨R, 4, none⟩ (.string l.tx)) = w4 at *
  have h5 : (w4.setCell ⟨R, 5, none⟩ (.int .i64 (l.n : Int))).heap[R]? = some (.cells #[.string l.wd, .int .i64 (l.r : Int), .int .i64 (l.s : Int), .string l.pa, .string l.tx, .int .i64 (l.n : Int), .int .i64 (l0.m : Int)] 67 (0, 0)) := Go.Joins.block_setCell (i := 5) h4 _
  generalize (w4.setCell ⟨R, 5, none⟩ (.int .i64 (l.n : Int))) = w5 at *
  have h6 : (w5.setCell ⟨R, 6, none⟩ (.int .i64 (l.m : Int))).heap[R]? = some (.cells #[.string l.wd, .int .i64 (l.r : Int), .int .i64 (l.s : Int), .string l.pa, .string l.tx, .int .i64 (l.n : Int), .int .i64 (l.m : Int)] 67 (0, 0)) := Go.Joins.block_setCell (i := 6) h5 _
  exact h6
theorem st7_up (w : World) (R : Nat) (l : Ln) : UpB R w (st7 w R l) := (((((((UpB.set R 0 w _).trans (UpB.set R 1 _ _)).trans (UpB.set R 2 _ _)).trans (UpB.set R 3 _ _)).trans (UpB.set R 4 _ _)).trans (UpB.set R 5 _ _)).trans (UpB.set R 6 _ _))

set_option maxHeartbeats 2000000 in
set_option maxRecDepth 100000 in
theorem lineOf_few {B M bn bl bp lines : Nat} {w0 w : World} {bs : List Nat} (h : FmI B M bn bl bp lines w0 bs w) (hB : B ≤ w.heap.size) (hl : bs.length = 13) (s : ByteArray) (hs : s.size ≤ 100000) (hm : MaxIs w) {f : List Nat} (hf : frmF (Lib.cut s.data.toList [32]).1 = some f) (hw : (wdN f.length s.data.toList).length ≤ f.length) :
    Calls Tryz.prog 35 #[.string s, .map (some M)] w fun e w' => e = .returned (.tuple (linV lines s.data.toList)) ∧ Below w.heap.size w w' := by
  have hv : linV lines s.data.toList = #[.agg (lnC Ln.none), .bool false] := by
    unfold linV linF
    rw [hf]
    simp only
    rw [if_pos hw]
  rw [hv]
  obtain ⟨k1, hk1⟩ : ∃ k1, k1 = 1 + f.length := ⟨_, rfl⟩
  obtain ⟨b, HC⟩ := front h hB hl s hs hm hf k1 hk1
  have hq := frmF_small hf
  have hne := List.length_pos_iff.2 (wdN_ne f.length s.data.toList)
  generalize (wdN f.length s.data.toList) = ps at *
  generalize bA (Lib.cut s.data.toList [32]).1 = wd at *
  obtain ⟨n, hn⟩ : ∃ n, ps.length = n + 1 := ⟨ps.length - 1, by omega⟩
  rw [hn] at HC
  obtain ⟨k, hk⟩ : ∃ k, f.length = k := ⟨_, rfl⟩
  rw [hk] at HC
  have e1 : (1 : Int) + (k : Int) = (k1 : Int) := by omega
  have e2 : IntKind.i64.wrap (k1 : Int) = (k1 : Int) := by rw [IntKind.wrap_i64]; omega
  have e3 : (n : Int) < (k : Int) := by omega
  have e4 : (k : Int) ≤ 9223372036854775807 := by omega
  have e5 : n + 1 ≤ k1 := by omega
  have e6 : 1 ≤ k1 := by omega
  clear hv hf hs h hm hk1 hq hne hw hn hk
  go_enter Tryz.func35, Tryz.ntmps35
  go_wp2_with (first
    | (go_at_call 65; refine HC.out.mono ?_; rintro e w1 ⟨r1, r2, W2, rfl, rfl, hz, hlk, HS⟩)
    | (go_at_call 66; refine HS.out.mono ?_; rintro e w3 ⟨X, rfl, HX⟩; obtain ⟨R, hR⟩ : ∃ R, R = W2.heap.size := ⟨_, rfl⟩; rw [← hR] at hz ⊢; clear hR; have hr0 := HX.out.r0; rw [hz] at hr0; have HR0 : Hid (w.heap.size = R) := hz; have HR1 : Hid (LnAt w3 R Ln.none) := hr0; obtain ⟨⟨c0, f0⟩, ⟨c1, f1⟩, ⟨c2, f2⟩, ⟨c3, f3⟩, ⟨c4, f4⟩, ⟨c5, f5⟩, ⟨c6, f6⟩⟩ := ln_cells hr0; clear hr0 hz)
    | go_in)
  change bodyPost _ _ _ _ _ (st7 w3 R Ln.none)
  have hL : LnAt (st7 w3 R Ln.none) R Ln.none := st7_at HR1.out Ln.none
  obtain ⟨⟨d0, _⟩, ⟨d1, _⟩, ⟨d2, _⟩, ⟨d3, _⟩, ⟨d4, _⟩, ⟨d5, _⟩, ⟨d6, _⟩⟩ := ln_cells hL
  have HU := st7_up w3 R Ln.none
  generalize st7 w3 R Ln.none = wf at *
  refine bodyPost_ret (v := .tuple #[.agg (lnC Ln.none), .bool false]) (by simp [results, Tryz.results35, go_sem, d0, d1, d2, d3, d4, d5, d6, lnC, Ln.none]) rfl ?_
  exact ⟨rfl, ⟨HU.os.trans HX.out.bel.os, HU.tape.trans HX.out.bel.tape, HU.output.trans HX.out.bel.output, Nat.le_trans HX.out.bel.size HU.size, fun g hg => (HU.block g (Nat.lt_trans hg HX.out.lt.2) (by have := HR0.out; omega)).trans (HX.out.bel.block g hg)⟩⟩
end Go.Proofs.YtapiedeekbfpnaaGreatDoor

/- A line is taken apart: its parts, one behind the other. -/
namespace Go.Proofs.YtapiedeekbfpnaaGreatDoor
open Go.RowKit Go.Shelf Go.Maps Go.WideMaps

theorem foldP_app (lines : Nat) : ∀ (ks : List Nat) (gs : List (List UInt8)) (ks' : List Nat) (gs' : List (List UInt8)) (l : Ln), ks.length = gs.length → foldP lines (ks ++ ks') (gs ++ gs') l = (foldP lines ks gs l).bind fun l' => foldP lines ks' gs' l' := by
  intro ks
  induction ks with
  | nil =>
    intro gs ks' gs' l h
    obtain rfl := List.length_eq_zero_iff.1 h.symm
    rfl
  | cons k ks ih =>
    intro gs ks' gs' l h
    cases gs with
    | nil => cases h
    | cons g gs =>
      show ((takP lines k l g).bind fun l' => foldP lines (ks ++ ks') (gs ++ gs') l') = (((takP lines k l g).bind fun l' => foldP lines ks gs l').bind fun l' => foldP lines ks' gs' l')
      cases takP lines k l g with
      | none => rfl
      | some l2 => exact ih gs ks' gs' l2 (by simpa using h)
theorem take_one {α : Type} {l : List α} {i : Nat} {x : α} (h : l[i]? = some x) : l.take (i + 1) = l.take i ++ [x] := by
  rw [List.take_add_one, h]
  rfl
theorem foldP_step {lines i k : Nat} {f : List Nat} {gs : List (List UInt8)} {g : List UInt8} {l l' : Ln} (hf : f[i]? = some k) (hg : gs[i]? = some g) (h : foldP lines (f.take i) (gs.take i) l = some l') : foldP lines (f.take (i + 1)) (gs.take (i + 1)) l = takP lines k l' g := by
  have h1 : i < f.length := (List.getElem?_eq_some_iff.1 hf).1
  have h2 : i < gs.length := (List.getElem?_eq_some_iff.1 hg).1
  rw [take_one hf, take_one hg, foldP_app lines _ _ _ _ _ (by rw [List.length_take, List.length_take]; omega), h]
  show ((takP lines k l' g).bind fun l'' => some l'') = _
  cases takP lines k l' g <;> rfl
theorem foldP_stop {lines i k : Nat} {f : List Nat} {gs : List (List UInt8)} {g : List UInt8} {l l' : Ln} (hf : f[i]? = some k) (hg : gs[i]? = some g) (h : foldP lines (f.take i) (gs.take i) l = some l') (ht : takP lines k l' g = none) : foldP lines f gs l = none := by
  have h1 : i < f.length := (List.getElem?_eq_some_iff.1 hf).1
  have h2 : i < gs.length := (List.getElem?_eq_some_iff.1 hg).1
  have e1 : f = f.take (i + 1) ++ f.drop (i + 1) := (List.take_append_drop _ _).symm
  have e2 : gs = gs.take (i + 1) ++ gs.drop (i + 1) := (List.take_append_drop _ _).symm
  rw [e1, e2, foldP_app lines _ _ _ _ _ (by rw [List.length_take, List.length_take]; omega), foldP_step hf hg h, ht]
  rfl
theorem cell_same {w w' : World} {b : Nat} (h : w'.heap[b]? = w.heap[b]?) (j : Nat) : w'.cell? ⟨b, j, none⟩ = w.cell? ⟨b, j, none⟩ := by
  unfold World.cell?
  simp only
  rw [h]

set_option maxHeartbeats 4000000 in
set_option maxRecDepth 100000 in
theorem lineOf_go {B M bn bl bp lines : Nat} {w0 w : World} {bs : List Nat} (h : FmI B M bn bl bp lines w0 bs w) (hB : B ≤ w.heap.size) (hl : bs.length = 13) (s : ByteArray) (hs : s.size ≤ 100000) (hm : MaxIs w) {f : List Nat} (hf : frmF (Lib.cut s.data.toList [32]).1 = some f) (hw : f.length < (wdN f.length s.data.toList).length) :
    Calls Tryz.prog 35 #[.string s, .map (some M)] w fun e w' => e = .returned (.tuple (linV lines s.data.toList)) ∧ Below w.heap.size w w' := by
  have hv : linV lines s.data.toList = match foldP lines f (wdN f.length s.data.toList).tail { Ln.none with wd := bA (Lib.cut s.data.toList [32]).1 } with
      | some l => #[.agg (lnC l), .bool true]
      | none => #[.agg (lnC Ln.none), .bool false] := by
    unfold linV linF
    rw [hf]
    simp only
    rw [if_neg (by omega)]
    all_goals rfl
  obtain ⟨LV, hLV⟩ : ∃ LV, linV lines s.data.toList = LV := ⟨_, rfl⟩
  rw [hLV] at hv ⊢
  clear hLV
  obtain ⟨k1, hk1⟩ : ∃ k1, k1 = 1 + f.length := ⟨_, rfl⟩
  obtain ⟨b, HC⟩ := front h hB hl s hs hm hf k1 hk1
  have hq := frmF_small hf
  have hwl := wdN_len f.length s.data.toList
  generalize (wdN f.length s.data.toList) = ps at *
  generalize bA (Lib.cut s.data.toList [32]).1 = wd at *
  obtain ⟨k, hk⟩ : ∃ k, f.length = k := ⟨_, rfl⟩
  have hn : ps.length = k + 1 := by omega
  have HLP : Hid (f.length = k ∧ ps.tail.length = k ∧ ∀ i, i < k → ps.tail[i]? = some (ps.getD (1 + i) [])) := by
    refine ⟨hk, by rw [List.length_tail]; omega, fun i hi => ?_⟩
    rw [List.getElem?_tail, List.getD_eq_getElem?_getD, List.getElem?_eq_getElem (show i + 1 < ps.length by omega), List.getElem?_eq_getElem (show 1 + i < ps.length by omega)]
    simp only [Option.getD_some, Nat.add_comm]
  rw [hn, hk] at HC
  have e1 : (1 : Int) + (k : Int) = (k1 : Int) := by omega
  have e2 : IntKind.i64.wrap (k1 : Int) = (k1 : Int) := by rw [IntKind.wrap_i64]; omega
  have e3 : ¬ (k : Int) < (k : Int) := by omega
  have e4 : (k : Int) ≤ 9223372036854775807 := by omega
  have e5 : k + 1 ≤ k1 := by omega
  have e6 : 1 ≤ k1 := by omega
  have e7 : k ≤ 3 := by omega
  have e8 : ¬ k1 = 1 := by omega
  have HK1 : Hid (k1 = 1 + k ∧ ps.length = k + 1) := by refine ⟨by omega, hn⟩
  obtain ⟨l0, hl0⟩ : ∃ l0 : Ln, l0 = { Ln.none with wd := wd } := ⟨_, rfl⟩
  rw [← hl0] at hv
  have HL0 : Hid (l0 = { Ln.none with wd := wd }) := hl0
  have HVN : Hid (foldP lines f ps.tail l0 = none → LV = #[.agg (lnC Ln.none), .bool false]) := by
    intro e
    rw [e] at hv
    exact hv
  have HVS : Hid (∀ l, foldP lines f ps.tail l0 = some l → LV = #[.agg (lnC l), .bool true]) := by
    intro l e
    rw [e] at hv
    exact hv
  clear hv hf hs h hm hk1 hq hw hn hk hwl hl0
  go_enter Tryz.func35, Tryz.ntmps35
  go_wp2_with (first
    | (go_at_call 65; refine HC.out.mono ?_; rintro e w1 ⟨r1, r2, W2, rfl, rfl, hz, hlk, HS⟩)
    | (go_at_call 66; refine HS.out.mono ?_; rintro e w3 ⟨X, rfl, HX⟩; obtain ⟨R, hR⟩ : ∃ R, R = W2.heap.size := ⟨_, rfl⟩; rw [← hR] at hz ⊢; clear hR; have HR0 : Hid (w.heap.size = R) := hz; clear hz)
    | go_in)
  have hP4 : LnAt (w3.alloc (.cells #[.string wd, .int .i64 0, .int .i64 0, .string ⟨#[]⟩, .string ⟨#[]⟩, .int .i64 0, .int .i64 0] 67)) w3.heap.size l0 := by
    rw [HL0.out]
    exact heap_alloc_new w3 _
  have hb4 : Below w3.heap.size w3 (w3.alloc (.cells #[.string wd, .int .i64 0, .int .i64 0, .string ⟨#[]⟩, .string ⟨#[]⟩, .int .i64 0, .int .i64 0] 67)) := (Below.refl _ _).alloc (Nat.le_refl _) _
  have HP4 : Hid (LnAt (w3.alloc (.cells #[.string wd, .int .i64 0, .int .i64 0, .string ⟨#[]⟩, .string ⟨#[]⟩, .int .i64 0, .int .i64 0] 67)) w3.heap.size l0 ∧ Below w3.heap.size w3 (w3.alloc (.cells #[.string wd, .int .i64 0, .int .i64 0, .string ⟨#[]⟩, .string ⟨#[]⟩, .int .i64 0, .int .i64 0] 67))) := ⟨hP4, hb4⟩
  clear hP4 hb4
  generalize (w3.alloc (.cells #[.string wd, .int .i64 0, .int .i64 0, .string ⟨#[]⟩, .string ⟨#[]⟩, .int .i64 0, .int .i64 0] 67)) = w4 at *
  obtain ⟨P, hP⟩ : ∃ P, P = w3.heap.size := ⟨_, rfl⟩
  rw [← hP] at HP4 ⊢
  have HPe : Hid (P = w3.heap.size) := hP
  clear hP
  go_loopw [46] (fun v wr => ∃ (i : Nat) (l' : Ln), i ≤ k ∧ v = .int .i64 (i : Int) ∧ Hid (foldP lines (f.take i) (ps.tail.take i) l0 = some l' ∧ LnAt wr P l' ∧ UpB P w4 wr)) (fun v _ => k - (intOf v).toNat)
  case atStart => exact ⟨0, l0, by omega, rfl, by rw [List.take_zero, List.take_zero]; rfl, HP4.out.1, UpB.refl _ _⟩
  case round =>
    obtain ⟨i, l', hi, rfl, HI⟩ := hrel
    have hup : ∀ g, g < w3.heap.size → wr.heap[g]? = w3.heap[g]? := fun g hg => (HI.out.2.2.block g (by have := HP4.out.2.size; omega) (by have := HPe.out; omega)).trans (HP4.out.2.block g (by have := HPe.out; omega))
    have HUP : Hid (∀ g, g < w3.heap.size → wr.heap[g]? = w3.heap[g]?) := hup
    have BEL : Hid (∀ w5, UpB P wr w5 → Below w.heap.size w w5) := by
      intro w5 hu
      have h1 := HX.out.lt.2
      have h2 := HPe.out
      have h4 : w3.heap.size ≤ wr.heap.size := Nat.le_trans HP4.out.2.size HI.out.2.2.size
      have hq := HX.out.bel
      have u4 := HP4.out.2
      have u5 := HI.out.2.2
      exact ⟨hu.os.trans (u5.os.trans (u4.os.trans hq.os)), hu.tape.trans (u5.tape.trans (u4.tape.trans hq.tape)), hu.output.trans (u5.output.trans (u4.output.trans hq.output)), Nat.le_trans hq.size (Nat.le_trans h4 hu.size), fun g hg => (hu.block g (by omega) (by omega)).trans ((hup g (by omega)).trans (hq.block g hg))⟩
    clear hup
    by_cases hik : i < k
    · obtain ⟨kk, hkk⟩ : ∃ kk, f[i]? = some kk := ⟨f[i]'(by rw [HLP.out.1]; exact hik), List.getElem?_eq_getElem _⟩
      obtain ⟨g0, hg0⟩ : ∃ g0, ps.getD (1 + i) [] = g0 := ⟨_, rfl⟩
      have hgt : ps.tail[i]? = some g0 := by rw [HLP.out.2.2 i hik, hg0]
      have hgm : g0 ∈ ps := by
        rw [← hg0, List.getD_eq_getElem?_getD, List.getElem?_eq_getElem (show 1 + i < ps.length by have := HK1.out.2; omega)]
        exact List.getElem_mem _
      have hgs : (bA g0).size ≤ 1000000 := by rw [show (bA g0).size = g0.length from size_of rfl]; exact HX.out.sz g0 hgm
      obtain ⟨N, caps, hcv, eg, hpart⟩ := part_any bn bl bp lines kk P
      have hbX := HX.out.lt.1
      have hbb : b < w3.heap.size := (Array.getElem?_eq_some_iff.1 HX.out.row).1
      have cf : wr.cell? ⟨b, i, none⟩ = some (.func (.func N) #[] caps) := by
        rw [cell_same (HUP.out b hbb), Lib.cell_of_heap HX.out.row, List.getElem?_toArray, List.getElem?_map, hkk, ← hcv]
        rfl
      have cp : wr.cell? ⟨X, 1 + i, none⟩ = some (.string (bA g0)) := by
        rw [cell_same (HUP.out X hbX), HX.out.cells (1 + i) (by have := HK1.out.2; omega), hg0]
      have hPE : PrtE wr bn bl bp lines := by
        obtain ⟨p1, p2, p3⟩ := HX.out.env
        exact ⟨(cell_same (HUP.out _ (World.block_lt_of_cell? w3 ⟨bn, 0, none⟩ p1)) 0).trans p1, (cell_same (HUP.out _ (World.block_lt_of_cell? w3 ⟨bl, 0, none⟩ p2)) 0).trans p2, (cell_same (HUP.out _ (World.block_lt_of_cell? w3 ⟨bp, 0, none⟩ p3)) 0).trans p3⟩
      have hMX : MaxIs wr := by
        obtain ⟨m, p1⟩ := HX.out.mx
        exact ⟨m, (cell_same (HUP.out _ (World.block_lt_of_cell? w3 ⟨2, 0, none⟩ p1)) 0).trans p1⟩
      have hQ := hpart l' (bA g0) wr HI.out.2.1 hgs hMX hPE
      have HR5 : Hid (∀ w5, UpB P wr w5 → w5.heap[R]? = some (.cells (lnC Ln.none) 67 (0, 0)) ∧ R ≠ P ∧ R < w5.heap.size) := by
        intro w5 hu
        have h1 := HX.out.lt.2
        have h2 := HPe.out
        have h3 := HR0.out
        have h4 : R < wr.heap.size := by
          have := HI.out.2.2.size
          have := HP4.out.2.size
          omega
        refine ⟨(hu.block R h4 (by omega)).trans ((HUP.out R (by omega)).trans ?_), by omega, Nat.lt_of_lt_of_le h4 hu.size⟩
        rw [← h3]
        exact HX.out.r0
      have hki : (i : Int) < (k : Int) := by omega
      have HG : Hid (f[i]? = some kk ∧ ps.tail[i]? = some g0) := ⟨hkk, hgt⟩
      have hba : (bA g0).data.toList = g0 := by unfold bA; simp
      unfold TkQ at hQ
      rw [hba] at hQ
      cases ht : takP lines kk l' g0 with
      | none =>
        have HQ : Hid (Calls Tryz.prog N (#[.pointer (some ⟨P, 0, none⟩), .string (bA g0)] ++ caps) wr fun e w' => e = .returned (.bool false) ∧ Hid (UpB P wr w')) := by
          refine hQ.mono ?_
          rintro e w5 ⟨rfl, _, r3⟩
          exact ⟨by rw [ht]; rfl, r3⟩
        have HV : Hid (foldP lines f ps.tail l0 = none) := foldP_stop hkk hgt HI.out.1 ht
        clear hQ ht hba hPE hMX hkk hgt hgm hgs hpart hbX hbb hg0 hcv
        generalize bA g0 = gg at *
        go_wp2_with (first
          | (go_at_fn N; refine HQ.out.mono ?_; rintro e w5 ⟨rfl, HU5⟩; obtain ⟨⟨c0, f0⟩, ⟨c1, f1⟩, ⟨c2, f2⟩, ⟨c3, f3⟩, ⟨c4, f4⟩, ⟨c5, f5⟩, ⟨c6, f6⟩⟩ := ln_cells (HR5.out w5 HU5.out).1)
          | go_in)
        obtain ⟨q1, q2, q3⟩ := HR5.out w5 HU5.out
        change bodyPost _ _ _ _ _ (st7 w5 R Ln.none)
        have hL : LnAt (st7 w5 R Ln.none) R Ln.none := st7_at (l0 := Ln.none) q1 Ln.none
        obtain ⟨⟨d0, _⟩, ⟨d1, _⟩, ⟨d2, _⟩, ⟨d3, _⟩, ⟨d4, _⟩, ⟨d5, _⟩, ⟨d6, _⟩⟩ := ln_cells hL
        have HU := st7_up w5 R Ln.none
        generalize st7 w5 R Ln.none = wf at *
        refine bodyPost_ret (v := .tuple #[.agg (lnC Ln.none), .bool false]) (by simp [results, Tryz.results35, go_sem, d0, d1, d2, d3, d4, d5, d6, lnC, Ln.none]) rfl ?_
        refine ⟨by rw [HVN.out HV.out], ?_⟩
        have hbb : Below w.heap.size w w5 := BEL.out w5 HU5.out
        exact ⟨HU.os.trans hbb.os, HU.tape.trans hbb.tape, HU.output.trans hbb.output, Nat.le_trans hbb.size HU.size, fun g hg => (HU.block g (Nat.lt_of_lt_of_le hg hbb.size) (by have := HR0.out; omega)).trans (hbb.block g hg)⟩
      | some l2 =>
        have HQ : Hid (Calls Tryz.prog N (#[.pointer (some ⟨P, 0, none⟩), .string (bA g0)] ++ caps) wr fun e w' => e = .returned (.bool true) ∧ Hid (LnAt w' P l2 ∧ UpB P wr w')) := by
          refine hQ.mono ?_
          rintro e w5 ⟨rfl, ⟨l3, r1, r2⟩, r3⟩
          refine ⟨by rw [ht]; rfl, ?_, r3⟩
          rw [← r2 l2 ht]
          exact r1
        have HV : Hid (foldP lines (f.take (i + 1)) (ps.tail.take (i + 1)) l0 = some l2) := (foldP_step hkk hgt HI.out.1).trans ht
        clear hQ ht hba hPE hMX hkk hgt hgm hgs hpart hbX hbb hg0 hcv
        generalize bA g0 = gg at *
        go_wp2_with (first
          | (go_at_fn N; refine HQ.out.mono ?_; rintro e w5 ⟨rfl, HU5⟩)
          | go_in)
        refine ⟨⟨i + 1, l2, by omega, by go_num, HV.out, HU5.out.1, HI.out.2.2.trans HU5.out.2⟩, by simp [intOf]; omega⟩
    · obtain rfl : i = k := by omega
      have hki : ¬ (i : Int) < (i : Int) := by omega
      have HFs : Hid (foldP lines f ps.tail l0 = some l') := by
        have h1 := HI.out.1
        rw [List.take_of_length_le (by rw [HLP.out.1]; exact Nat.le_refl _), List.take_of_length_le (by rw [HLP.out.2.1]; exact Nat.le_refl _)] at h1
        exact h1
      have HR5 : Hid (∀ w5, UpB P wr w5 → w5.heap[R]? = some (.cells (lnC Ln.none) 67 (0, 0)) ∧ R ≠ P ∧ R < w5.heap.size) := by
        intro w5 hu
        have h1 := HX.out.lt.2
        have h2 := HPe.out
        have h3 := HR0.out
        have h4 : R < wr.heap.size := by
          have := HI.out.2.2.size
          have := HP4.out.2.size
          omega
        refine ⟨(hu.block R h4 (by omega)).trans ((HUP.out R (by omega)).trans ?_), by omega, Nat.lt_of_lt_of_le h4 hu.size⟩
        rw [← h3]
        exact HX.out.r0
      obtain ⟨⟨c0, f0⟩, ⟨c1, f1⟩, ⟨c2, f2⟩, ⟨c3, f3⟩, ⟨c4, f4⟩, ⟨c5, f5⟩, ⟨c6, f6⟩⟩ := ln_cells (HR5.out wr (UpB.refl _ _)).1
      obtain ⟨⟨p0, _⟩, ⟨p1, _⟩, ⟨p2, _⟩, ⟨p3, _⟩, ⟨p4, _⟩, ⟨p5, _⟩, ⟨p6, _⟩⟩ := ln_cells HI.out.2.1
      have HU5 : Hid (UpB P wr wr) := UpB.refl _ _
      obtain ⟨w5, hw5⟩ : ∃ w5, w5 = wr := ⟨_, rfl⟩
      go_wp2
      subst hw5
      obtain ⟨q1, q2, q3⟩ := HR5.out w5 HU5.out
      change bodyPost _ _ _ _ _ (st7 w5 R l')
      have hL : LnAt (st7 w5 R l') R l' := st7_at (l0 := Ln.none) q1 l'
      obtain ⟨⟨d0, _⟩, ⟨d1, _⟩, ⟨d2, _⟩, ⟨d3, _⟩, ⟨d4, _⟩, ⟨d5, _⟩, ⟨d6, _⟩⟩ := ln_cells hL
      have HU := st7_up w5 R l'
      generalize st7 w5 R l' = wf at *
      refine bodyPost_ret (v := .tuple #[.agg (lnC l'), .bool true]) (by simp [results, Tryz.results35, go_sem, d0, d1, d2, d3, d4, d5, d6, lnC]) rfl ?_
      refine ⟨by rw [HVS.out _ HFs.out], ?_⟩
      have hbb : Below w.heap.size w w5 := BEL.out w5 HU5.out
      exact ⟨HU.os.trans hbb.os, HU.tape.trans hbb.tape, HU.output.trans hbb.output, Nat.le_trans hbb.size HU.size, fun g hg => (HU.block g (Nat.lt_of_lt_of_le hg hbb.size) (by have := HR0.out; omega)).trans (hbb.block g hg)⟩

theorem lineOf_any {B M bn bl bp lines : Nat} {w0 w : World} {bs : List Nat} (h : FmI B M bn bl bp lines w0 bs w) (hB : B ≤ w.heap.size) (hl : bs.length = 13) (s : ByteArray) (hs : s.size ≤ 100000) (hm : MaxIs w) :
    Calls Tryz.prog 35 #[.string s, .map (some M)] w fun e w' => e = .returned (.tuple (linV lines s.data.toList)) ∧ Below w.heap.size w w' := by
  cases hf : frmF (Lib.cut s.data.toList [32]).1 with
  | none => exact lineOf_no h hl s hs hm hf
  | some f =>
    by_cases hw : (wdN f.length s.data.toList).length ≤ f.length
    · exact lineOf_few h hB hl s hs hm hf hw
    · exact lineOf_go h hB hl s hs hm hf (by omega)
end Go.Proofs.YtapiedeekbfpnaaGreatDoor

/- Whether one of some texts is too long. -/
namespace Go.Proofs.YtapiedeekbfpnaaGreatDoor
open Go.RowKit Go.Shelf

theorem isTooLong_any (s : ByteArray) (w : World) : Calls Tryz.prog 33 #[.string s] w fun e w' => e = .returned (.bool (decide (100000 < s.size))) ∧ w' = w := by
  go_enter Tryz.func33, Tryz.ntmps33
  go_wp2
  go_ret
  exact ⟨by simp; omega, rfl⟩

set_option maxHeartbeats 1000000 in
set_option maxRecDepth 100000 in
theorem idx_none (g o cap : Nat) (ss : List ByteArray) (w : World) (hn : ss.length ≤ 4611686018427387904) (hcell : ∀ j (hj : j < ss.length), w.cell? ⟨g, o + j, none⟩ = some (.string ss[j])) (hs : ∀ s ∈ ss, s.size ≤ 100000) :
    Calls Tryz.prog 53 #[.slice (some ⟨g, o, none⟩) ss.length cap, .func (.func 33) #[] #[]] w fun e w' => e = .returned (.int .i64 (-1)) ∧ w' = w := by
  have HC : Hid _ := hcell
  have HS : Hid _ := hs
  have hn1 : (ss.length : Int) ≤ 4611686018427387904 := by omega
  clear hcell hs
  go_enter Tryz.func53, Tryz.ntmps53
  go_wp2
  go_loop [8] (fun i => ∃ k : Nat, k ≤ ss.length ∧ i = .int .i64 k) (fun i => ss.length - (intOf i).toNat)
  case atStart => exact ⟨0, Nat.zero_le _, rfl⟩
  case round =>
    obtain ⟨k, hk, rfl⟩ := hrel
    by_cases hlt : k < ss.length
    · have hc := HC.out k hlt
      have hb : decide (100000 < (ss[k]).size) = false := by have := HS.out _ (List.getElem_mem hlt); simp; omega
      go_wp2_with (go_at_call 33; refine (isTooLong_any _ _).mono ?_; rintro e w' ⟨rfl, rfl⟩; rw [hb])
      exact ⟨⟨k + 1, by omega, by go_num⟩, by simp [intOf]; omega⟩
    · go_wp2
      go_ret
      exact ⟨rfl, rfl⟩

set_option maxHeartbeats 1000000 in
set_option maxRecDepth 100000 in
theorem idx_some (g o cap : Nat) (ss : List ByteArray) (w : World) (hn : ss.length ≤ 4611686018427387904) (hcell : ∀ j (hj : j < ss.length), w.cell? ⟨g, o + j, none⟩ = some (.string ss[j])) (hs : ∃ s ∈ ss, 100000 < s.size) :
    Calls Tryz.prog 53 #[.slice (some ⟨g, o, none⟩) ss.length cap, .func (.func 33) #[] #[]] w fun e w' => (∃ k : Nat, e = .returned (.int .i64 k)) ∧ w' = w := by
  have HC : Hid _ := hcell
  have HS : Hid _ := hs
  have hn1 : (ss.length : Int) ≤ 4611686018427387904 := by omega
  clear hcell hs
  go_enter Tryz.func53, Tryz.ntmps53
  go_wp2
  go_loop [8] (fun i => ∃ k : Nat, k ≤ ss.length ∧ i = .int .i64 k ∧ ∀ j (hj : j < ss.length), j < k → ss[j].size ≤ 100000) (fun i => ss.length - (intOf i).toNat)
  case atStart => exact ⟨0, Nat.zero_le _, rfl, by omega⟩
  case round =>
    obtain ⟨k, hk, rfl, hlo⟩ := hrel
    have HL : Hid _ := hlo
    clear hlo
    by_cases hlt : k < ss.length
    · have hc := HC.out k hlt
      by_cases hb : 100000 < (ss[k]).size
      · have hb' : decide (100000 < (ss[k]).size) = true := by simpa using hb
        clear hb
        go_wp2_with (go_at_call 33; refine (isTooLong_any _ _).mono ?_; rintro e w' ⟨rfl, rfl⟩; rw [hb'])
        go_ret
        exact ⟨⟨k, rfl⟩, rfl⟩
      · have hb' : decide (100000 < (ss[k]).size) = false := by simpa using hb
        have HB : Hid _ := hb
        clear hb
        go_wp2_with (go_at_call 33; refine (isTooLong_any _ _).mono ?_; rintro e w' ⟨rfl, rfl⟩; rw [hb'])
        refine ⟨⟨k + 1, by omega, by go_num, fun j hj hjk => ?_⟩, by simp [intOf]; omega⟩
        by_cases h : j < k
        · exact HL.out j hj h
        · obtain rfl : j = k := by omega
          exact Nat.le_of_not_lt HB.out
    · exfalso
      obtain ⟨s, hs, hlong⟩ := HS.out
      obtain ⟨j, hj, rfl⟩ := List.getElem_of_mem hs
      have := HL.out j hj (by omega)
      omega

set_option maxHeartbeats 1000000 in
theorem cf_none (g o cap : Nat) (ss : List ByteArray) (w : World) (hn : ss.length ≤ 4611686018427387904) (hcell : ∀ j (hj : j < ss.length), w.cell? ⟨g, o + j, none⟩ = some (.string ss[j])) (hs : ∀ s ∈ ss, s.size ≤ 100000) :
    Calls Tryz.prog 32 #[.slice (some ⟨g, o, none⟩) ss.length cap, .func (.func 33) #[] #[]] w fun e w' => e = .returned (.bool false) ∧ w' = w := by
  have HC : Hid _ := hcell
  have HS : Hid _ := hs
  clear hcell hs
  go_enter Tryz.func32, Tryz.ntmps32
  go_wp2_with (go_at_call 53; refine (idx_none g o cap ss _ hn HC.out HS.out).mono ?_; rintro e w' ⟨rfl, rfl⟩)
  go_ret
  exact ⟨rfl, rfl⟩

set_option maxHeartbeats 1000000 in
theorem cf_some (g o cap : Nat) (ss : List ByteArray) (w : World) (hn : ss.length ≤ 4611686018427387904) (hcell : ∀ j (hj : j < ss.length), w.cell? ⟨g, o + j, none⟩ = some (.string ss[j])) (hs : ∃ s ∈ ss, 100000 < s.size) :
    Calls Tryz.prog 32 #[.slice (some ⟨g, o, none⟩) ss.length cap, .func (.func 33) #[] #[]] w fun e w' => e = .returned (.bool true) ∧ w' = w := by
  have HC : Hid _ := hcell
  have HS : Hid _ := hs
  clear hcell hs
  go_enter Tryz.func32, Tryz.ntmps32
  go_wp2_with (go_at_call 53; refine (idx_some g o cap ss _ hn HC.out HS.out).mono ?_; rintro e w' ⟨⟨k, rfl⟩, rfl⟩)
  go_ret
  exact ⟨rfl, rfl⟩

set_option maxHeartbeats 1000000 in
set_option maxRecDepth 100000 in
theorem cf_zero (a : Option Addr) (cap : Nat) (w : World) :
    Calls Tryz.prog 32 #[.slice a 0 cap, .func (.func 33) #[] #[]] w fun e w' => e = .returned (.bool false) ∧ w' = w := by
  go_enter Tryz.func32, Tryz.ntmps32
  go_wp2
  refine wp_loop_rounds 1 ?_
  rw [rounds_succ]
  go_wp2
  go_ret
  exact ⟨rfl, rfl⟩
end Go.Proofs.YtapiedeekbfpnaaGreatDoor

/- The lines of a command. -/
namespace Go.Proofs.YtapiedeekbfpnaaGreatDoor
open Go.RowKit Go.Shelf Go.Maps Go.WideMaps

theorem infoS {i : Option TypeInfo} {z : Value} {s b : Nat} (h : i.map (fun i => (i.zero, i.size, i.bytes)) = some (some z, s, b)) : ∃ i0, i = some i0 ∧ i0.zero = some z ∧ i0.size = s ∧ i0.bytes = b := by
  cases i with
  | none => cases h
  | some i0 =>
    simp at h
    exact ⟨i0, rfl, h.1, h.2.1, h.2.2⟩
theorem infLn : (Tryz.prog.info? 67).map (fun i => (i.zero, i.size, i.bytes)) = some (some (.agg #[.string ⟨#[]⟩, .int .i64 0, .int .i64 0, .string ⟨#[]⟩, .string ⟨#[]⟩, .int .i64 0, .int .i64 0]), 7, 80) := by kernel_rfl
theorem addS0 (g j : Nat) : (⟨g, 0, none⟩ : Addr).add j = ⟨g, j, none⟩ := by
  unfold Addr.add
  split <;> simp_all
theorem newCS (W : World) (cs : Array Value) (ty : TypeId) : ∀ (k : Nat) (u : Value), cs.toList[k]? = some u → (W.alloc (.cells cs ty)).cell? ((⟨W.heap.size, 0, none⟩ : Addr).add k) = some u := by
  intro k u hk
  rw [addS0, Lib.cell_of_heap (heap_alloc_new W _)]
  simpa using hk
/-- Appending, shut: the walk is not to look into it. -/
def appSb (ats : Array TypeId) (ty : TypeId) (args : Array Value) : Sem Value := Builtin.append_ ats ty args
theorem appSb_eq (ats : Array TypeId) (ty : TypeId) (args : Array Value) : Builtin.append_ ats ty args = appSb ats ty args := rfl

def lnCells (L : List Ln) : List Value := L.flatMap fun l => (lnC l).toList
theorem rowL_add {B : Nat} {L : List Ln} {v : Value} {w : World} (h : w.ownsRow B 67 7 v L.length (lnCells L)) (hB : B ≤ w.heap.size) (l : Ln) (hl : L.length ≤ 1000) :
    ∃ G C w', (appSb #[42, 42] 42 #[v, .slice (some ⟨w.heap.size, 0, none⟩) 1 1]).run Tryz.prog (w.alloc (.cells #[.string l.wd, .int .i64 (l.r : Int), .int .i64 (l.s : Int), .string l.pa, .string l.tx, .int .i64 (l.n : Int), .int .i64 (l.m : Int)] 67)) = .ok (.slice (some ⟨G, 0, none⟩) (L.length + 1) C) w' ∧
      w'.ownsRow B 67 7 (.slice (some ⟨G, 0, none⟩) (L.length + 1) C) (L ++ [l]).length (lnCells (L ++ [l])) ∧ Below B w w' := by
  obtain ⟨i0, hi, hz0, hz1, hz2⟩ := infoS infLn
  have hsz : (w.alloc (.cells #[.string l.wd, .int .i64 (l.r : Int), .int .i64 (l.s : Int), .string l.pa, .string l.tx, .int .i64 (l.n : Int), .int .i64 (l.m : Int)] 67)).heap.size = w.heap.size + 1 := World.size_alloc _ _
  have hr := h.alloc (.cells #[.string l.wd, .int .i64 (l.r : Int), .int .i64 (l.s : Int), .string l.pa, .string l.tx, .int .i64 (l.n : Int), .int .i64 (l.m : Int)] 67)
  obtain ⟨G, C, w', hrun, hrow, hgr, hat, hlt⟩ := run_append_lies (P := Tryz.prog) (w.alloc (.cells #[.string l.wd, .int .i64 (l.r : Int), .int .i64 (l.s : Int), .string l.pa, .string l.tx, .int .i64 (l.n : Int), .int .i64 (l.m : Int)] 67)) 42 42 B 67 i0 (.agg #[.string ⟨#[]⟩, .int .i64 0, .int .i64 0, .string ⟨#[]⟩, .string ⟨#[]⟩, .int .i64 0, .int .i64 0]) 7 80 Tryz.underlying42 hi hz0 hz1 hz2 rfl (by decide) v L.length (lnCells L) hr ⟨w.heap.size, 0, none⟩ 1 1 (lnC l).toList rfl (newCS w _ _) (fun u hu => by simp [lnC] at hu; rcases hu with rfl | rfl | rfl | rfl | rfl | rfl | rfl <;> rfl) (by decide) (by unfold maxLen; omega) (by omega) (by omega) (w.heap.size + 1) hsz
  refine ⟨G, C, w', hrun, ?_, ((Below.refl B w).alloc hB _).grown hgr (by omega) fun k hk => (hr.lt k hk).1⟩
  rw [List.length_append]
  unfold lnCells
  rw [List.flatMap_append]
  simp only [List.flatMap_cons, List.flatMap_nil, List.append_nil]
  exact hrow

/-- Texts in memory, as they stand below. -/
def TxAt (w : World) (ao : Option Addr) (ss : List ByteArray) : Prop := ss = [] ∨ ∃ g o, ao = some ⟨g, o, none⟩ ∧ g < w.heap.size ∧ ∀ j (hj : j < ss.length), w.cell? ⟨g, o + j, none⟩ = some (.string ss[j])
theorem TxAt.below {w w' : World} {ao : Option Addr} {ss : List ByteArray} (h : TxAt w ao ss) (hb : Below w.heap.size w w') : TxAt w' ao ss := by
  rcases h with h | ⟨g, o, e, hg, hc⟩
  · exact .inl h
  · exact .inr ⟨g, o, e, Nat.lt_of_lt_of_le hg hb.size, fun j hj => (hb.cell (p := ⟨g, o + j, none⟩) hg).trans (hc j hj)⟩
/-- The first line that is wrong. -/
def badF (n : Nat) (ss : List ByteArray) : Option Nat := ss.findIdx? fun s => (linF n s.data.toList).isNone
/-- What is wrong with a command: where, and how. -/
def chkF (ss : List ByteArray) : Nat × Nat := if 60 < ss.length ∨ ∃ s ∈ ss, 100000 < s.size then (0, 2) else match badF ss.length ss with
  | some i => (i, 1)
  | none => (0, 0)
def lnsF (n : Nat) (ss : List ByteArray) : List Ln := ss.filterMap fun s => linF n s.data.toList

theorem cf_any (ao : Option Addr) (cap : Nat) (ss : List ByteArray) (w : World) (hn : ss.length ≤ 60) (h : TxAt w ao ss) :
    Calls Tryz.prog 32 #[.slice ao ss.length cap, .func (.func 33) #[] #[]] w fun e w' => e = .returned (.bool (decide (∃ s ∈ ss, 100000 < s.size))) ∧ w' = w := by
  rcases h with rfl | ⟨g, o, rfl, _, hc⟩
  · simpa using cf_zero ao cap w
  · by_cases hs : ∃ s ∈ ss, 100000 < s.size
    · rw [decide_eq_true hs]
      exact cf_some g o cap ss w (by omega) hc hs
    · rw [decide_eq_false hs]
      exact cf_none g o cap ss w (by omega) hc (fun s h => Nat.le_of_not_lt fun h2 => hs ⟨s, h, h2⟩)
theorem lns_snoc (n : Nat) (ss : List ByteArray) {k : Nat} (hk : k < ss.length) {l : Ln} (h : linF n ss[k].data.toList = some l) : lnsF n (ss.take (k + 1)) = lnsF n (ss.take k) ++ [l] := by
  unfold lnsF
  rw [List.take_succ_eq_append_getElem hk, List.filterMap_append]
  simp [h]

theorem row_low {w : World} {B B' : Nat} {e : TypeId} {size n : Nat} {v : Value} {xs : List Value} (h : w.ownsRow B e size v n xs) (hB : B' ≤ B) : w.ownsRow B' e size v n xs := by
  obtain ⟨h1, h2 | ⟨g, c, cur, q1, q2, q3⟩⟩ := h
  · exact ⟨h1, .inl h2⟩
  · exact ⟨h1, .inr ⟨g, c, cur, q1, Nat.le_trans hB q2, q3⟩⟩
theorem row_up {w w' : World} {B : Nat} {e : TypeId} {size n : Nat} {v : Value} {xs : List Value} (h : w.ownsRow B e size v n xs) (hb : Below w.heap.size w w') : w'.ownsRow B e size v n xs := by
  obtain ⟨h1, h2 | ⟨g, c, cur, q1, q2, q3, q4⟩⟩ := h
  · exact ⟨h1, .inl h2⟩
  · exact ⟨h1, .inr ⟨g, c, cur, q1, q2, (hb.block g (Array.getElem?_eq_some_iff.1 q3).1).trans q3, q4⟩⟩
theorem below_low {B B' : Nat} {w w' w2 : World} (h : Below B w w') (k : Below B' w' w2) (hB : B ≤ B') : Below B w w2 :=
  ⟨k.os.trans h.os, k.tape.trans h.tape, k.output.trans h.output, Nat.le_trans h.size k.size, fun g hg => (k.block g (by omega)).trans (h.block g hg)⟩
theorem bad_some {n k : Nat} {ss : List ByteArray} (hk : k < ss.length) (h1 : ∀ j (hj : j < ss.length), j < k → (linF n ss[j].data.toList).isSome = true) (h2 : linF n ss[k].data.toList = none) : badF n ss = some k := by
  unfold badF
  rw [List.findIdx?_eq_some_iff_getElem]
  refine ⟨hk, by rw [h2]; rfl, fun j hj => ?_⟩
  have := h1 j (by omega) hj
  cases h : linF n ss[j].data.toList with
  | none => rw [h] at this; cases this
  | some l => simp
theorem bad_none {n : Nat} {ss : List ByteArray} (h1 : ∀ j (hj : j < ss.length), (linF n ss[j].data.toList).isSome = true) : badF n ss = none := by
  unfold badF
  rw [List.findIdx?_eq_none_iff]
  intro s hs
  obtain ⟨j, hj, rfl⟩ := List.getElem_of_mem hs
  have := h1 j hj
  cases h : linF n ss[j].data.toList with
  | none => rw [h] at this; cases this
  | some l => rfl

attribute [local go_sem ↓] appSb_eq

set_option maxHeartbeats 4000000 in
set_option maxRecDepth 100000 in
theorem linesOf_any (ao : Option Addr) (cap : Nat) (ss : List ByteArray) (w : World) (h : TxAt w ao ss) (hm : MaxIs w) (hlen : ss.length ≤ 4611686018427387904) :
    Calls Tryz.prog 19 #[.slice ao ss.length cap] w fun e w' => ∃ v, e = .returned (.tuple #[v, .int .i64 ((chkF ss).1 : Int), .int .i64 ((chkF ss).2 : Int)]) ∧ Below w.heap.size w w' ∧ ((chkF ss).2 = 0 → w'.ownsRow w.heap.size 67 7 v ss.length (lnCells (lnsF ss.length ss)) ∧ (lnsF ss.length ss).length = ss.length) := by
  by_cases hn : 60 < ss.length
  · have he : chkF ss = (0, 2) := by unfold chkF; rw [if_pos (.inl hn)]
    rw [he]
    have hni : (60 : Int) < (ss.length : Int) := by omega
    have hli : (ss.length : Int) ≤ 9223372036854775807 := by omega
    clear he hn hlen
    generalize ss.length = n at *
    go_enter Tryz.func19, Tryz.ntmps19
    go_wp2
    go_ret3
    exact ⟨_, rfl, Below.refl _ _, fun e => absurd e (by decide)⟩
  have HCF : Hid (Calls Tryz.prog 32 #[.slice ao ss.length cap, .func (.func 33) #[] #[]] w fun e w' => e = .returned (.bool (decide (∃ s ∈ ss, 100000 < s.size))) ∧ w' = w) := cf_any ao cap ss w (by omega) h
  by_cases hs : ∃ s ∈ ss, 100000 < s.size
  · have he : chkF ss = (0, 2) := by unfold chkF; rw [if_pos (.inr hs)]
    rw [he]
    rw [decide_eq_true hs] at HCF
    have hni : ¬ (60 : Int) < (ss.length : Int) := by omega
    clear he hn hlen hs h
    generalize ss.length = n at *
    go_enter Tryz.func19, Tryz.ntmps19
    go_wp2_with (first | (go_at_call 32; refine HCF.out.mono ?_; rintro e w1 ⟨rfl, hw⟩; subst w1) | go_in)
    go_ret3
    exact ⟨_, rfl, Below.refl _ _, fun e => absurd e (by decide)⟩
  rw [decide_eq_false hs] at HCF
  have HE : Hid (chkF ss = match badF ss.length ss with | some i => (i, 1) | none => (0, 0)) := by
    show _ = _
    unfold chkF
    rw [if_neg (by rintro (h1 | h1); exact hn h1; exact hs h1)]
  have HS : Hid (∀ s ∈ ss, s.size ≤ 100000) := fun s h1 => Nat.le_of_not_lt fun h2 => hs ⟨s, h1, h2⟩
  have HT : Hid (TxAt w ao ss) := h
  have HM : Hid (MaxIs w) := hm
  have HNF : Hid (Calls Tryz.prog 34 #[.int .i64 (ss.length : Int)] w fun e w' => ∃ M bn bl bp bs, e = .returned (.map (some M)) ∧ Hid (bs.length = 13 ∧ FmI w.heap.size M bn bl bp ss.length w bs w')) := (newForms_any ss.length w).mono fun e w' h => by obtain ⟨M, bn, bl, bp, bs, h1, h2, h3⟩ := h; exact ⟨M, bn, bl, bp, bs, h1, h2, h3⟩
  have hni : ¬ (60 : Int) < (ss.length : Int) := by omega
  have HN : Hid (ss.length ≤ 60) := by show ss.length ≤ 60; omega
  obtain ⟨c1, c2, hch⟩ : ∃ c1 c2 : Nat, chkF ss = (c1, c2) := ⟨_, _, rfl⟩
  have HCH : Hid (chkF ss = (c1, c2)) := hch
  rw [hch]
  simp only
  clear hn hs h hm hlen hch
  go_enter Tryz.func19, Tryz.ntmps19
  go_wp2_with (first
    | (go_at_call 32; refine HCF.out.mono ?_; rintro e w1 ⟨rfl, hw⟩; subst w1)
    | (go_at_call 34; refine HNF.out.mono ?_; rintro e w2 ⟨M, bn, bl, bp, bs, rfl, HF⟩)
    | go_in)
  go_loopw [6, 23] (fun v6 v wr => ∃ k : Nat, k ≤ ss.length ∧ v = .int .i64 (k : Int) ∧ Hid (wr.ownsRow w2.heap.size 67 7 v6 (lnsF ss.length (ss.take k)).length (lnCells (lnsF ss.length (ss.take k))) ∧ (lnsF ss.length (ss.take k)).length = k ∧ Below w2.heap.size w2 wr ∧ ∀ j (hj : j < ss.length), j < k → (linF ss.length ss[j].data.toList).isSome = true)) (fun _ v _ => ss.length - (intOf v).toNat)
  case atStart => exact ⟨0, by omega, rfl, ⟨rfl, .inl ⟨rfl, rfl⟩⟩, rfl, Below.refl _ _, fun j _ hj => absurd hj (by omega)⟩
  case round =>
    obtain ⟨k, hk, rfl, HI⟩ := hrel
    have hbw : Below w.heap.size w wr := below_low HF.out.2.bel HI.out.2.2.1 HF.out.2.bel.size
    have HBW : Hid (Below w.heap.size w wr) := hbw
    by_cases hkl : k < ss.length
    · rcases HT.out.below hbw with h0 | ⟨g, o, rfl, hg, hc⟩
      · exfalso; rw [h0] at hkl; exact absurd hkl (by simp)
      have cs := hc k hkl
      obtain ⟨s, hs⟩ : ∃ s, ss[k] = s := ⟨_, rfl⟩
      rw [hs] at cs
      have hFk := HF.out.2.keep HI.out.2.2.1 HF.out.2.bel.size
      have hLO := lineOf_any hFk (Nat.le_trans HF.out.2.bel.size HI.out.2.2.1.size) HF.out.1 s (by rw [← hs]; exact HS.out _ (List.getElem_mem hkl)) (HM.out.up hbw)
      have hki : (k : Int) < (ss.length : Int) := by omega
      have HHS : Hid (ss[k] = s) := hs
      unfold linV at hLO
      cases hlf : linF ss.length s.data.toList with
      | none =>
        rw [hlf] at hLO
        have HLO : Hid (Calls Tryz.prog 35 #[.string s, .map (some M)] wr fun e w' => e = .returned (.tuple #[.agg (lnC Ln.none), .bool false]) ∧ Hid (Below wr.heap.size wr w')) := hLO
        have HB2 : Hid (c1 = k ∧ c2 = 1) := by
          have h1 := bad_some hkl HI.out.2.2.2 (by rw [hs]; exact hlf)
          have h2 := HE.out
          rw [h1, HCH.out] at h2
          injection h2 with h2 h3
          exact ⟨h2, h3⟩
        obtain ⟨rfl, rfl⟩ := HB2.out
        clear hLO hlf hs hFk hc hbw
        unfold lnC Ln.none at HLO
        simp only at HLO
        go_wp2_with (first
          | (go_at_call 35; refine HLO.out.mono ?_; rintro e w3 ⟨rfl, HB3⟩)
          | go_in)
        go_ret3
        exact ⟨_, rfl, below_low HBW.out (HB3.out.alloc HB3.out.size _) HBW.out.size, fun e => absurd e (by decide)⟩
      | some l =>
        rw [hlf] at hLO
        have HLO : Hid (Calls Tryz.prog 35 #[.string s, .map (some M)] wr fun e w' => e = .returned (.tuple #[.agg #[.string l.wd, .int .i64 (l.r : Int), .int .i64 (l.s : Int), .string l.pa, .string l.tx, .int .i64 (l.n : Int), .int .i64 (l.m : Int)], .bool true]) ∧ Hid (Below wr.heap.size wr w')) := hLO
        have HSN : Hid (lnsF ss.length (ss.take (k + 1)) = lnsF ss.length (ss.take k) ++ [l]) := lns_snoc ss.length ss hkl (by rw [hs]; exact hlf)
        have HAP : Hid (∀ w3, Hid (Below wr.heap.size wr w3) → ∃ G C w4, (appSb #[42, 42] 42 #[u6, .slice (some ⟨w3.heap.size + 1, 0, none⟩) 1 1]).run Tryz.prog ((w3.alloc (.cells #[.string l.wd, .int .i64 (l.r : Int), .int .i64 (l.s : Int), .string l.pa, .string l.tx, .int .i64 (l.n : Int), .int .i64 (l.m : Int)] 67)).alloc (.cells #[.string l.wd, .int .i64 (l.r : Int), .int .i64 (l.s : Int), .string l.pa, .string l.tx, .int .i64 (l.n : Int), .int .i64 (l.m : Int)] 67)) = .ok (.slice (some ⟨G, 0, none⟩) (k + 1) C) w4 ∧ Hid (w4.ownsRow w2.heap.size 67 7 (.slice (some ⟨G, 0, none⟩) (k + 1) C) (lnsF ss.length (ss.take (k + 1))).length (lnCells (lnsF ss.length (ss.take (k + 1)))) ∧ (lnsF ss.length (ss.take (k + 1))).length = k + 1 ∧ Below w2.heap.size w2 w4)) := by
          intro w3 hb3
          have h1 := row_up HI.out.1 hb3.out
          have h2 : (w3.alloc (.cells #[.string l.wd, .int .i64 (l.r : Int), .int .i64 (l.s : Int), .string l.pa, .string l.tx, .int .i64 (l.n : Int), .int .i64 (l.m : Int)] 67)).heap.size = w3.heap.size + 1 := World.size_alloc _ _
          have h3 : w2.heap.size ≤ wr.heap.size := HI.out.2.2.1.size
          have h4 := hb3.out.size
          obtain ⟨G, C, w4, r1, r2, r3⟩ := rowL_add (h1.alloc (.cells #[.string l.wd, .int .i64 (l.r : Int), .int .i64 (l.s : Int), .string l.pa, .string l.tx, .int .i64 (l.n : Int), .int .i64 (l.m : Int)] 67)) (by rw [h2]; omega) l (by rw [HI.out.2.1]; have := HN.out; omega)
          rw [h2, HI.out.2.1] at r1
          rw [HI.out.2.1] at r2
          refine ⟨G, C, w4, r1, ?_, ?_, ?_⟩
          · rw [HSN.out]
            exact r2
          · rw [HSN.out, List.length_append, HI.out.2.1]
            rfl
          · exact ((below_low HI.out.2.2.1 hb3.out h3).alloc (by omega) _).trans r3
        have HSO : Hid (∀ j (hj : j < ss.length), j < k + 1 → (linF ss.length ss[j].data.toList).isSome = true) := by
          intro j hj hjk
          by_cases e : j = k
          · subst e
            rw [hs, hlf]
            rfl
          · exact HI.out.2.2.2 j hj (by omega)
        clear hLO hlf hs hFk hc hbw
        generalize (l.r : Int) = l1 at *
        generalize (l.s : Int) = l2 at *
        generalize (l.n : Int) = l3 at *
        generalize (l.m : Int) = l4 at *
        go_wp2_with (first
          | (go_at_call 35; refine HLO.out.mono ?_; rintro e w3 ⟨rfl, HB3⟩; obtain ⟨G, C, w4, hap, HR4⟩ := HAP.out w3 HB3)
          | go_in)
        refine ⟨⟨k + 1, by omega, by go_num, HR4.out.1, HR4.out.2.1, HR4.out.2.2, HSO.out⟩, by simp [intOf]; omega⟩
    · obtain rfl : k = ss.length := by omega
      have hki : ¬ (ss.length : Int) < (ss.length : Int) := by omega
      have HB2 : Hid (c1 = 0 ∧ c2 = 0) := by
        have h1 := bad_none (fun j hj => HI.out.2.2.2 j hj hj)
        have h2 := HE.out
        rw [h1, HCH.out] at h2
        injection h2 with h2 h3
        exact ⟨h2, h3⟩
      obtain ⟨rfl, rfl⟩ := HB2.out
      go_wp2
      go_ret3
      have h1 := HI.out.1
      have h2 := HI.out.2.1
      rw [List.take_length] at h1 h2
      rw [h2] at h1
      exact ⟨_, rfl, HBW.out, row_low h1 HF.out.2.bel.size, h2⟩

set_option maxHeartbeats 1000000 in
set_option maxRecDepth 100000 in
theorem SCheck_any (ao : Option Addr) (cap : Nat) (ss : List ByteArray) (w : World) (h : TxAt w ao ss) (hm : MaxIs w) (hlen : ss.length ≤ 4611686018427387904) :
    Calls Tryz.prog 26 #[.slice ao ss.length cap] w fun e w' => e = .returned (.tuple #[.int .i64 ((chkF ss).1 : Int), .int .i64 ((chkF ss).2 : Int)]) ∧ Below w.heap.size w w' := by
  have HL : Hid (Calls Tryz.prog 19 #[.slice ao ss.length cap] w fun e w' => ∃ v, e = .returned (.tuple #[v, .int .i64 ((chkF ss).1 : Int), .int .i64 ((chkF ss).2 : Int)]) ∧ Hid (Below w.heap.size w w')) := (linesOf_any ao cap ss w h hm hlen).mono fun e w' hh => by obtain ⟨v, h1, h2, _⟩ := hh; exact ⟨v, h1, h2⟩
  clear h hm hlen
  generalize chkF ss = cc at *
  obtain ⟨c1, c2⟩ := cc
  simp only at HL ⊢
  generalize ss.length = n at *
  go_enter Tryz.func26, Tryz.ntmps26
  go_wp2_with (first | (go_at_call 19; refine HL.out.mono ?_; rintro e w1 ⟨v, rfl, HB⟩) | go_in)
  go_ret2
  exact ⟨rfl, HB.out⟩
end Go.Proofs.YtapiedeekbfpnaaGreatDoor

/- What the document's WordsOf, IsRegister and NumberOf answer. -/
namespace Go.Proofs.YtapiedeekbfpnaaGreatDoor
open Go.RowKit Go.Shelf

set_option maxHeartbeats 2000000 in
set_option maxRecDepth 100000 in
theorem WordsOf_any (s : ByteArray) (w : World) (hs : s.size ≤ 100000) :
    Calls Tryz.prog 17 #[.string s] w fun e w' => ∃ v, e = .returned v ∧ w'.ownsRow w.heap.size 9 1 v (wdL [] s.data.toList).length (strs (wdL [] s.data.toList)) ∧ Below w.heap.size w w' := by
  obtain ⟨i0, hi, hz0, hz1, hz2⟩ := info_parts infS
  have hz : (s.size : Int) ≤ 100000 := by omega
  go_enter Tryz.func17, Tryz.ntmps17
  go_wp2
  go_loopw [3, 4] (fun v i wr => ∃ k : Nat, k ≤ s.size ∧ i = .int .i64 k ∧ wr.ownsRow w.heap.size 9 1 v (wdL [] (s.data.toList.take k)).length (strs (wdL [] (s.data.toList.take k))) ∧ Below w.heap.size w wr) (fun _ i _ => s.size - (intOf i).toNat)
  case atStart =>
    refine ⟨0, by omega, rfl, ?_, (Below.refl _ _).alloc (Nat.le_refl _) _⟩
    exact ⟨rfl, Or.inr ⟨w.heap.size, 1, #[.string ⟨#[]⟩], rfl, Nat.le_refl _, heap_alloc_new w _, Nat.le_refl _, by decide, rfl, rfl⟩⟩
  case round =>
    obtain ⟨k, hk, rfl, hown, hb⟩ := hrel
    have HB : Hid (Below w.heap.size w wr) := hb
    have HO : Hid (wr.ownsRow w.heap.size 9 1 u3 (wdL [] (s.data.toList.take k)).length (strs (wdL [] (s.data.toList.take k)))) := hown
    have hsz := hb.size
    have hpl := wdL_len (s.data.toList.take k) []
    rw [List.length_take] at hpl
    clear hb hown
    by_cases hlt : k < s.size
    · have hts := take_snoc s k hlt
      by_cases hc : s[k] = 32
      · have hc1 : (s[k].toNat : Int) = 32 := by rw [hc]; rfl
        have HT : Hid (wdL [] (s.data.toList.take (k + 1)) = wdL [] (s.data.toList.take k) ++ [[]]) := by
          show _ = _
          rw [hts, hc, wdL_blank]
        clear hts hc
        go_wp2_with (at_builtin; refine wpList_append_own _ rfl _ _ 23 rfl w.heap.size 9 i0 (.string ⟨#[]⟩) 1 16 Tryz.underlying23 hi hz0 hz1 hz2 rfl (by decide) _ _ _ rfl (HO.out.alloc _) ⟨wr.heap.size, 0, none⟩ 1 1 [.string ⟨#[]⟩] rfl rfl ?c1 ?c2 ?c3 ?c4 ?c5 ?_)
        case c1 =>
          intro j u hj
          match j, hj with
          | 0, hj => simp at hj; subst hj; simp [Addr.add]
        case c2 => intro u hu; simp at hu; subst hu; rfl
        case c3 => unfold maxLen; omega
        case c4 => omega
        case c5 => simp; omega
        intro v' w4 hown4 hg4 _
        have hrow : ∀ j, u3.ownBlock = some j → w.heap.size ≤ j := fun j hj => (HO.out.lt j hj).1
        have HB4 : Hid (Below w.heap.size w w4) := (HB.out.alloc hsz _).grown hg4 (by simp; omega) hrow
        have HO4 : Hid (w4.ownsRow w.heap.size 9 1 v' ((wdL [] (s.data.toList.take k)).length + 1) (strs (wdL [] (s.data.toList.take k)) ++ [.string ⟨#[]⟩])) := hown4
        clear hown4 hg4 hrow
        go_wp2
        refine ⟨⟨k + 1, by omega, by go_num, ?_, HB4.out⟩, by simp [intOf]; omega⟩
        rw [HT.out, List.length_append, show strs (wdL [] (s.data.toList.take k) ++ [[]]) = strs (wdL [] (s.data.toList.take k)) ++ [.string ⟨#[]⟩] from by simp [strs]]
        exact HO4.out
      · have hc1 : ((s[k].toNat : Int) == 32) = false := by
          rw [beq_eq_false_iff_ne]
          intro h
          exact hc (UInt8.toNat_inj.1 (by show s[k].toNat = 32; omega))
        obtain ⟨ps, p, e1, e2⟩ := wdL_snoc (s.data.toList.take k) s[k] hc []
        rw [← hts] at e2
        have E2 : Hid _ := e2
        clear e2 hts hc
        rw [e1] at HO
        have hlen : (ps ++ [p]).length = ps.length + 1 := by simp
        rw [hlen] at HO
        obtain ⟨g, cap, rfl⟩ := own_block HO.out
        have q0 : wr.cell? ⟨g, ps.length, none⟩ = some (.string ⟨p.toArray⟩) := by
          have := HO.out.cells rfl ps.length (.string ⟨p.toArray⟩) (by simp [strs])
          rwa [addr_add, Nat.zero_add] at this
        have q1 : wr.frozen? ⟨g, ps.length, none⟩ = false := HO.out.frozenAt _
        have hpl2 : ps.length ≤ k := by rw [e1, hlen] at hpl; omega
        have i1 : (ps.length : Int) < (ps.length : Int) + 1 := by omega
        have i2 : (0 : Int) ≤ (ps.length : Int) := by omega
        have i5 : IntKind.i64.wrap ((ps.length : Int) + 1 - 1) = ps.length := by rw [wraps_i64 _ (by omega) (by omega)]; omega
        have i6 : IntKind.i64.wrap (ps.length : Int) = ps.length := wraps_i64 _ (by omega) (by omega)
        have hp := wdL_mem (s.data.toList.take k) [] p (by rw [e1]; simp)
        rw [List.length_take] at hp
        have hadd : ∀ W : World, (Op.stringOp .add ⟨p.toArray⟩ (s.extract k (k + 1))).run Tryz.prog W = .ok (.string ⟨(p ++ [s[k]]).toArray⟩) W := fun W => by
          have h1 := addl p (s.extract k (k + 1)) (by simp at hp ⊢; omega) W
          rwa [extract_one s k hlt] at h1
        clear hp
        have HO5 : Hid ((wr.setCell ⟨g, ps.length, none⟩ (.string ⟨(p ++ [s[k]]).toArray⟩)).ownsRow w.heap.size 9 1 (.slice (some ⟨g, 0, none⟩) (ps.length + 1) cap) (ps.length + 1) (strs (ps ++ [p ++ [s[k]]]))) := by
          have h1 := (HO.out.stored ps.length (.string ⟨(p ++ [s[k]]).toArray⟩)).1
          rwa [show (strs (ps ++ [p])).set ps.length (.string ⟨(p ++ [s[k]]).toArray⟩) = strs (ps ++ [p ++ [s[k]]]) from by simp [strs]] at h1
        have HB5 : Hid (Below w.heap.size w (wr.setCell ⟨g, ps.length, none⟩ (.string ⟨(p ++ [s[k]]).toArray⟩)).drew) := (HB.out.setCell (p := ⟨g, ps.length, none⟩) (HO.out.lt g rfl).1 _).drew
        go_wp2
        go_region
        go_wp2
        refine ⟨⟨k + 1, by omega, by go_num, ?_, HB5.out⟩, by simp [intOf]; omega⟩
        rw [E2.out, show (ps ++ [p ++ [s[k]]]).length = ps.length + 1 from by simp]
        exact HO5.out
    · obtain rfl : k = s.size := by omega
      rw [size_of (s := s) rfl, List.take_length] at HO
      go_wp2
      go_ret
      exact ⟨_, rfl, HO.out, HB.out⟩

set_option maxHeartbeats 1000000 in
set_option maxRecDepth 100000 in
theorem IsRegister_any (s : ByteArray) (w : World) (hs : s.size ≤ 1000000) :
    Calls Tryz.prog 96 #[.string s] w fun e w' => e = .returned (.bool (regF s.data.toList).isSome) ∧ w' = w := by
  have hsz9 : (s.size : Int) ≤ 9223372036854775807 := by omega
  clear hs
  by_cases h1 : s.size = 1
  · obtain ⟨c, hc⟩ : ∃ c, s.data.toList = [c] := by
      have : s.data.toList.length = 1 := by rw [← h1]; rfl
      exact List.length_eq_one_iff.1 this
    obtain ⟨c0, hc0⟩ : ∃ c0 : Nat, c0 = c.toNat := ⟨_, rfl⟩
    have hlt : c0 < 256 := by rw [hc0]; exact c.toNat_lt
    have hg : s[0]'(by omega) = c := by
      have : s.data.toList[0]? = some c := by rw [hc]; rfl
      rw [List.getElem?_eq_getElem (by rw [hc]; simp)] at this
      exact Option.some.inj this
    have hsz : (s.size : Int) = 1 := by omega
    have hg' : (s[0]'(by omega)).toNat = c0 := by rw [hg, hc0]
    unfold regF
    rw [hc]
    simp only
    rw [← hc0]
    clear hg hc0 hc
    by_cases h2 : 97 ≤ c0
    · by_cases h3 : c0 < 105
      · rw [if_pos ⟨h2, h3⟩]
        have e1 : (97 : Int) ≤ (c0 : Int) := by omega
        have e2 : (c0 : Int) ≤ 104 := by omega
        go_enter Tryz.func96, Tryz.ntmps96
        go_wp2
        go_ret
        exact ⟨rfl, rfl⟩
      · rw [if_neg (by omega)]
        have e1 : (97 : Int) ≤ (c0 : Int) := by omega
        have e2 : decide ((c0 : Int) ≤ 104) = false := by simp; omega
        go_enter Tryz.func96, Tryz.ntmps96
        go_wp2
        go_ret
        refine ⟨?_, rfl⟩
        first | rfl | (show Ending.returned (.bool (decide ((c0 : Int) ≤ 104))) = _; rw [decide_eq_false (by omega)]; rfl)
    · rw [if_neg (by omega)]
      have e1 : ¬ (97 : Int) ≤ (c0 : Int) := by omega
      go_enter Tryz.func96, Tryz.ntmps96
      go_wp2
      go_ret
      exact ⟨rfl, rfl⟩
  · have hr : regF s.data.toList = none := by
      unfold regF
      cases h : s.data.toList with
      | nil => rfl
      | cons a l => cases l with
        | nil =>
          exfalso
          apply h1
          show s.data.size = 1
          rw [← Array.length_toList, h]
          rfl
        | cons b l => rfl
    rw [hr]
    have hsz : ¬ (s.size : Int) = 1 := by omega
    go_enter Tryz.func96, Tryz.ntmps96
    go_wp2
    go_ret
    exact ⟨rfl, rfl⟩

set_option maxHeartbeats 1000000 in
theorem IsDigitByte_any (c : UInt8) (w : World) :
    Calls Tryz.prog 97 #[.int .u8 (c.toNat : Int)] w fun e w' => e = .returned (.bool (digF c)) ∧ w' = w := by
  unfold digF
  obtain ⟨c0, hc0⟩ : ∃ c0 : Nat, c.toNat = c0 := ⟨_, rfl⟩
  rw [hc0]
  clear hc0
  by_cases h1 : 48 ≤ c0
  · have e1 : (48 : Int) ≤ (c0 : Int) := by omega
    by_cases h2 : c0 ≤ 57
    · have e2 : (c0 : Int) ≤ 57 := by omega
      rw [decide_eq_true h1, decide_eq_true h2]
      clear h1 h2
      go_enter Tryz.func97, Tryz.ntmps97
      go_wp2
      go_ret
      exact ⟨rfl, rfl⟩
    · have e2 : decide ((c0 : Int) ≤ 57) = false := by simp; omega
      rw [decide_eq_true h1, decide_eq_false h2]
      clear h1 h2
      go_enter Tryz.func97, Tryz.ntmps97
      go_wp2
      go_ret
      refine ⟨?_, rfl⟩
      first | rfl | (show Ending.returned (.bool (decide ((c0 : Int) ≤ 57))) = _; rw [decide_eq_false (by omega)]; rfl)
  · have e1 : ¬ (48 : Int) ≤ (c0 : Int) := by omega
    rw [decide_eq_false h1, Bool.false_and]
    clear h1
    go_enter Tryz.func97, Tryz.ntmps97
    go_wp2
    go_ret
    exact ⟨rfl, rfl⟩

/-- A number of the document's, or -1. -/
def nmbF (s : List UInt8) (most : Int) : Int := match numF s with | some v => if (v : Int) ≤ most then v else -1 | none => -1
theorem nmb_no {s : List UInt8} {m : Int} (h : numF s = none) : nmbF s m = -1 := by unfold nmbF; rw [h]
theorem num_no {s : List UInt8} (h : s.all digF = false) : numF s = none := by
  unfold numF
  rw [h]
  simp

set_option maxHeartbeats 2000000 in
set_option maxRecDepth 100000 in
theorem NumberOf_any (s : ByteArray) (m : Nat) (w : World) (hs : s.size ≤ 1000000) :
    Calls Tryz.prog 46 #[.string s, .int .i64 (m : Int)] w fun e w' => e = .returned (.int .i64 (nmbF s.data.toList (m : Int))) ∧ w' = w := by
  have hsl : s.size = s.data.toList.length := size_of rfl
  have HL : Hid (s.size = s.data.toList.length) := hsl
  have hsz9 : (s.size : Int) ≤ 9223372036854775807 := by omega
  have HG : Hid (∀ k (hk : k < s.size), s.data.toList[k]? = some (s[k]'hk)) := fun k hk => List.getElem?_eq_getElem (by omega)
  have HD : Hid (∀ (c : UInt8) (W : World), Calls Tryz.prog 97 #[.int .u8 (c.toNat : Int)] W fun e w' => e = .returned (.bool (digF c)) ∧ w' = W) := fun c W => IsDigitByte_any c W
  obtain ⟨z, hz⟩ : ∃ z, nmbF s.data.toList (m : Int) = z := ⟨_, rfl⟩
  have HZ : Hid (nmbF s.data.toList (m : Int) = z) := hz
  rw [hz]
  clear hs hsl hz
  go_enter Tryz.func46, Tryz.ntmps46
  go_wp2
  go_loopw [5, 6] (fun v5 v wr => ∃ (k n : Nat), k ≤ s.size ∧ v = .int .i64 (k : Int) ∧ v5 = .int .i64 (n : Int) ∧ wr = w ∧ Hid (n = valF 0 (s.data.toList.take k) ∧ (s.data.toList.take k).all digF = true ∧ k ≤ 6)) (fun _ v _ => s.size - (intOf v).toNat)
  case atStart => exact ⟨0, 0, by omega, rfl, rfl, rfl, rfl, rfl, by omega⟩
  case round =>
    obtain ⟨k, n, hk, rfl, rfl, rfl, HI⟩ := hrel
    by_cases hkl : k < s.size
    · have hki : (k : Int) < (s.size : Int) := by omega
      obtain ⟨x, hx⟩ : ∃ x : UInt8, s[k]'hkl = x := ⟨_, rfl⟩
      have hxl : s.data.toList[k]? = some x := by rw [← hx]; exact HG.out k hkl
      have htk : s.data.toList.take (k + 1) = s.data.toList.take k ++ [x] := by
        rw [List.take_add_one, hxl]
        rfl
      obtain ⟨c1, hc1⟩ : ∃ c1 : Nat, x.toNat = c1 := ⟨_, rfl⟩
      have hx2 : (s[k]'hkl).toNat = c1 := by rw [hx, hc1]
      cases hd : digF x with
      | false =>
        have hD := HD.out x
        rw [hd, hc1] at hD
        have HD2 : Hid (∀ (W : World), Calls Tryz.prog 97 #[.int .u8 (c1 : Int)] W fun e w' => e = .returned (.bool false) ∧ w' = W) := hD
        have HZ2 : Hid (z = -1) := by
          show z = -1
          rw [← HZ.out, nmb_no (num_no (List.all_eq_false.2 ⟨x, List.mem_of_getElem? hxl, by rw [hd]; simp⟩))]
        obtain rfl := HZ2.out
        clear hD hd hc1 htk hxl hx
        go_wp2_with (first | (go_at_call 97; refine (HD2.out _).mono ?_; rintro e w1 ⟨rfl, hw⟩; subst w1) | go_in)
        go_ret
        exact ⟨rfl, rfl⟩
      | true =>
        have hD := HD.out x
        rw [hd, hc1] at hD
        have HD2 : Hid (∀ (W : World), Calls Tryz.prog 97 #[.int .u8 (c1 : Int)] W fun e w' => e = .returned (.bool true) ∧ w' = W) := hD
        have hd' := (digF_iff x).1 hd
        rw [hc1] at hd'
        by_cases h5 : 5 < k
        · have h5i : (5 : Int) < (k : Int) := by omega
          have HZ2 : Hid (z = -1) := by
            show z = -1
            have h7 : numF s.data.toList = none := by
              unfold numF
              rw [if_pos (.inr (.inl (by have := HL.out; omega)))]
            rw [← HZ.out, nmb_no h7]
          obtain rfl := HZ2.out
          clear hD hd hc1 htk hxl hx
          go_wp2_with (first | (go_at_call 97; refine (HD2.out _).mono ?_; rintro e w1 ⟨rfl, hw⟩; subst w1) | go_in)
          go_ret
          exact ⟨rfl, rfl⟩
        · have h5i : ¬ (5 : Int) < (k : Int) := by omega
          have hvv : n < 1000000 := by
            rw [HI.out.1]
            have h1 := valF_le _ 0 HI.out.2.1
            have h2 : (s.data.toList.take k).length ≤ 5 := by rw [List.length_take]; omega
            have h3 : (10 : Nat) ^ (s.data.toList.take k).length ≤ 10 ^ 5 := Nat.pow_le_pow_right (by decide) h2
            have h4 : (10 : Nat) ^ 5 = 100000 := by decide
            omega
          have HE : Hid (valF 0 (s.data.toList.take (k + 1)) = 10 * n + (c1 - 48) ∧ (s.data.toList.take (k + 1)).all digF = true) := by
            refine ⟨?_, ?_⟩
            · rw [htk, HI.out.1]
              unfold valF
              rw [List.foldl_append, ← hc1]
              rfl
            · rw [htk, List.all_append, HI.out.2.1]
              simp [hd]
          obtain ⟨v1, hv1⟩ : ∃ v1 : Nat, v1 = 10 * n := ⟨_, rfl⟩
          obtain ⟨v2, hv2⟩ : ∃ v2 : Nat, v2 = v1 + c1 := ⟨_, rfl⟩
          obtain ⟨v3, hv3⟩ : ∃ v3 : Nat, v2 = v3 + 48 := ⟨v2 - 48, by omega⟩
          have e3 : (10 : Int) * (n : Int) = (v1 : Int) := by omega
          have e4 : IntKind.i64.wrap (v1 : Int) = (v1 : Int) := by rw [IntKind.wrap_i64]; omega
          have e5 : IntKind.i64.wrap (c1 : Int) = (c1 : Int) := by rw [IntKind.wrap_i64]; omega
          have e6 : (v1 : Int) + (c1 : Int) = (v2 : Int) := by omega
          have e7 : IntKind.i64.wrap (v2 : Int) = (v2 : Int) := by rw [IntKind.wrap_i64]; omega
          have e8 : (v2 : Int) - 48 = (v3 : Int) := by omega
          have e9 : IntKind.i64.wrap (v3 : Int) = (v3 : Int) := by rw [IntKind.wrap_i64]; omega
          have HV : Hid (v3 = 10 * n + (c1 - 48)) := by show v3 = _; omega
          clear hD hd hc1 htk hxl hx hd' hvv hv1 hv2 hv3
          go_wp2_with (first | (go_at_call 97; refine (HD2.out _).mono ?_; rintro e w1 ⟨rfl, hw⟩; subst w1) | go_in)
          refine ⟨⟨k + 1, v3, by omega, by go_num, rfl, trivial, by rw [HE.out.1]; exact HV.out, HE.out.2, by omega⟩, by simp [intOf]; omega⟩
    · obtain rfl : k = s.size := by omega
      have hki : ¬ (s.size : Int) < (s.size : Int) := by omega
      have he : s.data.toList.take s.size = s.data.toList := by rw [HL.out]; exact List.take_length
      have hI := HI.out
      rw [he] at hI
      obtain ⟨hn, hall, h6⟩ := hI
      clear he
      by_cases h0 : s.size = 0
      · have h0' : s.toList.isEmpty = true := by
          rw [Lib.toList_data, List.isEmpty_iff]
          exact List.length_eq_zero_iff.1 (by rw [← HL.out]; exact h0)
        have HZ2 : Hid (z = -1) := by
          show z = -1
          have h7 : numF s.data.toList = none := by
            unfold numF
            rw [if_pos (.inl (by rw [← HL.out]; exact h0))]
          rw [← HZ.out, nmb_no h7]
        obtain rfl := HZ2.out
        clear hn hall h6 h0
        go_wp2
        go_ret
        exact ⟨rfl, rfl⟩
      · have h0' : s.toList.isEmpty = false := by
          rw [Lib.toList_data, List.isEmpty_eq_false_iff]
          intro e
          have := HL.out
          rw [e] at this
          exact h0 this
        have hpos : 0 < s.size := by omega
        obtain ⟨c, hc⟩ : ∃ c, s[0]'hpos = c := ⟨_, rfl⟩
        have hhd : s.data.toList.head? = some c := by
          rw [List.head?_eq_getElem?, HG.out 0 (by omega), hc]
        obtain ⟨c0, hc0⟩ : ∃ c0 : Nat, c0 = c.toNat := ⟨_, rfl⟩
        have hg' : (s[0]'hpos).toNat = c0 := by rw [hc, hc0]
        by_cases h2 : 1 < s.size ∧ c0 = 48
        · have HZ2 : Hid (z = -1) := by
            show z = -1
            have h7 : numF s.data.toList = none := by
              unfold numF
              rw [if_pos (.inr (.inr ⟨by rw [← HL.out]; exact h2.1, by rw [hhd]; exact congrArg some (UInt8.toNat_inj.1 (by rw [← hc0, h2.2]; rfl))⟩))]
            rw [← HZ.out, nmb_no h7]
          obtain rfl := HZ2.out
          have h2i : (1 : Int) < (s.size : Int) := by omega
          have h3i : ((c0 : Int) == 48) = true := by simp; omega
          clear hn hall h6 h0 hc hhd hc0 h2
          go_wp2
          go_ret
          exact ⟨rfl, rfl⟩
        · have HNF : Hid (numF s.data.toList = some n) := by
            show numF s.data.toList = some n
            unfold numF
            rw [if_neg, if_pos hall, hn]
            rintro (h | h | h)
            · exact h0 (by rw [HL.out]; exact h)
            · have := HL.out; omega
            · refine h2 ⟨by rw [HL.out]; exact h.1, ?_⟩
              rw [hhd] at h
              rw [hc0, Option.some.inj h.2]
              rfl
          have HZ2 : Hid (z = if (n : Int) ≤ (m : Int) then (n : Int) else -1) := by
            show z = _
            rw [← HZ.out]
            unfold nmbF
            rw [HNF.out]
          have hlead : ((c0 : Int) == 48) = false ∨ (((c0 : Int) == 48) = true ∧ ((1 : Int) < (s.size : Int)) = false) := by
            by_cases h : c0 = 48
            · exact .inr ⟨by simp [h], by simp; omega⟩
            · exact .inl (by simp; omega)
          clear hn hall h6 h0 hc hhd hc0 h2
          by_cases hnm : (n : Int) ≤ (m : Int)
          · rw [if_pos hnm] at HZ2
            obtain rfl := HZ2.out
            have hnm' : ¬ (m : Int) < (n : Int) := by omega
            clear hnm
            rcases hlead with hl | ⟨hl, hl'⟩
            all_goals
              go_wp2
              go_ret
              exact ⟨rfl, rfl⟩
          · rw [if_neg hnm] at HZ2
            obtain rfl := HZ2.out
            have hnm' : (m : Int) < (n : Int) := by omega
            clear hnm
            rcases hlead with hl | ⟨hl, hl'⟩
            all_goals
              go_wp2
              go_ret
              exact ⟨rfl, rfl⟩
end Go.Proofs.YtapiedeekbfpnaaGreatDoor

/- Meets, of the program and of the document. -/
namespace Go.Proofs.YtapiedeekbfpnaaGreatDoor
open Go.RowKit

/-- One path inside the other. -/
def inB (p d : ByteArray) : Bool := decide (d.size < p.size) && decide (p.data.toList.getD d.size 0 = 47) && decide ((p.extract 0 d.size).toList = d.toList)
def meetB (a b : ByteArray) : Bool := decide (a.toList = b.toList) || inB a b || inB b a
theorem meet_comm (a b : ByteArray) : meetB a b = meetB b a := by
  unfold meetB
  rw [Bool.or_assoc, Bool.or_assoc, Bool.or_comm (inB a b)]
  congr 1
  rw [Bool.eq_iff_iff]
  simp only [decide_eq_true_eq]
  exact eq_comm
theorem meet_self (a : ByteArray) : meetB a a = true := by unfold meetB; simp
theorem at_getD (p : ByteArray) (k : Nat) (h : k < p.size) : p[k] = p.data.toList.getD k 0 := by
  have h' : k < p.data.toList.length := by rw [Array.length_toList]; exact h
  rw [List.getD_eq_getElem?_getD, List.getElem?_eq_getElem h']
  rfl
theorem is47 (x : UInt8) : ((x.toNat : Int) == 47) = decide (x = 47) := by
  rw [Bool.eq_iff_iff]
  simp only [beq_iff_eq, decide_eq_true_eq]
  constructor
  · intro h
    exact UInt8.toNat_inj.1 (by show x.toNat = 47; omega)
  · intro h
    rw [h]
    rfl

set_option maxHeartbeats 2000000 in
set_option maxRecDepth 100000 in
theorem isInside_any (p d : ByteArray) (w : World) :
    Calls Tryz.prog 164 #[.string p, .string d] w fun e w' => e = .returned (.bool (inB p d)) ∧ w' = w := by
  by_cases h1 : d.size < p.size
  · have h2 : (d.size : Int) < (p.size : Int) := by omega
    have hq : (((p[d.size]).toNat : Int) == 47) = decide (p.data.toList.getD d.size 0 = 47) := by rw [is47, at_getD]
    have hle : d.size ≤ p.size := by omega
    by_cases h3 : p.data.toList.getD d.size 0 = 47
    · rw [decide_eq_true h3] at hq
      by_cases h4 : (p.extract 0 d.size).toList = d.toList
      · have h5 : ((p.extract 0 d.size).toList == d.toList) = true := beq_iff_eq.2 h4
        have e : inB p d = true := by unfold inB; simp only [h1, h3, h4, decide_true, Bool.and_self]
        rw [e]
        clear e h3 h4
        go_enter Tryz.func164, Tryz.ntmps164
        go_wp2
        go_ret
        exact ⟨rfl, rfl⟩
      · have h5 : ((p.extract 0 d.size).toList == d.toList) = false := beq_eq_false_iff_ne.2 h4
        have e : inB p d = false := by unfold inB; rw [decide_eq_false h4, Bool.and_false]
        rw [e]
        clear e h3 h4
        go_enter Tryz.func164, Tryz.ntmps164
        go_wp2
        go_ret
        exact ⟨rfl, rfl⟩
    · rw [decide_eq_false h3] at hq
      have e : inB p d = false := by unfold inB; rw [decide_eq_false h3, Bool.and_false, Bool.false_and]
      rw [e]
      clear e h3
      go_enter Tryz.func164, Tryz.ntmps164
      go_wp2
      go_ret
      exact ⟨rfl, rfl⟩
  · have h2 : ¬ (d.size : Int) < (p.size : Int) := by omega
    have e : inB p d = false := by unfold inB; simp [h1]
    rw [e]
    clear e h1
    go_enter Tryz.func164, Tryz.ntmps164
    go_wp2
    go_ret
    exact ⟨rfl, rfl⟩

set_option maxHeartbeats 2000000 in
set_option maxRecDepth 100000 in
theorem RIsInside_any (p d : ByteArray) (w : World) :
    Calls Tryz.prog 42 #[.string d, .string p] w fun e w' => e = .returned (.bool (inB p d)) ∧ w' = w := by
  by_cases h1 : d.size < p.size
  · have h2 : (d.size : Int) < (p.size : Int) := by omega
    have hq : (((p[d.size]).toNat : Int) == 47) = decide (p.data.toList.getD d.size 0 = 47) := by rw [is47, at_getD]
    have hle : d.size ≤ p.size := by omega
    by_cases h4 : (p.extract 0 d.size).toList = d.toList
    · have h5 : ((p.extract 0 d.size).toList == d.toList) = true := beq_iff_eq.2 h4
      by_cases h3 : p.data.toList.getD d.size 0 = 47
      · rw [decide_eq_true h3] at hq
        have e : inB p d = true := by unfold inB; simp only [h1, h3, h4, decide_true, Bool.and_self]
        rw [e]
        clear e h3 h4
        go_enter Tryz.func42, Tryz.ntmps42
        go_wp2
        go_ret
        exact ⟨rfl, rfl⟩
      · rw [decide_eq_false h3] at hq
        have e : inB p d = false := by unfold inB; rw [decide_eq_false h3, Bool.and_false, Bool.false_and]
        rw [e]
        clear e h3 h4
        go_enter Tryz.func42, Tryz.ntmps42
        go_wp2
        go_ret
        exact ⟨rfl, rfl⟩
    · have h5 : ((p.extract 0 d.size).toList == d.toList) = false := beq_eq_false_iff_ne.2 h4
      have e : inB p d = false := by unfold inB; rw [decide_eq_false h4, Bool.and_false]
      rw [e]
      clear e h4
      go_enter Tryz.func42, Tryz.ntmps42
      go_wp2
      go_ret
      exact ⟨rfl, rfl⟩
  · have h2 : ¬ (d.size : Int) < (p.size : Int) := by omega
    have e : inB p d = false := by unfold inB; simp [h1]
    rw [e]
    clear e h1
    go_enter Tryz.func42, Tryz.ntmps42
    go_wp2
    go_ret
    exact ⟨rfl, rfl⟩

set_option maxHeartbeats 2000000 in
set_option maxRecDepth 100000 in
theorem Meets_any (a b : ByteArray) (w : World) :
    Calls Tryz.prog 140 #[.string a, .string b] w fun e w' => e = .returned (.bool (meetB a b)) ∧ w' = w := by
  have HI : Hid (∀ (x y : ByteArray) (W : World), Calls Tryz.prog 164 #[.string x, .string y] W fun e w' => e = .returned (.bool (inB x y)) ∧ w' = W) := fun x y W => isInside_any x y W
  have em : meetB a b = (decide (a.toList = b.toList) || inB a b || inB b a) := by
    unfold meetB
    rfl
  rw [em]
  clear em
  have hq : (a.toList == b.toList) = decide (a.toList = b.toList) := by
    rw [Bool.eq_iff_iff]; simp
  generalize decide (a.toList = b.toList) = q at hq
  cases q with
  | true =>
    rw [Bool.true_or, Bool.true_or]
    go_enter Tryz.func140, Tryz.ntmps140
    go_wp2
    go_ret
    exact ⟨rfl, rfl⟩
  | false =>
    rw [Bool.false_or]
    cases h1 : inB a b with
    | true =>
      rw [Bool.true_or]
      have HA : Hid (∀ W : World, Calls Tryz.prog 164 #[.string a, .string b] W fun e w' => e = .returned (.bool true) ∧ w' = W) := fun W => h1 ▸ HI.out a b W
      clear HI h1
      go_enter Tryz.func140, Tryz.ntmps140
      go_wp2_with (first | (go_at_call 164; refine (HA.out _).mono ?_; rintro e w' ⟨rfl, hw⟩; subst w') | go_in)
      go_ret
      exact ⟨rfl, rfl⟩
    | false =>
      rw [Bool.false_or]
      have HA : Hid (∀ W : World, Calls Tryz.prog 164 #[.string a, .string b] W fun e w' => e = .returned (.bool false) ∧ w' = W) := fun W => h1 ▸ HI.out a b W
      have HB : Hid (∀ W : World, Calls Tryz.prog 164 #[.string b, .string a] W fun e w' => e = .returned (.bool (inB b a)) ∧ w' = W) := fun W => HI.out b a W
      clear HI h1
      generalize inB b a = r at HB
      go_enter Tryz.func140, Tryz.ntmps140
      go_wp2_with (first
        | (go_at_call 164; with_reducible refine (HA.out _).mono ?_; rintro e w' ⟨rfl, hw⟩; subst w')
        | (go_at_call 164; with_reducible refine (HB.out _).mono ?_; rintro e w' ⟨rfl, hw⟩; subst w')
        | go_in)
      go_ret
      exact ⟨rfl, rfl⟩
end Go.Proofs.YtapiedeekbfpnaaGreatDoor

/- Check: what is wrong with one file. -/
namespace Go.Proofs.YtapiedeekbfpnaaGreatDoor
open Go.RowKit

/-- A file: its path, its text, whether it runs. -/
structure Fl where
  pa : ByteArray
  tx : ByteArray
  rn : Bool
def encF (f : Fl) : Value := .agg #[.string f.pa, .string f.tx, .bool f.rn]
def flE (f : Fl) : Int := if pathOk f.pa = false then 1 else if 100000 < f.tx.size then 2 else 0

theorem tisTooLong_any (s : ByteArray) (w : World) :
    Calls Tryz.prog 50 #[.string s] w fun e w' => e = .returned (.bool (decide (100000 < s.size))) ∧ w' = w := by
  by_cases h : 100000 < s.size
  · have h2 : (100000 : Int) < (s.size : Int) := by omega
    rw [decide_eq_true h]
    clear h
    go_enter Tryz.func50, Tryz.ntmps50
    go_wp2
    go_ret
    exact ⟨rfl, rfl⟩
  · have h2 : ¬ (100000 : Int) < (s.size : Int) := by omega
    rw [decide_eq_false h]
    clear h
    go_enter Tryz.func50, Tryz.ntmps50
    go_wp2
    go_ret
    exact ⟨rfl, rfl⟩

def flW (w : World) (f : Fl) : World := w.alloc (.cells #[.string f.pa, .string f.tx, .bool f.rn] 35)
theorem flW_bel (w : World) (f : Fl) : Below w.heap.size w (flW w f) := (Below.refl _ w).alloc (Nat.le_refl _) _
set_option maxHeartbeats 2000000 in
set_option maxRecDepth 100000 in
theorem fileError_any (f : Fl) (w : World) (hm : MaxIs (flW w f)) :
    Calls Tryz.prog 27 #[encF f] w fun e w' => e = .returned (.int .i64 (flE f)) ∧ Below w.heap.size w w' := by
  obtain ⟨p, t, r⟩ := f
  have hx := heap_alloc_new w (.cells #[.string p, .string t, .bool r] 35)
  have hz : (flW w ⟨p, t, r⟩).heap.size = w.heap.size + 1 := World.size_alloc _ _
  have HB : Hid (Below w.heap.size w (flW w ⟨p, t, r⟩)) := flW_bel w _
  have HI : Hid (Calls Tryz.prog 49 #[.string p] (flW w ⟨p, t, r⟩) fun e w' => e = .returned (.bool (pathOk p)) ∧ w'.cell? ⟨w.heap.size, 1, none⟩ = some (.string t) ∧ Hid (Below w.heap.size w w')) := by
    refine (IsPath_any p _ hm).mono ?_
    rintro e w' ⟨rfl, hb⟩
    refine ⟨rfl, ?_, HB.out.trans (hb.mono (by omega))⟩
    rw [hb.cell (p := ⟨w.heap.size, 1, none⟩) (by show w.heap.size < _; omega)]
    exact Lib.cell_of_heap hx 1
  have HT : Hid (∀ W, Calls Tryz.prog 50 #[.string t] W fun e w' => e = .returned (.bool (decide (100000 < t.size))) ∧ w' = W) := fun W => tisTooLong_any t W
  unfold encF flE
  unfold flW at HI
  simp only
  clear hm hz hx HB
  cases hp : pathOk p with
  | false =>
    rw [hp] at HI
    rw [if_pos rfl]
    clear hp
    go_enter Tryz.func27, Tryz.ntmps27
    go_wp2_with (first
      | (go_at_call 49; refine HI.out.mono ?_; rintro e w1 ⟨rfl, c1, R1⟩)
      | (go_at_call 50; refine (HT.out _).mono ?_; rintro e w2 ⟨rfl, hw⟩; subst w2)
      | go_in)
    go_ret
    exact ⟨rfl, R1.out⟩
  | true =>
    rw [hp] at HI
    rw [if_neg (by decide)]
    clear hp
    by_cases h : 100000 < t.size
    · rw [if_pos h]
      rw [decide_eq_true h] at HT
      clear h
      go_enter Tryz.func27, Tryz.ntmps27
      go_wp2_with (first
        | (go_at_call 49; refine HI.out.mono ?_; rintro e w1 ⟨rfl, c1, R1⟩)
        | (go_at_call 50; refine (HT.out _).mono ?_; rintro e w2 ⟨rfl, hw⟩; subst w2)
        | go_in)
      go_ret
      exact ⟨rfl, R1.out⟩
    · rw [if_neg h]
      rw [decide_eq_false h] at HT
      clear h
      go_enter Tryz.func27, Tryz.ntmps27
      go_wp2_with (first
        | (go_at_call 49; refine HI.out.mono ?_; rintro e w1 ⟨rfl, c1, R1⟩)
        | (go_at_call 50; refine (HT.out _).mono ?_; rintro e w2 ⟨rfl, hw⟩; subst w2)
        | go_in)
      go_ret
      exact ⟨rfl, R1.out⟩
end Go.Proofs.YtapiedeekbfpnaaGreatDoor

/- Paths compared: cmp.Compare at texts; comparePaths. -/
namespace Go.Proofs.YtapiedeekbfpnaaGreatDoor
open Go.RowKit

def cmpB (x y : ByteArray) : Int := if Op.bytesLess x.toList y.toList = true then -1 else if x.toList = y.toList then 0 else 1

theorem isNaN_s (x : ByteArray) (w : World) :
    Calls Tryz.prog 92 #[.string x] w fun e w' => e = .returned (.bool false) ∧ w' = w := by
  go_enter Tryz.func92, Tryz.ntmps92
  go_wp2
  go_ret
  exact ⟨by simp, rfl⟩
set_option maxHeartbeats 2000000 in
set_option maxRecDepth 100000 in
theorem Compare_s (x y : ByteArray) (w : World) :
    Calls Tryz.prog 40 #[.string x, .string y] w fun e w' => e = .returned (.int .i64 (cmpB x y)) ∧ w' = w := by
  have HN : Hid (∀ (z : ByteArray) (W : World), Calls Tryz.prog 92 #[.string z] W fun e w' => e = .returned (.bool false) ∧ w' = W) := isNaN_s
  unfold cmpB
  by_cases h1 : Op.bytesLess x.toList y.toList = true
  · rw [if_pos h1]
    go_enter Tryz.func40, Tryz.ntmps40
    go_wp2_with (first | (go_at_call 92; refine (HN.out _ _).mono ?_; rintro e w1 ⟨rfl, hw⟩; subst w1) | go_in)
    go_ret
    exact ⟨rfl, rfl⟩
  · rw [if_neg h1]
    have h1' : Op.bytesLess x.toList y.toList = false := by simpa using h1
    clear h1
    by_cases h2 : x.toList = y.toList
    · rw [if_pos h2]
      have h2' : (x.toList == y.toList) = true := beq_iff_eq.2 h2
      clear h2
      go_enter Tryz.func40, Tryz.ntmps40
      go_wp2_with (first | (go_at_call 92; refine (HN.out _ _).mono ?_; rintro e w1 ⟨rfl, hw⟩; subst w1) | go_in)
      go_ret
      exact ⟨rfl, rfl⟩
    · rw [if_neg h2]
      have h2' : (x.toList == y.toList) = false := beq_eq_false_iff_ne.2 h2
      clear h2
      go_enter Tryz.func40, Tryz.ntmps40
      go_wp2_with (first | (go_at_call 92; refine (HN.out _ _).mono ?_; rintro e w1 ⟨rfl, hw⟩; subst w1) | go_in)
      go_ret
      exact ⟨rfl, rfl⟩

set_option maxHeartbeats 2000000 in
set_option maxRecDepth 100000 in
theorem comparePaths_any (f g : Fl) (w : World) :
    Calls Tryz.prog 30 #[encF f, encF g] w fun e w' => e = .returned (.int .i64 (cmpB f.pa g.pa)) ∧ Below w.heap.size w w' := by
  obtain ⟨p, t, r⟩ := f
  obtain ⟨p2, t2, r2⟩ := g
  have HC : Hid (∀ W, Calls Tryz.prog 40 #[.string p, .string p2] W fun e w' => e = .returned (.int .i64 (cmpB p p2)) ∧ w' = W) := Compare_s p p2
  have HB : Hid (∀ o1 o2 : Obj, Below w.heap.size w ((w.alloc o1).alloc o2)) := fun o1 o2 => by
    have h1 : Below w.heap.size w (w.alloc o1) := (Below.refl _ w).alloc (Nat.le_refl _) _
    exact h1.alloc (by rw [World.size_alloc]; omega) _
  unfold encF
  simp only
  generalize cmpB p p2 = r9 at *
  go_enter Tryz.func30, Tryz.ntmps30
  go_wp2_with (first | (go_at_call 40; refine (HC.out _).mono ?_; rintro e w1 ⟨rfl, hw⟩; subst w1) | go_in)
  go_ret
  exact ⟨rfl, HB.out _ _⟩
end Go.Proofs.YtapiedeekbfpnaaGreatDoor
