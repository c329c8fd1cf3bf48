/- The document's RightLine: what it leans on. -/
import Derived.Test.YtcpomkgfcpfedaaGreatDoorSbI
namespace Go.Proofs.YtcpomkgfcpfedaaGreatDoor
open Go.RowKit Go.Shelf

/-- Words in memory, and the variable that holds them. -/
structure RW (W : World) (Y g n cap : Nat) (ws : List (List UInt8)) : Prop where
  y : W.cell? ⟨Y, 0, none⟩ = some (.slice (some ⟨g, 0, none⟩) n cap)
  cells : ∀ j x, ws[j]? = some x → W.cell? ⟨g, j, none⟩ = some (.string (bA x)) ∧ j < n ∧ (bA x).size ≤ 1000000
  yl : Y < W.heap.size
  gl : g < W.heap.size
theorem RW.below {W W' : World} {Y g n cap : Nat} {ws : List (List UInt8)} (h : RW W Y g n cap ws) (hb : Below W.heap.size W W') : RW W' Y g n cap ws :=
  ⟨(hb.cell (p := ⟨Y, 0, none⟩) h.yl).trans h.y, fun j x hx => ⟨(hb.cell (p := ⟨g, j, none⟩) h.gl).trans (h.cells j x hx).1, (h.cells j x hx).2⟩, Nat.lt_of_lt_of_le h.yl hb.size, Nat.lt_of_lt_of_le h.gl hb.size⟩

set_option maxHeartbeats 1000000 in
set_option maxRecDepth 100000 in
theorem r_any {W : World} {Y g n cap : Nat} {ws : List (List UInt8)} (h : RW W Y g n cap ws) (i : Nat) {x : List UInt8} (hx : ws[i]? = some x) :
    Calls Tryz.prog 16 #[.int .i64 (i : Int), .pointer (some ⟨Y, 0, none⟩)] W fun e w' => e = .returned (.bool (regF x).isSome) ∧ w' = W := by
  have c1 := h.y
  obtain ⟨c2, hin, hsz⟩ := h.cells i x hx
  have HR : Hid (Calls Tryz.prog 17 #[.string (bA x)] W fun e w' => e = .returned (.bool (regF x).isSome) ∧ w' = W) := by
    have := IsRegister_any (bA x) W hsz
    rwa [show (bA x).data.toList = x by unfold bA; simp] at this
  have hini : (i : Int) < (n : Int) := by omega
  clear h hx hsz hin
  generalize (regF x).isSome = bb at *
  generalize bA x = xx at *
  go_enter Tryz.func16, Tryz.ntmps16
  go_wp2_with (first | (go_at_call 17; refine HR.out.mono ?_; rintro e w1 ⟨rfl, hw⟩; subst w1) | go_in)
  go_ret
  exact ⟨rfl, rfl⟩

/-- The words come. -/
theorem words_front (s : ByteArray) (w : World) (hs : s.size ≤ 100000) {n : Nat} {ws : List (List UInt8)} (hws : wdL [] s.data.toList = ws) (hn : ws.length = n) :
    Calls Tryz.prog 15 #[.string s] w fun e w1 => ∃ g cap, e = .returned (.slice (some ⟨g, 0, none⟩) n cap) ∧ Hid (Below w.heap.size w w1) ∧ RW (w1.alloc (.cells #[.slice (some ⟨g, 0, none⟩) n cap] 22)) w1.heap.size g n cap ws := by
  refine (WordsOf_any s w hs).mono ?_
  rintro e w1 ⟨v, rfl, ho, hb⟩
  rw [hws] at ho
  have hpos : 0 < ws.length := List.length_pos_iff.2 (by rw [← hws]; exact wdL_ne _ _)
  have ho2 : w1.ownsRow w.heap.size 9 1 v (ws.map bA).length ((ws.map bA).map Value.string) := by
    rw [List.length_map, List.map_map]
    exact ho
  obtain ⟨g, cap, rfl, hc⟩ := own_cells ho2 (by rw [List.length_map]; exact hpos)
  have hml : (ws.map bA).length = n := by rw [List.length_map, hn]
  rw [hml]
  have hg : g < w1.heap.size := World.block_lt_of_cell? w1 ⟨g, 0, none⟩ (hc 0 (by omega))
  have hal : Below w1.heap.size w1 (w1.alloc (.cells #[.slice (some ⟨g, 0, none⟩) n cap] 22)) := (Below.refl _ _).alloc (Nat.le_refl _) _
  refine ⟨g, cap, rfl, hb, ?_, fun j x hx => ?_, by rw [World.size_alloc]; omega, by rw [World.size_alloc]; omega⟩
  · rw [Lib.cell_of_heap (heap_alloc_new w1 _)]
    rfl
  · have hj : j < ws.length := (List.getElem?_eq_some_iff.1 hx).1
    have h1 := hc j (by omega)
    refine ⟨(hal.cell (p := ⟨g, j, none⟩) hg).trans (h1.trans ?_), by omega, ?_⟩
    · rw [List.getElem_map]
      rw [List.getElem?_eq_getElem hj] at hx
      rw [Option.some.inj hx]
    · have h2 : x ∈ wdL [] s.data.toList := by rw [hws]; exact List.mem_of_getElem? hx
      have h3 := wdL_mem _ _ x h2
      rw [show (bA x).size = x.length from size_of rfl]
      have hsl : s.size = s.data.toList.length := size_of rfl
      have h4 : ([] : List UInt8).length = 0 := rfl
      omega
theorem wd_size {s : ByteArray} (hs : s.size ≤ 100000) {ws : List (List UInt8)} (hws : wdL [] s.data.toList = ws) {x : List UInt8} (hx : x ∈ ws) : (bA x).size ≤ 1000000 := by
  have h3 := wdL_mem s.data.toList [] x (by rw [hws]; exact hx)
  have hsl : s.size = s.data.toList.length := size_of rfl
  have h4 : ([] : List UInt8).length = 0 := rfl
  rw [show (bA x).size = x.length from size_of rfl]
  omega
theorem nmb_neg {s : List UInt8} {m : Int} (h : ¬ 0 ≤ nmbF s m) : nmbF s m = -1 := by
  unfold nmbF at h ⊢
  split
  · rename_i v hv
    rw [hv] at h
    simp only at h
    split
    · rename_i h2
      rw [if_pos h2] at h
      omega
    · rfl
  · rfl
theorem okP_num (lines k : Nat) (x : List UInt8) (m : Nat) (h : (k = 2 ∧ m = 999999) ∨ (k = 3 ∧ m = 999999) ∨ (k = 4 ∧ m = lines) ∨ (k = 5 ∧ m = 99)) : okP lines k x = decide (0 ≤ nmbF (bA x).data.toList (m : Int)) := by
  rw [show (bA x).data.toList = x by unfold bA; simp]
  unfold okP nmbF
  cases hn : numF x with
  | none => rcases h with ⟨rfl, rfl⟩ | ⟨rfl, rfl⟩ | ⟨rfl, rfl⟩ | ⟨rfl, rfl⟩ <;> simp
  | some v =>
    have hle := numF_le hn
    rcases h with ⟨rfl, rfl⟩ | ⟨rfl, rfl⟩ | ⟨rfl, rfl⟩ | ⟨rfl, rfl⟩
    · simp; split <;> omega
    · simp; split <;> omega
    · simp; split <;> simp <;> omega
    · simp; split <;> simp <;> omega
theorem rig_of {lines : Nat} {s : List UInt8} {ws : List (List UInt8)} {x : List UInt8} {f : List Nat} {rest : List (List UInt8)} (hws : wdL [] s = ws) (h : ws = x :: rest) (hf : frmF x = some f) (h6 : f ≠ [0, 6]) : rigF lines s = (decide (ws.length = f.length + 1) && allP lines f rest) := by
  obtain ⟨r, hr⟩ := wdL_cut s
  rw [hws, h] at hr
  injection hr with h1 h2
  unfold rigF
  rw [← h1, hf]
  simp only
  rw [if_neg h6, hws, h]
  rfl
theorem rig_set {lines : Nat} {s : List UInt8} {ws : List (List UInt8)} {x : List UInt8} {rest : List (List UInt8)} (hws : wdL [] s = ws) (h : ws = x :: rest) (hf : frmF x = some [0, 6]) : rigF lines s = (decide (3 ≤ ws.length) && allP lines [0] rest) := by
  obtain ⟨r, hr⟩ := wdL_cut s
  rw [hws, h] at hr
  injection hr with h1 h2
  unfold rigF
  rw [← h1, hf]
  simp only
  rw [if_pos trivial, hws, h]
  rfl
theorem rig_no {lines : Nat} {s : List UInt8} {ws : List (List UInt8)} {x : List UInt8} {rest : List (List UInt8)} (hws : wdL [] s = ws) (h : ws = x :: rest) (hf : frmF x = none) : rigF lines s = false := by
  obtain ⟨r, hr⟩ := wdL_cut s
  rw [hws, h] at hr
  injection hr with h1 h2
  unfold rigF
  rw [← h1, hf]
end Go.Proofs.YtcpomkgfcpfedaaGreatDoor
