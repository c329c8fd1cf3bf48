/- What waits, by the document's ring. -/
import Derived.Test.YtfddhdpnoliamaaQuRi
namespace Go.Proofs.Ytfddhdpnoliamaa
open Go.RowKit Go.Shelf
attribute [local go_sem ↓] appS_eq

theorem infS : (Try.prog.info? 9).map (fun i => (i.zero, i.size, i.bytes)) = some (some (.string ⟨#[]⟩), 1, 16) := by kernel_rfl
def ss (l : List ByteArray) : List Value := l.map fun s => Value.string s
/-- The names of a tenant's jobs. -/
def nmsOf (l : List Jb) (tn : Int) : List ByteArray := (l.filter fun j => decide ((j.ten : Int) = tn)).map Jb.name

theorem nmsOf_app (a : List Jb) (x : Jb) (tn : Int) : nmsOf (a ++ [x]) tn = nmsOf a tn ++ (if (x.ten : Int) = tn then [x.name] else []) := by
  unfold nmsOf
  rw [List.filter_append, List.map_append]
  by_cases h : (x.ten : Int) = tn
  · rw [if_pos h]; simp [h]
  · rw [if_neg h]; simp [h]

set_option maxHeartbeats 4000000 in
set_option maxRecDepth 100000 in
theorem rWaiting_any (P : Nat) (tn : Int) (v : Value) (l : List Jb) (w : World) (hv : w.cell? ⟨P, 4, none⟩ = some v) (hl : RowJ w v l) (hn : l.length ≤ 100000) :
    Calls Try.prog 18 #[.pointer (some ⟨P, 0, none⟩), .int .i64 tn] w fun e w' => ∃ v', e = .returned v' ∧ w'.ownsRow w.heap.size 9 1 v' (nmsOf l tn).length (ss (nmsOf l tn)) ∧ Below w.heap.size w w' := by
  obtain ⟨ao, c, rfl, hc⟩ := hl
  have HC : Hid (0 < l.length → ∃ g, ao = some ⟨g, 0, none⟩ ∧ ∀ j, j < l.length * 3 → w.cell? ⟨g, j, none⟩ = (jcs l)[j]?) := hc
  have hPl := World.block_lt_of_cell? w _ hv
  have HV : Hid (w.cell? ⟨P, 4, none⟩ = some (.slice ao l.length c)) := hv
  clear hc hv
  obtain ⟨i0, hi, hz0, hz1, hz2⟩ := info_p infS
  go_enter Try.func18, Try.ntmps18
  go_wp2
  go_loopw [5, 6] (fun u v wr => ∃ k : Nat, k ≤ l.length ∧ v = .int .i64 (k : Int) ∧ Hid (wr.ownsRow w.heap.size 9 1 u (nmsOf (l.take k) tn).length (ss (nmsOf (l.take k) tn)) ∧ Below w.heap.size w wr)) (fun _ v _ => l.length - (intOf v).toNat)
  case atStart => exact ⟨0, Nat.zero_le _, rfl, ⟨rfl, .inl ⟨rfl, rfl⟩⟩, Below.refl _ _⟩
  case round =>
    obtain ⟨k, hk, rfl, HI⟩ := hrel
    obtain ⟨ao5, c5, rfl⟩ := row_shape HI.out.1
    have hv : wr.cell? ⟨P, 4, none⟩ = some (.slice ao l.length c) := (HI.out.2.cell (p := ⟨P, 4, none⟩) hPl).trans HV.out
    by_cases hlt : k < l.length
    · have hki : (k : Int) < (l.length : Int) := by omega
      obtain ⟨g, rfl, hcell⟩ := HC.out (by omega)
      have d0 : w.cell? ⟨g, k * 3, none⟩ = some (.int .i64 (l[k].ten : Int)) := (hcell (k * 3) (by omega)).trans (jcs_at l k hlt 0 (by omega))
      have d1 : w.cell? ⟨g, k * 3 + 1, none⟩ = some (.string l[k].name) := (hcell (k * 3 + 1) (by omega)).trans (jcs_at l k hlt 1 (by omega))
      have hgl := World.block_lt_of_cell? w _ d0
      have c0 := (HI.out.2.cell (p := ⟨g, k * 3, none⟩) hgl).trans d0
      have c1 := (HI.out.2.cell (p := ⟨g, k * 3 + 1, none⟩) hgl).trans d1
      obtain ⟨k1, hk1⟩ : ∃ k1, k1 = k + 1 := ⟨_, rfl⟩
      have hk2 : (k : Int) + 1 = (k1 : Int) := by omega
      have hw2 : IntKind.i64.wrap (k1 : Int) = (k1 : Int) := by rw [IntKind.wrap_i64]; omega
      have HK : Hid (k1 = k + 1) := hk1
      have htk : l.take k1 = l.take k ++ [l[k]] := by rw [hk1]; exact List.take_succ_eq_append_getElem hlt
      by_cases hb : (l[k].ten : Int) = tn
      · have hnm : nmsOf (l.take k1) tn = nmsOf (l.take k) tn ++ [l[k].name] := by rw [htk, nmsOf_app, if_pos hb]
        have hle : (nmsOf (l.take k) tn).length ≤ 100000 := by
          have h1 : (nmsOf (l.take k) tn).length ≤ (l.take k).length := by unfold nmsOf; rw [List.length_map]; exact List.length_filter_le _ _
          rw [List.length_take] at h1
          omega
        have hzA : (wr.alloc (.cells #[.string l[k].name] 9)).heap.size = wr.heap.size + 1 := World.size_alloc _ _
        have hbs := HI.out.2.size
        obtain ⟨v1, w1, hrun, hown1, hgrow, _⟩ := run_append_own (P := Try.prog) (wr.alloc (.cells #[.string l[k].name] 9)) w.heap.size 43 43 9 i0 (.string ⟨#[]⟩) 1 16 Try.underlying43 hi hz0 hz1 hz2 rfl (by decide) (.slice ao5 (nmsOf (l.take k) tn).length c5) (nmsOf (l.take k) tn).length (ss (nmsOf (l.take k) tn)) (HI.out.1.alloc _) ⟨wr.heap.size, 0, none⟩ 1 1 [.string l[k].name] rfl (fun j u hu => by
            have hj : j = 0 := by
              have := (List.getElem?_eq_some_iff.1 hu).1
              simp at this
              exact this
            subst hj
            rw [add0]
            exact al_at wr _ _ _ 0 u rfl hu) (fun u hu => by simp at hu; subst hu; rfl) (by unfold maxLen; omega) (by omega) (by show w.heap.size ≤ (wr.alloc _).heap.size; omega)
        have hap : (appS #[43, 43] 43 #[.slice ao5 (nmsOf (l.take k) tn).length c5, .slice (some ⟨wr.heap.size, 0, none⟩) 1 1]).run Try.prog (wr.alloc (.cells #[.string l[k].name] 9)) = .ok v1 w1 := hrun
        have HE : Hid (w1.ownsRow w.heap.size 9 1 v1 (nmsOf (l.take k1) tn).length (ss (nmsOf (l.take k1) tn)) ∧ Below w.heap.size w w1) := by
          refine ⟨?_, (HI.out.2.alloc hbs _).grown (w' := w1) ⟨hgrow.os, hgrow.tape, hgrow.output, hgrow.size, hgrow.block⟩ (by show w.heap.size ≤ (wr.alloc _).heap.size; omega) (fun g hg => (HI.out.1.lt g hg).1)⟩
          rw [hnm, List.length_append]
          have : ss (nmsOf (l.take k) tn ++ [l[k].name]) = ss (nmsOf (l.take k) tn) ++ [.string l[k].name] := by simp [ss]
          rw [this]
          exact hown1
        clear hrun hown1 hgrow hnm htk HI hcell d0 d1 hk1 hi hz0 hz1 hz2 hle hbs hzA
        generalize (l[k].ten : Int) = x0 at *
        generalize l[k].name = x1 at *
        subst hb
        go_wp2
        refine ⟨⟨k1, by rw [HK.out]; exact hlt, rfl, HE⟩, ?_⟩
        have := HK.out
        simp [intOf]; omega
      · have hnm : nmsOf (l.take k1) tn = nmsOf (l.take k) tn := by rw [htk, nmsOf_app, if_neg hb, List.append_nil]
        have HE : Hid (wr.ownsRow w.heap.size 9 1 (.slice ao5 (nmsOf (l.take k) tn).length c5) (nmsOf (l.take k1) tn).length (ss (nmsOf (l.take k1) tn)) ∧ Below w.heap.size w wr) := by rw [hnm]; exact HI.out
        clear hnm htk HI hcell d0 d1 hk1
        generalize (l[k].ten : Int) = x0 at *
        go_wp2
        refine ⟨⟨k1, by rw [HK.out]; exact hlt, rfl, HE⟩, ?_⟩
        have := HK.out
        simp [intOf]; omega
    · have hki : ¬ (k : Int) < (l.length : Int) := by omega
      have hkl : l.take k = l := List.take_of_length_le (by omega)
      have HE : Hid (∀ v, v = .slice ao5 (nmsOf (l.take k) tn).length c5 → wr.ownsRow w.heap.size 9 1 v (nmsOf l tn).length (ss (nmsOf l tn)) ∧ Below w.heap.size w wr) := by
        intro v hv
        have h0 := HI.out
        have e : nmsOf (l.take k) tn = nmsOf l tn := by rw [hkl]
        rw [← hv, e] at h0
        exact h0
      clear HI hkl
      go_wp2
      go_ret
      exact ⟨_, rfl, HE.out _ rfl⟩
end Go.Proofs.Ytfddhdpnoliamaa
