/- A queue's job is looked for by its name. -/
import Derived.Test.YtfddhdpnoliamaaQuF
namespace Go.Proofs.Ytfddhdpnoliamaa
open Go.RowKit Go.Shelf

def eqN (a b : ByteArray) : Bool := a.toList == b.toList
theorem eqN_iff (a b : ByteArray) : eqN a b = true ↔ a = b := by
  unfold eqN
  rw [Lib.toList_data, Lib.toList_data, beq_iff_eq]
  constructor
  · intro h
    cases a; cases b
    simp at h
    rw [h]
  · intro h; rw [h]
theorem eqN_no (a b : ByteArray) : eqN a b = false ↔ a ≠ b := by
  rw [Ne, ← eqN_iff]
  cases eqN a b <;> simp

def jagg (j : Jb) : Value := .agg #[.int .i64 j.ten, .string j.name, .int .i64 j.cost]

set_option maxHeartbeats 1000000 in
/-- The closure that asks for a job by its name. -/
theorem isNm_any (x : Int) (s : ByteArray) (y : Int) (nm : ByteArray) (b : Nat) (w : World) (hb : w.cell? ⟨b, 0, none⟩ = some (.string nm)) :
    Calls Try.prog 38 #[.agg #[.int .i64 x, .string s, .int .i64 y], .pointer (some ⟨b, 0, none⟩)] w fun e w' => e = .returned (.bool (eqN s nm)) ∧ Below w.heap.size w w' := by
  have hbl := World.block_lt_of_cell? w _ hb
  have hb1 : (w.alloc (.cells #[.int .i64 x, .string s, .int .i64 y] 34)).cell? ⟨b, 0, none⟩ = some (.string nm) := (World.cell?_alloc_past _ _ _ hbl).trans hb
  have hne : ¬ b = w.heap.size := by have : b < w.heap.size := hbl; omega
  have he : (s.toList == nm.toList) = eqN s nm := rfl
  generalize eqN s nm = r at *
  have HB : Hid (Below w.heap.size w (w.alloc (.cells #[.int .i64 x, .string s, .int .i64 y] 34))) := (Below.refl _ w).alloc (Nat.le_refl _) _
  clear hbl
  go_enter Try.func38, Try.ntmps38
  go_wp2
  go_ret
  exact ⟨rfl, HB.out⟩

/-- A job by this name is there, at i; or there is none. -/
def Hit (l : List Jb) (nm : ByteArray) (e : Ending) : Prop :=
  (∃ (i : Nat) (hi : i < l.length), e = .returned (.int .i64 (i : Int)) ∧ eqN (l[i]).name nm = true) ∨ (e = .returned (.int .i64 (-1)) ∧ ∀ j ∈ l, eqN j.name nm = false)

set_option maxHeartbeats 2000000 in
set_option maxRecDepth 100000 in
theorem idxJ_any (B : Nat) (jv : Value) (l : List Jb) (w : World) (h : w.ownsRow B 34 3 jv l.length (jcs l)) (hn : l.length ≤ 1000000) (nm : ByteArray) (b : Nat) (hb : w.cell? ⟨b, 0, none⟩ = some (.string nm)) :
    Calls Try.prog 37 #[jv, .func (.func 38) #[] #[.pointer (some ⟨b, 0, none⟩)]] w fun e w' => Hit l nm e ∧ Below w.heap.size w w' := by
  obtain ⟨ao, cap, rfl⟩ := row_shape h
  have H : Hid (w.ownsRow B 34 3 (.slice ao l.length cap) l.length (jcs l)) := h
  have hbl := World.block_lt_of_cell? w _ hb
  have HC : Hid (∀ (W : World) (x : Int) (s : ByteArray) (y : Int), Below w.heap.size w W → Calls Try.prog 38 #[.agg #[.int .i64 x, .string s, .int .i64 y], .pointer (some ⟨b, 0, none⟩)] W fun e w' => e = .returned (.bool (eqN s nm)) ∧ Below w.heap.size w w') := fun W x s y hW => by
    refine (isNm_any x s y nm b W ((hW.cell hbl).trans hb)).mono ?_
    rintro e w' ⟨he, hbw⟩
    exact ⟨he, hW.trans (hbw.mono hW.size)⟩
  clear h hb hbl
  go_enter Try.func37, Try.ntmps37
  go_wp2
  go_loopw [8] (fun v wr => ∃ k : Nat, k ≤ l.length ∧ v = .int .i64 (k : Int) ∧ Hid (∀ j (hj : j < l.length), j < k → eqN (l[j]).name nm = false) ∧ Hid (Below w.heap.size w wr)) (fun v _ => l.length - (intOf v).toNat)
  case atStart => exact ⟨0, Nat.zero_le _, rfl, fun j _ hj => by omega, Below.refl _ _⟩
  case round =>
    obtain ⟨k, hk, rfl, HI, HB⟩ := hrel
    by_cases hkl : k < l.length
    · obtain ⟨g, cap', hv, hg1, hg2⟩ := H.out.form (by omega)
      cases hv
      have hki : (k : Int) < (l.length : Int) := by omega
      have hc : ∀ j, j < 3 → wr.cell? ⟨g, k * 3 + j, none⟩ = (jc l[k])[j]? := fun j hj => (HB.out.cell (p := ⟨g, k * 3 + j, none⟩) hg2).trans ((H.out.cellAt (k * 3 + j) (by omega)).trans (jcs_at l k hkl j hj))
      have c0 : wr.cell? ⟨g, k * 3, none⟩ = some (.int .i64 ((l[k]).ten : Int)) := hc 0 (by omega)
      have c1 : wr.cell? ⟨g, k * 3 + 1, none⟩ = some (.string (l[k]).name) := hc 1 (by omega)
      have c2 : wr.cell? ⟨g, k * 3 + 2, none⟩ = some (.int .i64 ((l[k]).cost : Int)) := hc 2 (by omega)
      have HCk : Hid (Calls Try.prog 38 #[.agg #[.int .i64 ((l[k]).ten : Int), .string (l[k]).name, .int .i64 ((l[k]).cost : Int)], .pointer (some ⟨b, 0, none⟩)] wr fun e w' => e = .returned (.bool (eqN (l[k]).name nm)) ∧ Below w.heap.size w w') := HC.out wr _ _ _ HB.out
      obtain ⟨k1, hk1⟩ : ∃ k1, k1 = k + 1 := ⟨_, rfl⟩
      have hk2 : (k : Int) + 1 = (k1 : Int) := by omega
      have hw2 : IntKind.i64.wrap (k1 : Int) = (k1 : Int) := by rw [IntKind.wrap_i64]; omega
      have HK : Hid (k1 = k + 1) := hk1
      cases hh : eqN (l[k]).name nm with
      | true =>
        have HP : Hid (∃ (i : Nat) (hi : i < l.length), (Ending.returned (.int .i64 (k : Int))) = .returned (.int .i64 (i : Int)) ∧ eqN (l[i]).name nm = true) := ⟨k, hkl, rfl, hh⟩
        rw [hh] at HCk
        clear hh hk1 hc
        generalize (l[k]).name = s at *
        generalize ((l[k]).ten : Int) = x at *
        generalize ((l[k]).cost : Int) = y at *
        go_wp2_with (go_at_call 38; refine HCk.out.mono ?_; rintro e w' ⟨rfl, hbw⟩)
        go_ret
        exact ⟨.inl HP.out, hbw⟩
      | false =>
        have HN : Hid (∀ j (hj : j < l.length), j < k1 → eqN (l[j]).name nm = false) := fun j hj hjk => by
          by_cases h1 : j < k
          · exact HI.out j hj h1
          · have h2 : j = k := by omega
            subst h2; exact hh
        rw [hh] at HCk
        clear hh hk1 hc
        generalize (l[k]).name = s at *
        generalize ((l[k]).ten : Int) = x at *
        generalize ((l[k]).cost : Int) = y at *
        go_wp2_with (go_at_call 38; refine HCk.out.mono ?_; rintro e w' ⟨rfl, hbw⟩)
        refine ⟨⟨k1, by rw [HK.out]; exact hkl, rfl, HN.out, hbw⟩, ?_⟩
        have := HK.out
        simp [intOf]; omega
    · have hki : ¬ (k : Int) < (l.length : Int) := by omega
      have HP : Hid (∀ j ∈ l, eqN j.name nm = false) := fun j hj => by
        obtain ⟨i, hi, rfl⟩ := List.getElem_of_mem hj
        exact HI.out i hi (by omega)
      go_wp2
      go_ret
      exact ⟨.inr ⟨rfl, HP.out⟩, HB.out⟩

/-- A job by this name waits, the i-th one of the k-th tenant; or none does. -/
def Found (l : List Tn) (nm : ByteArray) (e : Ending) : Prop :=
  (∃ (k : Nat) (hk : k < l.length) (i : Nat) (hi : i < (l[k]).jobs.length), e = .returned (.tuple #[.int .i64 (k : Int), .int .i64 (i : Int)]) ∧ ((l[k]).jobs[i]).name = nm) ∨ (e = .returned (.tuple #[.int .i64 (-1), .int .i64 (-1)]) ∧ ∀ t ∈ l, ∀ j ∈ t.jobs, j.name ≠ nm)

set_option maxHeartbeats 4000000 in
set_option maxRecDepth 100000 in
theorem find_any {B P : Nat} {rv : Value} {cs : List Ce} {w : World} {q : Qu} (h : QS B P rv cs w q) (hn : cs.length ≤ 1000000) (hj : ∀ t ∈ q.ring, t.jobs.length ≤ 1000000) (nm : ByteArray) :
    Calls Try.prog 24 #[.pointer (some ⟨P, 0, none⟩), .string nm] w fun e w' => Found q.ring nm e ∧ Below w.heap.size w w' := by
  have hb0 : Below w.heap.size w (w.alloc (.cells #[.string nm] 9)) := (Below.refl _ w).alloc (Nat.le_refl _) _
  have h1 : QS B P rv cs (w.alloc (.cells #[.string nm] 9)) q := h.up hb0
  have l0 := heap_alloc_new w (.cells #[.string nm] 9)
  have k0 : (w.alloc (.cells #[.string nm] 9)).cell? ⟨w.heap.size, 0, none⟩ = some (.string nm) := by rw [Lib.cell_of_heap l0]; rfl
  have hz0 : w.heap.size < (w.alloc (.cells #[.string nm] 9)).heap.size := by rw [World.size_alloc]; omega
  obtain ⟨ao, cap, rfl⟩ := row_shape h.row
  have HQ : Hid (QS B P (.slice ao cs.length cap) cs w q) := h
  have HB0 : Hid (Below w.heap.size w (w.alloc (.cells #[.string nm] 9)) ∧ QS B P (.slice ao cs.length cap) cs (w.alloc (.cells #[.string nm] 9)) q ∧ (w.alloc (.cells #[.string nm] 9)).cell? ⟨w.heap.size, 0, none⟩ = some (.string nm) ∧ w.heap.size < (w.alloc (.cells #[.string nm] 9)).heap.size) := ⟨hb0, h1, k0, hz0⟩
  have HLn : Hid (cs.length = q.ring.length) := ring_len h
  have HA : Hid (∀ (k : Nat) (hk : k < cs.length), q.ring[k]? = some (cs[k]).t) := fun k hk => ring_at h k hk
  have HJ : Hid (∀ t ∈ q.ring, t.jobs.length ≤ 1000000) := hj
  have c1 := h1.c1
  generalize hP : w.heap.size = b at *
  clear h h1 hb0 l0 k0 hj hz0
  go_enter Try.func24, Try.ntmps24
  go_wp2
  clear hP
  generalize w.alloc (.cells #[.string nm] 9) = w1 at *
  go_loopw [14] (fun v wr => ∃ k : Nat, k ≤ cs.length ∧ v = .int .i64 (k : Int) ∧ Hid (∀ j (hj : j < q.ring.length), j < k → ∀ x ∈ (q.ring[j]).jobs, x.name ≠ nm) ∧ Hid (Below w1.heap.size w1 wr)) (fun v _ => cs.length - (intOf v).toNat)
  case atStart => exact ⟨0, Nat.zero_le _, rfl, fun j _ hj => by omega, Below.refl _ _⟩
  case round =>
    obtain ⟨k, hk, rfl, HI, HB⟩ := hrel
    by_cases hkl : k < cs.length
    · have hQ := HB0.out.2.1.up HB.out
      obtain ⟨g, cap', hv, hg1, hg2⟩ := hQ.row.form (by omega)
      cases hv
      have hki : (k : Int) < (cs.length : Int) := by omega
      have c3 : wr.cell? ⟨g, k, none⟩ = some (pc cs[k]) := (hQ.row.cellAt k (by omega)).trans (by rw [List.getElem?_map, List.getElem?_eq_getElem hkl]; rfl)
      have ht := hQ.tens cs[k] (List.getElem_mem hkl)
      have t2 := ht.c2
      have hrk : k < q.ring.length := by have := HLn.out; omega
      have heq : q.ring[k] = (cs[k]).t := Option.some.inj ((List.getElem?_eq_getElem hrk).symm.trans (HA.out k hkl))
      have HCk : Hid (Calls Try.prog 37 #[(cs[k]).jv, .func (.func 38) #[] #[.pointer (some ⟨b, 0, none⟩)]] wr fun e w' => Hit (q.ring[k]).jobs nm e ∧ Below w1.heap.size w1 w') := by
        rw [heq]
        refine (idxJ_any B (cs[k]).jv (cs[k]).t.jobs wr ht.row (by rw [← heq]; exact HJ.out _ (List.getElem_mem hrk)) nm b ((HB.out.cell (p := ⟨b, 0, none⟩) HB0.out.2.2.2).trans HB0.out.2.2.1)).mono ?_
        rintro e w' ⟨he, hbw⟩
        exact ⟨he, HB.out.trans (hbw.mono HB.out.size)⟩
      obtain ⟨ja, jcap, hjv⟩ := row_shape ht.row
      rw [hjv] at t2 HCk
      obtain ⟨k1, hk1⟩ : ∃ k1, k1 = k + 1 := ⟨_, rfl⟩
      have hk2 : (k : Int) + 1 = (k1 : Int) := by omega
      have hw2 : IntKind.i64.wrap (k1 : Int) = (k1 : Int) := by rw [IntKind.wrap_i64]; omega
      have HK : Hid (k1 = k + 1 ∧ k < q.ring.length) := ⟨hk1, hrk⟩
      have HHit : Hid (∀ e, Hit (q.ring[k]).jobs nm e → (∃ i : Nat, e = .returned (.int .i64 (i : Int)) ∧ Found q.ring nm (.returned (.tuple #[.int .i64 (k : Int), .int .i64 (i : Int)]))) ∨ (e = .returned (.int .i64 (-1)) ∧ ∀ j (hj : j < q.ring.length), j < k1 → ∀ x ∈ (q.ring[j]).jobs, x.name ≠ nm)) := by
        intro e he
        rcases he with ⟨i, hi, h1, h2⟩ | ⟨h1, h2⟩
        · exact .inl ⟨i, h1, .inl ⟨k, hrk, i, hi, rfl, (eqN_iff _ _).1 h2⟩⟩
        · refine .inr ⟨h1, fun j hj hjk x hx => ?_⟩
          by_cases h3 : j < k
          · exact HI.out j hj h3 x hx
          · have h4 : j = k := by omega
            subst h4; exact (eqN_no _ _).1 (h2 x hx)
      unfold pc at c3
      clear hQ ht heq hjv hk1 hg1 hg2
      generalize (cs[k]).blk = tb at *
      generalize (cs[k]).t.jobs.length = jn at *
      generalize Hit (q.ring[k]).jobs nm = HT at *
      go_wp2_with (go_at_call 37; refine HCk.out.mono ?_; rintro e w' ⟨he, hbw⟩; rcases HHit.out e he with ⟨i, rfl, hf⟩ | ⟨rfl, hf⟩)
      · have hi0 : (0 : Int) ≤ (i : Int) := by omega
        have HF : Hid (Found q.ring nm (.returned (.tuple #[.int .i64 (k : Int), .int .i64 (i : Int)])) ∧ Below w1.heap.size w1 w') := ⟨hf, hbw⟩
        clear hf hbw he
        go_wp2
        refine bodyPost_ret (v := .tuple #[.int .i64 (k : Int), .int .i64 (i : Int)]) (by simp [results, Try.results24, go_sem]) rfl ?_
        exact ⟨HF.out.1, HB0.out.1.trans (HF.out.2.mono (Nat.le_of_lt HB0.out.2.2.2))⟩
      · have HF : Hid ((∀ j (hj : j < q.ring.length), j < k1 → ∀ x ∈ (q.ring[j]).jobs, x.name ≠ nm) ∧ Below w1.heap.size w1 w') := ⟨hf, hbw⟩
        clear hf hbw he
        go_wp2
        refine ⟨⟨k1, by rw [HK.out.1]; exact hkl, rfl, HF.out.1, HF.out.2⟩, ?_⟩
        have := HK.out.1
        simp [intOf]; omega
    · have hki : ¬ (k : Int) < (cs.length : Int) := by omega
      have HP : Hid (∀ t ∈ q.ring, ∀ j ∈ t.jobs, j.name ≠ nm) := fun t ht j hj => by
        obtain ⟨i, hi, rfl⟩ := List.getElem_of_mem ht
        exact HI.out i hi (by have := HLn.out; omega) j hj
      go_wp2
      refine bodyPost_ret (v := .tuple #[.int .i64 (-1), .int .i64 (-1)]) (by simp [results, Try.results24, go_sem]) rfl ?_
      exact ⟨.inr ⟨rfl, HP.out⟩, HB0.out.1.trans (HB.out.mono (Nat.le_of_lt HB0.out.2.2.2))⟩
end Go.Proofs.Ytfddhdpnoliamaa
