/- What ReadTexts answers where the text is of no such list. -/
import Derived.Test.YtligalcphlfmcacRdNo
namespace Go.Proofs.Ytligalcphlfmcac
open Go.RowKit Go.Shelf

set_option maxHeartbeats 1000000 in
theorem catch_pan (p q : Addr) (x y : Value) (u : TypeId) (pv : Value) (older : List PanicEntry) (w : World) (hp : w.cell? p = some x) (hpf : w.frozen? p = false) (hq : w.cell? q = some y) (hqf : w.frozen? q = false) (hpq : ¬ p.block = q.block) :
    CallsD Try.prog 59 #[.pointer (some p), .pointer (some q)] (.panicking ({ v := .iface u pv, recovered := false } :: older)) w fun e u' w' =>
      e = .returned (.tuple #[]) ∧ u' = .panicking ({ v := .iface u pv, recovered := true } :: older) ∧ w' = (w.setCell p (.slice none 0 0)).setCell q (.int .i64 1) := by
  have hq2 : (w.setCell p (.slice none 0 0)).cell? q = some y := by
    rw [World.cell?_of_block (w := w) (Below.heap_setCell w p _ q.block (fun e => hpq e.symm))]
    exact hq
  refine callsD_of_wpS Try.func59 rfl fun c₀ cs hu => ?_
  apply wpS_seq
  apply wpS_region
  simp [wpOpsS, go_sem, recoverD, hu, Try.ntmps59, Exit.thenS]
  refine wpS_cond (t := true) (by simp [Act.eval, Array.replicate]) ?_
  simp only [if_true]
  apply wpS_seq
  apply wpS_region
  simp [wpOpsS, go_sem, Exit.thenS]
  apply wpS_region
  simp [wpOpsS, go_sem, hp, hpf, hqf, hq2, bodyPostS, results, Try.results59]

theorem te_own_long (base : Nat) (v : Value) (l : List (List UInt8)) (w : World) (hown : w.ownsRow base 9 1 v l.length (strs l)) (hl : l.length ≤ 2000) (ht : ∃ t ∈ l, 100000 < t.length) :
    Calls Try.prog 21 #[v] w fun e w' => e = .returned (.int .i64 2) ∧ w' = w := by
  refine te_long v l.length (own_shape hown) w hl ?_
  have hcells := fun (g : Nat) (hg : v.ownBlock = some g) => hown.cells hg
  rcases hown.2 with ⟨h1, h2⟩ | ⟨g, cap, cur, hv, _⟩
  · obtain ⟨t, ht, _⟩ := ht
    rw [List.length_eq_zero_iff.1 h2] at ht
    cases ht
  · subst hv
    have hlen : (l.map fun t => (⟨t.toArray⟩ : ByteArray)).length = l.length := by simp
    have := cf_some g 0 cap (l.map fun t => (⟨t.toArray⟩ : ByteArray)) w (by rw [hlen]; omega)
      (fun j hj => by
        have := hcells g rfl j (.string (l.map fun t => (⟨t.toArray⟩ : ByteArray))[j]) (by rw [hlen] at hj; simp [strs, List.getElem?_map, List.getElem?_eq_getElem hj])
        rw [show (⟨g, 0, none⟩ : Addr).add j = ⟨g, 0 + j, none⟩ from addr_add g 0 j] at this
        exact this)
      (by
        obtain ⟨t, htl, hlong⟩ := ht
        exact ⟨⟨t.toArray⟩, List.mem_map.2 ⟨t, htl, rfl⟩, by rw [show (⟨t.toArray⟩ : ByteArray).size = t.length from size_of rfl]; exact hlong⟩)
    rw [hlen] at this
    exact this

/-- The door behind a panic: the closure recovers, and nil and ErrForm are answered. -/
theorem door_pan (w w1 : World) (tmps : Array Value) (hb : Below w.heap.size w w1) (ht6 : tmps[6]?.getD undef = .pointer (some ⟨w.heap.size, 0, none⟩)) (ht7 : tmps[7]?.getD undef = .pointer (some ⟨w.heap.size + 1, 0, none⟩)) (x y : Value)
    (hp : w1.cell? ⟨w.heap.size, 0, none⟩ = some x) (hpf : w1.frozen? ⟨w.heap.size, 0, none⟩ = false) (hq : w1.cell? ⟨w.heap.size + 1, 0, none⟩ = some y) (hqf : w1.frozen? ⟨w.heap.size + 1, 0, none⟩ = false) :
    bodyPostD Try.prog Try.f39 (fun e w' => e = .returned (.tuple #[.slice none 0 0, .int .i64 1]) ∧ Below w.heap.size w w') (Exit.panic [{ v := .iface 23 (.int .i64 1), recovered := false }])
      { tmps := tmps, defers := [{ target := Target.fn (Fn.func 59) #[.pointer (some ⟨w.heap.size, 0, none⟩), .pointer (some ⟨w.heap.size + 1, 0, none⟩)], args := #[] }] } w1 := by
  refine leaves_cons (f := 59) (args := #[.pointer (some ⟨w.heap.size, 0, none⟩), .pointer (some ⟨w.heap.size + 1, 0, none⟩)]) (by simp) (by simp [go_sem]) ?_
  refine (catch_pan ⟨w.heap.size, 0, none⟩ ⟨w.heap.size + 1, 0, none⟩ x y 23 (.int .i64 1) [] _ hp hpf hq hqf (by simp)).mono ?_
  rintro e u' w'' ⟨rfl, rfl, rfl⟩
  have q0 : (w1.setCell ⟨w.heap.size, 0, none⟩ (.slice none 0 0)).cell? ⟨w.heap.size, 0, none⟩ = some (.slice none 0 0) := World.cell?_setCell_same' _ _ _ (by rw [hp]; rfl)
  have q1 : ((w1.setCell ⟨w.heap.size, 0, none⟩ (.slice none 0 0)).setCell ⟨w.heap.size + 1, 0, none⟩ (.int .i64 1)).cell? ⟨w.heap.size + 1, 0, none⟩ = some (.int .i64 1) := World.cell?_setCell_same' _ _ _ (by simp [go_sem, hq])
  simp [Leaves, settle, results, Try.results39, go_sem, q0, q1, ht6, ht7]
  exact (hb.setCell (p := ⟨w.heap.size, 0, none⟩) (Nat.le_refl _) _).setCell (p := ⟨w.heap.size + 1, 0, none⟩) (Nat.le_succ _) _

def NoTexts (s : ByteArray) : Prop := ¬ ∃ l : List (List UInt8), l.length ≤ 2000 ∧ (∀ t ∈ l, t.length ≤ 100000) ∧ s.data.toList = pk l.length ++ pkAll l

theorem pkAll_mem (l : List (List UInt8)) : ∀ t ∈ l, t.length ≤ (pkAll l).length := by
  induction l with
  | nil => intro t ht; cases ht
  | cons x l ih =>
    intro t ht
    simp only [pkAll, List.length_append]
    rcases List.mem_cons.1 ht with rfl | ht
    · omega
    · have := ih t ht
      omega

set_option maxHeartbeats 4000000 in
set_option maxRecDepth 100000 in
theorem whole_no (s : ByteArray) (w : World) (hs : s.size ≤ 140737488355328) (hno : NoTexts s) :
    Calls Try.prog 39 #[.string s, .func (.func 40) #[] #[], .func (.func 21) #[] #[]] w fun e w' => e = .returned (.tuple #[.slice none 0 0, .int .i64 1]) ∧ Below w.heap.size w w' := by
  have hmf : ∀ (fn : Fn) (first cap : Array Value) (w : World), (Instr.makeFunc fn first cap).run Try.prog w = .ok (.func fn first cap) w := fun _ _ _ _ => rfl
  by_cases hl : NoList s
  · have HL : Hid (NoList s) := hl
    clear hl hno
    go_enter_defers Try.func39, Try.ntmps39
    go_wp2_with fail
    refine (rd_texts_no (w.heap.size + 1 + 1) s _ hs HL.out (by simp [go_sem]) (by simp [go_sem])).mono ?_
    rintro e w1 ⟨rfl, hg1⟩
    have hcv : w1.cell? ⟨w.heap.size, 0, none⟩ = some (.slice none 0 0) := hg1.cell (by simp [go_sem]) (by simp; omega)
    have hce : w1.cell? ⟨w.heap.size + 1, 0, none⟩ = some (.int .i64 0) := hg1.cell (by simp [go_sem]) (by simp)
    have hfv : w1.frozen? ⟨w.heap.size, 0, none⟩ = false := by
      rw [World.frozen?_of_block (hg1.block w.heap.size (by simp; omega) (by simp; omega))]; simp [go_sem]
    have hfe : w1.frozen? ⟨w.heap.size + 1, 0, none⟩ = false := by
      rw [World.frozen?_of_block (hg1.block (w.heap.size + 1) (by simp) (by simp))]; simp [go_sem]
    have HB : Hid (Below w.heap.size w w1) := ((((Below.refl _ _).alloc (Nat.le_refl _) _).alloc (by simp) _).alloc (by simp; omega) _).grown hg1 (by simp; omega) (by intro k hk; cases hk; omega)
    clear hg1
    go_wp2
    exact door_pan w w1 _ HB.out rfl rfl _ _ hcv hfv hce hfe
  · obtain ⟨l, r, hl2, hr⟩ := Classical.not_not.1 hl
    have hsm : s.size ≤ maxLen := by unfold maxLen; omega
    have HR : Hid (s.data.toList = pk l.length ++ (pkAll l ++ r)) := hr
    have HT : Hid (∀ t ∈ l, t.length ≤ 281474976710656) := fun t ht => by
      have h1 := pkAll_mem l t ht
      have h2 := size_of hr
      simp only [List.length_append] at h2
      omega
    have HC : Hid (r = [] → ∃ t ∈ l, 100000 < t.length) := fun h0 => by
      refine Classical.byContradiction fun hne => hno ⟨l, hl2, fun t ht => ?_, by rw [hr, h0]; simp⟩
      exact Nat.le_of_not_lt fun h => hne ⟨t, ht, h⟩
    clear hl hno hr
    go_enter_defers Try.func39, Try.ntmps39
    go_wp2_with fail
    refine (rd_texts (w.heap.size + 1 + 1) s _ l r hsm hl2 HT.out HR.out (by simp [go_sem]) (by simp [go_sem])).mono ?_
    rintro e w1 ⟨v, rfl, hown, ⟨s1, hs1, _, hc1⟩, hf1, hg1⟩
    have hcv : w1.cell? ⟨w.heap.size, 0, none⟩ = some (.slice none 0 0) := hg1.cell (by simp [go_sem]) (by simp; omega)
    have hce : w1.cell? ⟨w.heap.size + 1, 0, none⟩ = some (.int .i64 0) := hg1.cell (by simp [go_sem]) (by simp)
    have hfv : w1.frozen? ⟨w.heap.size, 0, none⟩ = false := by
      rw [World.frozen?_of_block (hg1.block w.heap.size (by simp; omega) (by simp; omega))]; simp [go_sem]
    have hfe : w1.frozen? ⟨w.heap.size + 1, 0, none⟩ = false := by
      rw [World.frozen?_of_block (hg1.block (w.heap.size + 1) (by simp) (by simp))]; simp [go_sem]
    obtain ⟨a, cap, rfl⟩ := own_shape hown
    have hown' : w1.ownsRow (w.heap.size + 1 + 1 + 1) 9 1 (.slice a l.length cap) l.length (strs l) := by simpa using hown
    have HO : Hid (∀ u1 : Value, (w1.setCell ⟨w.heap.size, 0, none⟩ u1).ownsRow (w.heap.size + 1 + 1 + 1) 9 1 (.slice a l.length cap) l.length (strs l)) := fun u1 =>
      ownsRow_setCell_below hown' (a := ⟨w.heap.size, 0, none⟩) (by show w.heap.size < _; omega) u1
    have HB : Hid (Below w.heap.size w w1) := ((((Below.refl _ _).alloc (Nat.le_refl _) _).alloc (by simp) _).alloc (by simp; omega) _).grown hg1 (by simp; omega) (by intro k hk; cases hk; omega)
    have HB2 : Hid (∀ u : Value, Below w.heap.size w (w1.setCell ⟨w.heap.size, 0, none⟩ u)) := fun u => HB.out.setCell (p := ⟨w.heap.size, 0, none⟩) (Nat.le_refl _) _
    have HQ : Hid (∀ u : Value, (w1.setCell ⟨w.heap.size, 0, none⟩ u).cell? ⟨w.heap.size, 0, none⟩ = some u ∧ (w1.setCell ⟨w.heap.size, 0, none⟩ u).frozen? ⟨w.heap.size, 0, none⟩ = false ∧ (w1.setCell ⟨w.heap.size, 0, none⟩ u).cell? ⟨w.heap.size + 1, 0, none⟩ = some (.int .i64 0) ∧ (w1.setCell ⟨w.heap.size, 0, none⟩ u).frozen? ⟨w.heap.size + 1, 0, none⟩ = false) := fun u =>
      ⟨World.cell?_setCell_same' _ _ _ (by rw [hcv]; rfl), by rw [World.frozen?_setCell]; exact hfv, by rw [World.cell?_of_block (w := w1) (Below.heap_setCell w1 ⟨w.heap.size, 0, none⟩ u (w.heap.size + 1) (by show ¬ w.heap.size + 1 = w.heap.size; omega))]; exact hce, by rw [World.frozen?_setCell]; exact hfe⟩
    clear hown hown' hg1 hf1
    by_cases h0 : r = []
    · subst h0
      have HC2 : Hid (∃ t ∈ l, 100000 < t.length) := HC.out rfl
      clear HC
      obtain rfl : s1 = ⟨#[]⟩ := bytes_eq hs1
      clear hs1
      go_wp2_with fail
      refine (te_own_long _ _ l _ (HO.out _) hl2 HC2.out).mono ?_
      rintro e w2 ⟨rfl, rfl⟩
      go_wp2_with fail
      refine (giveUp_any _).mono ?_
      rintro e w2 ⟨rfl, rfl⟩
      obtain ⟨k1, k2, k3, k4⟩ := HQ.out (.slice a l.length cap)
      go_wp2
      exact door_pan w _ _ (HB2.out _) rfl rfl _ _ k1 k2 k3 k4
    · have hne : (s1.toList == []) = false := by
        rw [beq_eq_false_iff_ne, Lib.toList_data, hs1]
        exact h0
      have hne2 : s1.toList.isEmpty = false := by
        rw [Lib.toList_data, hs1]
        cases r
        · exact absurd rfl h0
        · rfl
      clear hs1 h0
      go_wp2_with fail
      refine (giveUp_any _).mono ?_
      rintro e w2 ⟨rfl, rfl⟩
      obtain ⟨k1, k2, k3, k4⟩ := HQ.out (.slice a l.length cap)
      go_wp2
      exact door_pan w _ _ (HB2.out _) rfl rfl _ _ k1 k2 k3 k4

set_option maxHeartbeats 1000000 in
theorem ReadTexts_no (s : ByteArray) (w : World) (hs : s.size ≤ 140737488355328) (hno : NoTexts s) :
    Calls Try.prog 19 #[.string s] w fun e w' => e = .returned (.tuple #[.slice none 0 0, .int .i64 1]) ∧ Below w.heap.size w w' := by
  have HN : Hid (NoTexts s) := hno
  clear hno
  go_enter Try.func19, Try.ntmps19
  go_wp2_with fail
  refine (whole_no s w hs HN.out).mono ?_
  rintro e w1 ⟨rfl, h2⟩
  go_wp2
  go_ret2
  exact ⟨rfl, h2⟩
end Go.Proofs.Ytligalcphlfmcac
