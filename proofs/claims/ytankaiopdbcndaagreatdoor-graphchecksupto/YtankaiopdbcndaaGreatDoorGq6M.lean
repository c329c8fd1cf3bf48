/- A circle among links, if there is one: walked whole. -/
import Derived.Test.YtankaiopdbcndaaGreatDoorGq5M
import Derived.Test.YtankaiopdbcndaaGreatDoorTc7
namespace Go.Proofs.YtankaiopdbcndaaGreatDoor
open Go.RowKit Go.Shelf Go.Maps Go.WideMaps
attribute [local go_sem] run_store_fn
/-- How circle ends. -/
def CrP (nf : List UInt8 → List ByteArray) (U : List (List UInt8)) (w : World) (e : Ending) (w' : World) : Prop := ∃ (fv : Value) (c : List ByteArray), e = .returned fv ∧ w'.ownsRow w.heap.size 9 1 fv c.length (c.map Value.string) ∧ Below w.heap.size w w' ∧ ((Cyc (ndT nf) (c.map tl) ∧ ∀ y ∈ c, tl y ∈ U) ∨ (c = [] ∧ ∀ k ∈ U, ¬ Rp (ndT nf) k k))

set_option maxHeartbeats 8000000 in
set_option maxRecDepth 100000 in
theorem circle_any (M N : Nat) (D : DataW Unit) (nf : List UInt8 → List ByteArray) (lf : List UInt8 → Value) (U : List (List UInt8)) (w : World) (hT : LT M N D nf lf w) (hN : N ≤ 60) (hU : U.length ≤ 60) (hUn : U.Nodup) (hUm : ∀ k, k ∈ U ↔ Maps.has D (.string k) = true) (hcl : ∀ k ∈ U, ∀ y ∈ nf k, tl y ∈ U) (hsz : ∀ k ∈ U, k.length ≤ maxLen) :
    Calls Tryz.prog 33 #[.map (some M)] w (CrP nf U w) := by
  obtain ⟨b5, h5⟩ : ∃ b, b = w.heap.size + 1 + 1 + 1 + 1 + 1 := ⟨_, rfl⟩
  obtain ⟨b3, h3⟩ : ∃ b, b = w.heap.size + 1 + 1 + 1 + 1 := ⟨_, rfl⟩
  obtain ⟨ML, hML⟩ : ∃ b, b = w.heap.size + 1 + 1 + 1 := ⟨_, rfl⟩
  obtain ⟨b2, h2⟩ : ∃ b, b = w.heap.size + 1 + 1 := ⟨_, rfl⟩
  obtain ⟨b1, h1⟩ : ∃ b, b = w.heap.size + 1 := ⟨_, rfl⟩
  obtain ⟨b4, h4⟩ : ∃ b, b = w.heap.size := ⟨_, rfl⟩
  have hmm := @run_makeMap Tryz.prog
  have HW : Hid (∀ gz oz F pv x wr, CS gz oz b1 b2 b3 b4 b5 M ML nf U [] F pv w wr → tl x ∈ U → Calls Tryz.prog 55 #[.string x, pt b1, pt b2, pt b3, pt b4, pt b5] wr (CkP gz oz b1 b2 b3 b4 b5 M ML nf U [] F x w)) := fun gz oz F pv x wr h hx => cwalk_any gz oz b1 b2 b3 b4 b5 M ML N D nf lf U w hT hU hcl hsz (U.length + 1) [] F pv x wr (by omega) h hx (fun e => absurd rfl e)
  have HSo : Hid (∀ W, Below w.heap.size w W → Calls Tryz.prog 37 #[.func (.func 61) #[] #[.pointer (some ⟨W.heap.size, 0, none⟩)]] (W.alloc (.cells #[.map (some M)] 53)) fun e w' => ∃ (va : Option Addr) (vc : Nat) (out : List ByteArray), e = .returned (.slice va out.length vc) ∧ Hid (w'.ownsRow W.heap.size 9 1 (.slice va out.length vc) out.length (out.map Value.string) ∧ (∀ k, k ∈ out.map tl ↔ k ∈ U) ∧ out.length ≤ 60 ∧ Below W.heap.size W w')) := fun W hW => (sorted_keys (omapG hT.own (hW.block M hT.own.lt)) hN hUn hUm).mono fun e w' ⟨v, out, q1, q2, q3, q4, q5⟩ => by
    have hl : out.length ≤ 60 := by
      have := (lt_nodup q3).length_le_of_subset (l₂ := U) fun k hk => (q4 k).1 hk
      rw [List.length_map] at this
      omega
    obtain ⟨ao, c, rfl⟩ := row_form q2
    exact ⟨ao, c, out, q1, q2, q4, hl, q5⟩
  have HZ : Hid (∀ gz oz F pv W, CS gz oz b1 b2 b3 b4 b5 M ML nf U [] F pv w W → (∀ k ∈ U, k ∈ F) → CrP nf U w (.returned (.slice none 0 0)) W) := fun _ _ F pv W h hk => ⟨_, [], rfl, World.ownsRow_nil _ _ _ _, h.bel, .inr ⟨rfl, fun k hk2 => h.ci.acy k (hk k hk2)⟩⟩
  have HY : Hid (∀ W, FnP b2 nf U w W → ∃ fv, W.cell? ⟨b2, 0, none⟩ = some fv ∧ Hid (CrP nf U w (.returned fv) W)) := fun W ⟨fv, c, q1, q2, q3, q4, q5⟩ => ⟨fv, q1, fv, c, rfl, q2, q5, .inl ⟨q3, q4⟩⟩
  have H0 : Hid (∀ W, W = ((((((w.alloc (.cells #[.map (some M)] 53)).alloc (.cells #[.slice none 0 0] 23)).alloc (.cells #[.slice none 0 0] 23)).alloc (.map #[] 0)).alloc (.cells #[.map (some ML)] 86)).alloc (.cells #[.func (.func 55) #[] #[pt b1, pt b2, pt b3, pt b4, pt b5]] 57)) → CS b4 (.cells #[.map (some M)] 53 (0, 0)) b1 b2 b3 b4 b5 M ML nf U [] [] (.slice none 0 0) w W) := fun W hW => by
    obtain ⟨w1, e1⟩ : ∃ w1, w1 = w.alloc (.cells #[.map (some M)] 53) := ⟨_, rfl⟩
    obtain ⟨w2, e2⟩ : ∃ w2, w2 = w1.alloc (.cells #[.slice none 0 0] 23) := ⟨_, rfl⟩
    obtain ⟨w3, e3⟩ : ∃ w3, w3 = w2.alloc (.cells #[.slice none 0 0] 23) := ⟨_, rfl⟩
    obtain ⟨w4, e4⟩ : ∃ w4, w4 = w3.alloc (.map #[] 0) := ⟨_, rfl⟩
    obtain ⟨w5, e5⟩ : ∃ w5, w5 = w4.alloc (.cells #[.map (some ML)] 86) := ⟨_, rfl⟩
    rw [← e1, ← e2, ← e3, ← e4, ← e5] at hW
    have z1 : w1.heap.size = w.heap.size + 1 := by rw [e1]; exact World.size_alloc _ _
    have z2 : w2.heap.size = w.heap.size + 1 + 1 := by rw [e2, World.size_alloc, z1]
    have z3 : w3.heap.size = w.heap.size + 1 + 1 + 1 := by rw [e3, World.size_alloc, z2]
    have z4 : w4.heap.size = w.heap.size + 1 + 1 + 1 + 1 := by rw [e4, World.size_alloc, z3]
    have z5 : w5.heap.size = w.heap.size + 1 + 1 + 1 + 1 + 1 := by rw [e5, World.size_alloc, z4]
    have a2 : Below w1.heap.size w1 w2 := by rw [e2]; exact (Below.refl _ _).alloc (Nat.le_refl _) _
    have a3 : Below w2.heap.size w2 w3 := by rw [e3]; exact (Below.refl _ _).alloc (Nat.le_refl _) _
    have a4 : Below w3.heap.size w3 w4 := by rw [e4]; exact (Below.refl _ _).alloc (Nat.le_refl _) _
    have a5 : Below w4.heap.size w4 w5 := by rw [e5]; exact (Below.refl _ _).alloc (Nat.le_refl _) _
    have a6 : Below w5.heap.size w5 W := by rw [hW]; exact (Below.refl _ _).alloc (Nat.le_refl _) _
    have q4 : w1.heap[b4]? = some (.cells #[.map (some M)] 53 (0, 0)) := by rw [e1, h4]; exact heap_alloc_new _ _
    have q1 : w2.heap[b1]? = some (.cells #[.slice none 0 0] 23 (0, 0)) := by rw [e2, h1, ← z1]; exact heap_alloc_new _ _
    have q2 : w3.heap[b2]? = some (.cells #[.slice none 0 0] 23 (0, 0)) := by rw [e3, h2, ← z2]; exact heap_alloc_new _ _
    have qm : LM ML [] w4 := by have := LM.made w3; rw [← e4, z3, ← hML] at this; exact this
    have q3 : w5.heap[b3]? = some (.cells #[.map (some ML)] 86 (0, 0)) := by rw [e5, h3, ← z4]; exact heap_alloc_new _ _
    have q5 : W.heap[b5]? = some (.cells #[.func (.func 55) #[] #[pt b1, pt b2, pt b3, pt b4, pt b5]] 57 (0, 0)) := by rw [hW, h5, ← z5]; exact heap_alloc_new _ _
    have p4 : W.heap[b4]? = some (.cells #[.map (some M)] 53 (0, 0)) := by rw [a6.block b4 (by omega), a5.block b4 (by omega), a4.block b4 (by omega), a3.block b4 (by omega), a2.block b4 (by omega)]; exact q4
    refine ⟨CI.nil, ?_, ?_, ?_, p4, q5, World.ownsRow_nil _ _ _ _, ?_, ?_, by omega, by omega, by omega, by omega, by omega, by omega, by omega, by omega, by omega, by omega, by omega, by omega, p4, by omega, by omega, by omega, fun e => by cases e⟩
    · rw [a6.block b1 (by omega), a5.block b1 (by omega), a4.block b1 (by omega), a3.block b1 (by omega)]; exact q1
    · rw [a6.block b2 (by omega), a5.block b2 (by omega), a4.block b2 (by omega)]; exact q2
    · rw [a6.block b3 (by omega)]; exact q3
    · exact (qm.keep (a5.block ML (by omega))).keep (a6.block ML (by omega))
    · have a1 : Below w.heap.size w w1 := by rw [e1]; exact (Below.refl _ _).alloc (Nat.le_refl _) _
      exact ((((a1.trans (a2.mono (by omega))).trans (a3.mono (by omega))).trans (a4.mono (by omega))).trans (a5.mono (by omega))).trans (a6.mono (by omega))
  have HKs := keysS_any
  clear hT hU hcl hsz hUn hUm hN
  go_enter Tryz.func33, Tryz.ntmps33
  go_wp2_with fail
  rw [← h5, ← h3, ← hML, ← h2, ← h1, ← h4]
  have H1 := H0.out _ rfl
  unfold pt at H1
  generalize hWz : ((((((w.alloc (.cells #[.map (some M)] 53)).alloc (.cells #[.slice none 0 0] 23)).alloc (.cells #[.slice none 0 0] 23)).alloc (.map #[] 0)).alloc (.cells #[.map (some ML)] 86)).alloc (.cells #[.func (.func 55) #[] #[.pointer (some ⟨b1, 0, none⟩), .pointer (some ⟨b2, 0, none⟩), .pointer (some ⟨b3, 0, none⟩), .pointer (some ⟨b4, 0, none⟩), .pointer (some ⟨b5, 0, none⟩)]] 57)) = Wz at *
  have H2 : Hid (CS b4 (.cells #[.map (some M)] 53 (0, 0)) b1 b2 b3 b4 b5 M ML nf U [] [] (.slice none 0 0) w Wz) := H1
  clear H1 H0 h5 h3 hML h2 h1 h4 hWz
  refine (HKs _ _).mono ?_
  rintro e wk ⟨rfl, rfl⟩
  go_wp2_with fail
  refine (HSo.out Wz H2.out.bel).mono ?_
  rintro e wz ⟨va, vc, out, rfl, G1⟩
  obtain ⟨gz, oz, hC0, hgz⟩ : ∃ gz oz, CS gz oz b1 b2 b3 b4 b5 M ML nf U [] [] (.slice none 0 0) w wz ∧ (out = [] ∨ (va = some ⟨gz, 0, none⟩ ∧ ∀ W : World, W.heap[gz]? = some oz → ∀ j (hj : j < out.length), W.cell? ⟨gz, j, none⟩ = some (.string out[j]))) := by
    obtain ⟨q1, _, _, q4⟩ := G1.out
    have hb := H2.out.below q4
    by_cases h0 : out = []
    · exact ⟨_, _, hb, .inl h0⟩
    · have hp : 0 < out.length := List.length_pos_iff.2 h0
      rcases q1.2 with ⟨_, e⟩ | ⟨g, c, cur, e, hg1, hg2, hr⟩
      · omega
      · have hl1 := blk_lt H2.out.c1
        have hl2 := blk_lt H2.out.c2
        have hl3 := H2.out.lm.lt
        injection e with e1 _ _
        refine ⟨g, _, { hb with pz := hg2, z1 := (by omega), z2 := (by omega), zM := (by omega), zp := fun e => by cases e }, .inr ⟨e1, fun W hW j hj => ?_⟩⟩
        subst e1
        have hc := q1.cells rfl j (.string out[j]) (by rw [List.getElem?_map, List.getElem?_eq_getElem hj]; rfl)
        rw [addr_add, Nat.zero_add] at hc
        rw [← hc]
        exact World.cell?_of_block (a := ⟨g, j, none⟩) (hW.trans hg2.symm)
  have HC0 : Hid (CS gz oz b1 b2 b3 b4 b5 M ML nf U [] [] (.slice none 0 0) w wz) := hC0
  have HGz : Hid (out = [] ∨ (va = some ⟨gz, 0, none⟩ ∧ ∀ W : World, W.heap[gz]? = some oz → ∀ j (hj : j < out.length), W.cell? ⟨gz, j, none⟩ = some (.string out[j]))) := hgz
  have HMe : Hid (∀ k, k ∈ out.map tl ↔ k ∈ U) := G1.out.2.1
  have hol : (out.length : Int) ≤ 60 := by have := G1.out.2.2.1; omega
  clear G1 HSo HKs H2 hmm hC0 hgz
  go_wp2
  go_loopw [15] (fun u wr => ∃ (i : Nat) (F : List (List UInt8)) (pv : Value), i ≤ out.length ∧ u = .int .i64 (i : Int) ∧ Hid (CS gz oz b1 b2 b3 b4 b5 M ML nf U [] F pv w wr ∧ (∀ j (hj : j < out.length), j < i → tl out[j] ∈ F))) (fun u _ => out.length - (intOf u).toNat)
  case atStart => exact ⟨0, [], _, Nat.zero_le _, rfl, HC0.out, (fun j _ hj => absurd hj (Nat.not_lt_zero _))⟩
  case round =>
    obtain ⟨i, F, pv, hi, rfl, HJ⟩ := hrel
    by_cases hlt : i < out.length
    · have hii : (i : Int) < (out.length : Int) := by omega
      rcases HGz.out with hz | ⟨rfl, hcc⟩
      · exfalso; rw [hz] at hlt; exact absurd hlt (by simp)
      have c0 := hcc wr HJ.out.1.pz i hlt
      have c5 := cell0 HJ.out.1.c5
      have hxU : tl out[i] ∈ U := (HMe.out _).1 (List.mem_map.2 ⟨_, List.getElem_mem hlt, rfl⟩)
      have HC := HW.out gz oz F pv out[i] wr HJ.out.1 hxU
      have HN : Hid (∀ W F' pv', CS gz oz b1 b2 b3 b4 b5 M ML nf U [] F' pv' w W → tl out[i] ∈ F' → (∀ k ∈ F, k ∈ F') → CS gz oz b1 b2 b3 b4 b5 M ML nf U [] F' pv' w W ∧ ∀ j (hj : j < out.length), j < i + 1 → tl out[j] ∈ F') := fun W F' pv' q1 q2 q3 => ⟨q1, fun j hj hji => by
        rcases (show j < i ∨ j = i by omega) with e | e
        · exact q3 _ (HJ.out.2 j hj e)
        · subst e; exact q2⟩
      generalize out[i] = y at *
      unfold CkP pt at HC
      unfold pt at c5
      clear hcc HJ HC0 hxU
      go_wp2_with fail
      refine HC.mono ?_
      rintro e w7 ⟨b, rfl, hb1, hb2⟩
      clear HC
      cases b with
      | true =>
        obtain ⟨fv, k1, HE⟩ := HY.out w7 (hb1 rfl)
        clear hb1 hb2 HN HW HZ HY c0 c5
        go_wp2
        go_ret
        exact HE.out
      | false =>
        obtain ⟨F', pv', q1, q2, q3⟩ := hb2 rfl
        have HE : Hid (CS gz oz b1 b2 b3 b4 b5 M ML nf U [] F' pv' w w7 ∧ ∀ j (hj : j < out.length), j < i + 1 → tl out[j] ∈ F') := HN.out w7 F' pv' q1 q2 q3
        clear hb1 hb2 HN q1 q2 q3 c0 c5
        go_wp2
        exact ⟨⟨i + 1, F', pv', by omega, by go_num, HE⟩, by simp [intOf]; omega⟩
    · obtain rfl : i = out.length := by omega
      have c2 := cell0 HJ.out.1.c2
      have HE : Hid (CrP nf U w (.returned (.slice none 0 0)) wr) := HZ.out gz oz F pv wr HJ.out.1 fun k hk => by
        obtain ⟨z, hz, e⟩ := List.mem_map.1 ((HMe.out k).2 hk)
        obtain ⟨j, hj, rfl⟩ := List.mem_iff_getElem.1 hz
        rw [← e]
        exact HJ.out.2 j hj hj
      clear HJ HC0 HZ HY
      go_wp2
      go_ret
      exact HE.out
end Go.Proofs.YtankaiopdbcndaaGreatDoor
