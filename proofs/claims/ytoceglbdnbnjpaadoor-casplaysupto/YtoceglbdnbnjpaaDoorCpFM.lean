/- The document's Kept, in memory; where a digest is; how many bytes are used. -/
import Derived.Test.YtoceglbdnbnjpaaDoorCpPM
namespace Go.Proofs.YtoceglbdnbnjpaaDoor
open Go.RowKit Go.Shelf Go.Sort

/-- A text, and how often it is pinned. -/
abbrev Kt := ByteArray × Nat
def ktx (L : List Kt) : List Value := L.map fun x => Value.string x.1
def kpn (L : List Kt) : List Value := L.map fun x => Value.int .i64 (x.2 : Int)
def krs (tv pv : Value) (L : List Kt) : List Fw := [⟨tv, 9, 1, L.length, ktx L⟩, ⟨pv, 3, 1, L.length, kpn L⟩]
def KD (B R : Nat) (rm : Int) (tv pv : Value) (L : List Kt) (W : World) : Prop := DS 33 B R [.int .i64 rm] (krs tv pv L) W

/-- The first place of a digest. -/
def kat (L : List Kt) (d : ByteArray) : Option Nat := L.findIdx? fun x => decide (smB x.1 = d)
def katI (L : List Kt) (d : ByteArray) : Int := match kat L d with | some i => (i : Int) | none => -1
def kus (b : Bool) (L : List Kt) : Nat := (L.map fun x => if b = true ∧ x.2 = 0 then 0 else x.1.size).sum

theorem kat_hit {L : List Kt} {d : ByteArray} {k : Nat} (hk : k < L.length) (h1 : smB (L[k]).1 = d) (h2 : ∀ (j : Nat) (hj : j < L.length), j < k → smB (L[j]).1 ≠ d) : kat L d = some k :=
  List.findIdx?_eq_some_iff_getElem.2 ⟨hk, decide_eq_true h1, fun j hj => by simp [h2 j (by omega) hj]⟩
theorem kat_miss {L : List Kt} {d : ByteArray} (h2 : ∀ (j : Nat) (hj : j < L.length), smB (L[j]).1 ≠ d) : kat L d = none :=
  List.findIdx?_eq_none_iff.2 fun x hx => by
    obtain ⟨j, hj, rfl⟩ := List.getElem_of_mem hx
    simp [h2 j hj]

section
variable {B R : Nat} {rm : Int} {tv pv : Value} {L : List Kt} {w : World}
theorem KD.tr (h : KD B R rm tv pv L w) : RowL w B 9 1 tv L.length (ktx L) := h.rows ⟨tv, 9, 1, L.length, ktx L⟩ (by simp [krs])
theorem KD.pr (h : KD B R rm tv pv L w) : RowL w B 3 1 pv L.length (kpn L) := h.rows ⟨pv, 3, 1, L.length, kpn L⟩ (by simp [krs])
theorem KD.c0 (h : KD B R rm tv pv L w) : w.cell? ⟨R, 0, none⟩ = some (.int .i64 rm) := DS.c h 0
theorem KD.c1 (h : KD B R rm tv pv L w) : w.cell? ⟨R, 1, none⟩ = some tv := DS.c h 1
theorem KD.c2 (h : KD B R rm tv pv L w) : w.cell? ⟨R, 2, none⟩ = some pv := DS.c h 2
theorem KD.up {w' : World} (h : KD B R rm tv pv L w) (hb : Below w.heap.size w w') : KD B R rm tv pv L w' := DS.up h hb
theorem KD.t (h : KD B R rm tv pv L w) (k : Nat) (hk : k < L.length) : ∃ g cap, tv = .slice (some ⟨g, 0, none⟩) L.length cap ∧ w.cell? ⟨g, k, none⟩ = some (.string (L[k]).1) := by
  obtain ⟨g, cap, hv, _, hc⟩ := h.tr.form (by omega)
  refine ⟨g, cap, hv, (hc k (by omega)).trans ?_⟩
  unfold ktx
  rw [List.getElem?_map, List.getElem?_eq_getElem hk]
  rfl
theorem KD.p (h : KD B R rm tv pv L w) (k : Nat) (hk : k < L.length) : ∃ g cap, pv = .slice (some ⟨g, 0, none⟩) L.length cap ∧ w.cell? ⟨g, k, none⟩ = some (.int .i64 ((L[k]).2 : Int)) := by
  obtain ⟨g, cap, hv, _, hc⟩ := h.pr.form (by omega)
  refine ⟨g, cap, hv, (hc k (by omega)).trans ?_⟩
  unfold kpn
  rw [List.getElem?_map, List.getElem?_eq_getElem hk]
  rfl

set_option maxHeartbeats 4000000 in
set_option maxRecDepth 100000 in
theorem KAt_any (h : KD B R rm tv pv L w) (hn : L.length ≤ 1000000) (hs : ∀ x ∈ L, x.1.size ≤ 140737488351300) (d : ByteArray) :
    Calls Tryd.prog 13 #[.pointer (some ⟨R, 0, none⟩), .string d] w fun e w' => e = .returned (.int .i64 (katI L d)) ∧ Below w.heap.size w w' := by
  obtain ⟨ao, cap, hv⟩ := h.tr.shape
  subst hv
  have HKD : Hid (∀ wr, Below w.heap.size w wr → KD B R rm (.slice ao L.length cap) pv L wr) := fun wr hb => h.up hb
  have HS : Hid (∀ x ∈ L, x.1.size ≤ 140737488351300) := hs
  have H1 : Hid (∀ wr, Below w.heap.size w wr → wr.cell? ⟨R, 1, none⟩ = some (.slice ao L.length cap)) := fun wr hb => (h.up hb).c1
  obtain ⟨n, en⟩ : ∃ n, n = L.length := ⟨_, rfl⟩
  have HN : Hid (n = L.length) := en
  rw [← en] at H1 hn
  clear en h hs
  go_enter Tryd.func13, Tryd.ntmps13
  go_wp2
  go_loopw [5] (fun v wr => ∃ k : Nat, k ≤ n ∧ v = .int .i64 (k : Int) ∧ Hid (∀ (j : Nat) (hj : j < L.length), j < k → smB (L[j]).1 ≠ d) ∧ Hid (Below w.heap.size w wr)) (fun v _ => n - (RowKit.intOf v).toNat)
  case atStart => exact ⟨0, Nat.zero_le _, rfl, by unfold Hid; omega, Below.refl _ _⟩
  case round =>
    obtain ⟨k, hk, rfl, HK, HB⟩ := hrel
    have c1 := H1.out _ HB.out
    by_cases hlt : k < n
    · have hki : (k : Int) < (n : Int) := by omega
      have hkl : k < L.length := by rw [← HN.out]; exact hlt
      obtain ⟨g, cap', hv, c2⟩ := (HKD.out _ HB.out).t k hkl
      cases hv
      obtain ⟨k1, hk1⟩ : ∃ k1, k1 = k + 1 := ⟨_, rfl⟩
      have ek1 : (k : Int) + 1 = (k1 : Int) := by omega
      have ek2 : IntKind.i64.wrap (k1 : Int) = (k1 : Int) := by rw [IntKind.wrap_i64]; omega
      have HSM : Hid (Calls Tryd.prog 11 #[.string (L[k]).1] wr fun e w' => e = .returned (.string (smB (L[k]).1)) ∧ Below wr.heap.size wr w') := RSm_any _ wr (HS.out _ (List.getElem_mem hkl))
      by_cases he : smB (L[k]).1 = d
      · have hq : ((smB (L[k]).1).toList == d.toList) = true := by rw [he]; simp
        have HF : Hid (katI L d = (k : Int)) := by unfold Hid katI; rw [kat_hit hkl he HK.out]
        clear he hk1
        generalize smB (L[k]).1 = y at hq HSM
        generalize (L[k]).1 = x at c2 HSM
        go_wp2_with fail
        refine HSM.out.mono ?_
        rintro e w' ⟨rfl, hb⟩
        go_wp2
        go_ret
        exact ⟨by rw [HF.out]; rfl, bl_tr HB.out hb⟩
      · have hq : ((smB (L[k]).1).toList == d.toList) = false := by
          rw [beq_eq_false_iff_ne]
          exact fun h => he (b_ext h)
        have HF : Hid (k1 = k + 1 ∧ ∀ (j : Nat) (hj : j < L.length), j < k1 → smB (L[j]).1 ≠ d) := ⟨hk1, fun j hj hj2 => by
          by_cases e : j < k
          · exact HK.out j hj e
          · have : j = k := by omega
            subst this
            exact he⟩
        clear he hk1
        generalize smB (L[k]).1 = y at hq HSM
        generalize (L[k]).1 = x at c2 HSM
        go_wp2_with fail
        refine HSM.out.mono ?_
        rintro e w' ⟨rfl, hb⟩
        go_wp2
        exact ⟨⟨k1, by have := HF.out.1; omega, rfl, HF.out.2, bl_tr HB.out hb⟩, by have := HF.out.1; simp [intOf]; omega⟩
    · have hkn : k = n := by omega
      subst hkn
      have HF : Hid (katI L d = -1) := by
        unfold Hid katI
        rw [kat_miss fun j hj => HK.out j hj (by rw [HN.out]; exact hj)]
      have hx : ¬ (k : Int) < (k : Int) := by omega
      go_wp2
      go_ret
      exact ⟨by rw [HF.out]; rfl, HB.out⟩

set_option maxHeartbeats 4000000 in
set_option maxRecDepth 100000 in
theorem KUsed_any (h : KD B R rm tv pv L w) (hn : L.length ≤ 1000000) (hs : ∀ x ∈ L, x.1.size ≤ 1000000) (b : Bool) :
    Calls Tryd.prog 24 #[.pointer (some ⟨R, 0, none⟩), .bool b] w fun e w' => e = .returned (.int .i64 (kus b L : Int)) ∧ w' = w := by
  obtain ⟨ao, cap, hv⟩ := h.tr.shape
  subst hv
  obtain ⟨ap, capp, hv⟩ := h.pr.shape
  subst hv
  have HKD : Hid (KD B R rm (.slice ao L.length cap) (.slice ap L.length capp) L w) := h
  have c1 := h.c1
  have c2 := h.c2
  have HS : Hid (∀ x ∈ L, x.1.size ≤ 1000000) := hs
  obtain ⟨n, en⟩ : ∃ n, n = L.length := ⟨_, rfl⟩
  have HN : Hid (n = L.length) := en
  rw [← en] at c1 c2 hn
  clear en h hs
  have HT : Hid (∀ k (hk : k < L.length), kus b (L.take (k + 1)) = kus b (L.take k) + (if b = true ∧ (L[k]).2 = 0 then 0 else (L[k]).1.size)) := fun k hk => by
    unfold kus
    rw [List.take_succ_eq_append_getElem hk, List.map_append, List.sum_append]
    simp
  go_enter Tryd.func24, Tryd.ntmps24
  go_wp2
  go_loopw [5, 6] (fun u v wr => ∃ k m : Nat, k ≤ n ∧ m ≤ k * 1000000 ∧ u = .int .i64 (m : Int) ∧ v = .int .i64 (k : Int) ∧ Hid (m = kus b (L.take k)) ∧ wr = w) (fun _ v _ => n - (RowKit.intOf v).toNat)
  case atStart => exact ⟨0, 0, Nat.zero_le _, Nat.zero_le _, rfl, rfl, by unfold Hid; simp [kus], rfl⟩
  case round =>
    obtain ⟨k, m, hk, hm, rfl, rfl, HK, rfl⟩ := hrel
    by_cases hlt : k < n
    · have hki : (k : Int) < (n : Int) := by omega
      have hkl : k < L.length := by rw [← HN.out]; exact hlt
      obtain ⟨g, cap', hv, c3⟩ := HKD.out.t k hkl
      cases hv
      obtain ⟨g2, cap2, hv, c4⟩ := HKD.out.p k hkl
      cases hv
      obtain ⟨k1, hk1⟩ : ∃ k1, k1 = k + 1 := ⟨_, rfl⟩
      have ek1 : (k : Int) + 1 = (k1 : Int) := by omega
      have ek2 : IntKind.i64.wrap (k1 : Int) = (k1 : Int) := by rw [IntKind.wrap_i64]; omega
      have hT := HT.out k hkl
      have hz := HS.out _ (List.getElem_mem hkl)
      rw [← hk1] at hT
      generalize (L[k]).1 = x at c3 hT hz
      generalize (L[k]).2 = q at c4 hT
      obtain ⟨m1, hm1⟩ : ∃ m1, m1 = m + x.size := ⟨_, rfl⟩
      have e1 : (m : Int) + (x.size : Int) = (m1 : Int) := by omega
      have e2 : IntKind.i64.wrap (m1 : Int) = (m1 : Int) := by rw [IntKind.wrap_i64]; omega
      have HQ : Hid (k1 ≤ n ∧ (b = true → q = 0 → m = kus b (L.take k1)) ∧ (¬ (b = true ∧ q = 0) → m1 = kus b (L.take k1)) ∧ m ≤ k1 * 1000000 ∧ m1 ≤ k1 * 1000000 ∧ n - k1 < n - k) := ⟨by omega, fun h1 h2 => by rw [hT, if_pos ⟨h1, h2⟩, HK.out, Nat.add_zero], fun h1 => by rw [hT, if_neg h1, hm1, HK.out], by rw [hk1]; exact Nat.le_trans hm (Nat.mul_le_mul_right _ (Nat.le_succ k)), by rw [hk1, hm1, Nat.succ_mul]; exact Nat.add_le_add hm hz, by omega⟩
      clear hT hz hk1 hm1 hm hn
      cases b with
      | false =>
        go_wp2
        exact ⟨⟨k1, m1, HQ.out.1, HQ.out.2.2.2.2.1, rfl, rfl, HQ.out.2.2.1 (by simp), trivial⟩, HQ.out.2.2.2.2.2⟩
      | true =>
        by_cases hq : q = 0
        · have hqi : ¬ (0 : Int) < (q : Int) := by omega
          have HQ1 : Hid (m = kus true (L.take k1)) := HQ.out.2.1 rfl hq
          clear hq
          go_wp2
          exact ⟨⟨k1, m, HQ.out.1, HQ.out.2.2.2.1, rfl, rfl, HQ1, trivial⟩, HQ.out.2.2.2.2.2⟩
        · have hqi : (0 : Int) < (q : Int) := by omega
          have HQ1 : Hid (m1 = kus true (L.take k1)) := HQ.out.2.2.1 (fun h => hq h.2)
          clear hq
          go_wp2
          exact ⟨⟨k1, m1, HQ.out.1, HQ.out.2.2.2.2.1, rfl, rfl, HQ1, trivial⟩, HQ.out.2.2.2.2.2⟩
    · have hkn : k = n := by omega
      subst hkn
      have HF : Hid (m = kus b L) := by
        unfold Hid
        rw [HK.out, HN.out, List.take_length]
      have hx : ¬ (k : Int) < (k : Int) := by omega
      go_wp2
      go_ret
      exact ⟨by rw [← HF.out]; rfl, rfl⟩
end
end Go.Proofs.YtoceglbdnbnjpaaDoor
