/- A book of leases: the names, rising; the workers, rising. -/
import Derived.Test.YtocahjnibdgmoaaLeA
namespace Go.Proofs.Ytocahjnibdgmoaa
open Go.RowKit Go.Shelf Go.Maps Go.WideMaps Go.Sort

theorem row_shape {w : World} {base : Nat} {e : TypeId} {size : Nat} {v : Value} {n : Nat} {xs : List Value} (h : w.ownsRow base e size v n xs) : ∃ ao cap, v = .slice ao n cap := by
  rcases h.2 with ⟨rfl, rfl⟩ | ⟨g, cap, cur, rfl, _⟩
  · exact ⟨_, _, rfl⟩
  · exact ⟨_, _, rfl⟩

section
variable {B Bk M : Nat} {a b c nw : Int} {E E1 E2 : List Ent} {x : Ent} {w : World}

theorem namesE (E : List Ent) : strKeys (DataW.map (E.map eD)) = E.map Ent.nm := by
  show (E.map eD).map (fun p => strOf p.1) = _
  rw [List.map_map]
  rfl
theorem sorted_names (hup : upE E) {ss : List (List UInt8)} (hp : ss.Perm (strKeys (DataW.map (E.map eD)))) : ss.mergeSort (fun x y => decide (x ≤ y)) = E.map Ent.nm := by
  rw [namesE] at hp
  have := mergeSort_of_perm hp
  refine this.trans ?_
  exact List.mergeSort_of_pairwise (List.pairwise_map.2 (hup.imp fun h => by simpa [leB] using h))

theorem keysE (h : BS B Bk M a b c nw E w) (hup : upE E) (hlen : E.length ≤ 1000) :
    Calls Try.prog 41 #[.func (.func 52) #[] #[.pointer (some ⟨w.heap.size, 0, none⟩)]] (w.alloc (.cells #[.map (some M)] 56)) fun e w' => ∃ ao cap, e = .returned (.slice ao E.length cap) ∧ w'.ownsRow w.heap.size 9 1 (.slice ao E.length cap) E.length ((E.map Ent.nm).map encStr) ∧ Below w.heap.size w w' := by
  have hz : Maps.size (DataW.map (E.map eD)) = E.length := by show (E.map eD).length = _; simp
  refine (sortedS_any M _ _ ptrE w h.own (by rw [hz]; unfold maxLen; omega) (by rw [hz]; omega)).mono ?_
  rintro e w' ⟨v, ss, rfl, hp, hrow, _, hb⟩
  rw [sorted_names hup hp] at hrow
  have hl : ss.length = E.length := by have := hp.length_eq; rw [namesE, List.length_map] at this; exact this
  rw [hl] at hrow
  obtain ⟨ao, cap, rfl⟩ := row_shape hrow
  have hA : Below w.heap.size w (w.alloc (.cells #[.map (some M)] 56)) := (Below.refl _ w).alloc (Nat.le_refl _) _
  exact ⟨ao, cap, rfl, own_low hrow hA.size, hA.trans (hb.mono hA.size)⟩

theorem intsT (l : List (Int × Int)) : intKeys (DataW.map (l.map tD)) = l.map Prod.fst := by
  unfold intKeys
  simp only [List.map_map]
  rfl
theorem sorted_ints {l : List (Int × Int)} (hup : l.Pairwise fun p q => p.1 < q.1) {ss : List Int} (hp : ss.Perm (intKeys (DataW.map (l.map tD)))) : ss.mergeSort (fun x y => decide (x ≤ y)) = l.map Prod.fst := by
  rw [intsT] at hp
  have tr : ∀ a b c : Int, decide (a ≤ b) = true → decide (b ≤ c) = true → decide (a ≤ c) = true := fun a b c h1 h2 => by simp only [decide_eq_true_eq] at *; omega
  have to : ∀ a b : Int, (decide (a ≤ b) || decide (b ≤ a)) = true := fun a b => by simp only [Bool.or_eq_true, decide_eq_true_eq]; omega
  refine List.Perm.eq_of_pairwise (le := fun a b => decide (a ≤ b) = true) (fun a b _ _ h1 h2 => ?_) (List.pairwise_mergeSort tr to ss) (List.pairwise_map.2 (hup.imp fun h => by simp only [decide_eq_true_eq]; omega)) ((List.mergeSort_perm ss _).trans hp)
  simp only [decide_eq_true_eq] at h1 h2
  omega

theorem keysT (h : JobAt B w x) (hlen : x.ts.length ≤ 1000) (hup : x.ts.Pairwise fun p q => p.1 < q.1) :
    Calls Try.prog 43 #[.func (.func 55) #[] #[.pointer (some ⟨w.heap.size, 0, none⟩)]] (w.alloc (.cells #[.map x.tb] 61)) fun e w' => ∃ ao cap, e = .returned (.slice ao x.ts.length cap) ∧ w'.ownsRow w.heap.size 3 1 (.slice ao x.ts.length cap) x.ts.length ((x.ts.map Prod.fst).map encZ) ∧ Below w.heap.size w w' := by
  have hA : ∀ o, Below w.heap.size w (w.alloc (.cells #[.map o] 61)) := fun o => (Below.refl _ w).alloc (Nat.le_refl _) _
  rcases h.till with ⟨h1, h2⟩ | ⟨tb, h1, h2, h3⟩
  · rw [h1, h2]
    refine (sortedI_nil w).mono ?_
    rintro e w' ⟨v, ss, rfl, rfl, hrow, _, hb⟩
    obtain ⟨ao, cap, rfl⟩ := row_shape hrow
    refine ⟨ao, cap, rfl, own_low ?_ (hA none).size, (hA none).trans (hb.mono (hA none).size)⟩
    simpa using hrow
  · rw [h1]
    have hz : Maps.size (DataW.map (x.ts.map tD)) = x.ts.length := size_D _
    refine (sortedI_any tb _ _ _ w h3 (by rw [hz]; unfold maxLen; omega) (by rw [hz]; omega)).mono ?_
    rintro e w' ⟨v, ss, rfl, hp, hrow, _, hb⟩
    rw [sorted_ints hup hp] at hrow
    have hl : ss.length = x.ts.length := by have := hp.length_eq; rw [intsT, List.length_map] at this; exact this
    rw [hl] at hrow
    obtain ⟨ao, cap, rfl⟩ := row_shape hrow
    exact ⟨ao, cap, rfl, own_low hrow (hA (some tb)).size, (hA (some tb)).trans (hb.mono (hA (some tb)).size)⟩

set_option maxRecDepth 100000 in
/-- What is under a key. -/
theorem JobAt.at (h : JobAt B w x) (hup : x.ts.Pairwise fun p q => p.1 < q.1) {q : Int × Int} (hq : q ∈ x.ts) (hk : (Lit.int .i64 q.1).wf = true) : (Instr.lookup 61 (.map x.tb) (.int .i64 q.1) false).run Try.prog w = .ok (.int .i64 q.2) w := by
  rcases h.till with ⟨h1, h2⟩ | ⟨tb, h1, h2, h3⟩
  · rw [h2] at hq; cases hq
  · rw [h1]
    obtain ⟨v, ps, hrun, hv⟩ := h3.lookup lawI Try.underlying61 (zeroI w) (zd := .lit (.int .i64 0)) (zp := []) (plainElem_int Try.underlying3 (by decide)) (keyOf_int_mk Try.underlying3 hk)
    have hpw2 : (x.ts.map tD).Pairwise (fun p q => p.1 ≠ q.1) := List.pairwise_map.2 (hup.imp fun h e => by injection e with _ e; omega)
    rw [WideAt.atKey_mem (d := DataW.lit (.int .i64 q.2)) _ (by exact trivial) hpw2 (List.mem_map.2 ⟨q, hq, rfl⟩)] at hv
    obtain ⟨a, rfl, hz, _⟩ := plainElem_int_inv Try.underlying3 hv
    injection hz with hz _
    injection hz with hz
    injection hz with _ hz
    rw [hz]
    exact hrun
end
end Go.Proofs.Ytocahjnibdgmoaa
