/- Circle of targets, told by what is plain. -/
import Derived.Test.YtankaiopdbcndaaGreatDoorGq6M
import Derived.Test.YtankaiopdbcndaaGreatDoorTc7
namespace Go.Proofs.YtankaiopdbcndaaGreatDoor
open Go.RowKit Go.Shelf Go.Maps Go.WideMaps
/-- What Circle tells. -/
def CcA (L : List Tg) (out : List ByteArray) (code : Int) : Prop := (ckN L ≠ 0 ∧ out = [] ∧ code = ckN L) ∨ (ckN L = 0 ∧ code = 0 ∧ ((Cyc (ndT (nfL L)) (out.map tl) ∧ ∀ y ∈ out, tl y ∈ L.map tnm) ∨ (out = [] ∧ ∀ k ∈ L.map tnm, ¬ Rp (ndT (nfL L)) k k)))

set_option maxHeartbeats 4000000 in
set_option maxRecDepth 100000 in
theorem Circle_tw (ao : Option Addr) (cap : Nat) (L : List Tg) (w : World) (hl : IsTg w ao L) (hn : L.length ≤ 1048576) (hs : ∀ t ∈ L, ∀ y ∈ t.ns, y.size ≤ maxLen) (hk : ∀ t ∈ L, (tnm t).length ≤ maxLen) :
    Calls Tryz.prog 16 #[.slice ao L.length cap] w (TwP (CcA L) w) := by
  have H1 := needsOf_any ao cap L w hl hn hs
  unfold NdP at H1
  by_cases h0 : ckN L = 0
  · have hN := ckN_ok.1 h0
    have HC : Hid (∀ M n w1, w1.ownsMap Tryz.prog 9 slE M n (ndD L) → n ≤ 60 → Below w.heap.size w w1 → Calls Tryz.prog 33 #[.map (some M)] w1 fun e w' => ∃ fv, e = .returned fv ∧ Hid (TwP (CcA L) w (.returned (.tuple #[fv, .int .i64 0])) w')) := fun M n w1 g1 g2 g3 => (circle_any M n (ndD L) (nfL L) (lfL L) (L.map tnm) w1 (lt_of g1 (fun t ht => ((hl.tx t ht).2.1).below g3 (Nat.le_refl _)) hs) g2 (by rw [List.length_map]; exact hN.len) hN.nod (fun k => has_mem.symm) hN.cl (fun k hk2 => by
      obtain ⟨t, ht, rfl⟩ := List.mem_map.1 hk2
      exact hk t ht)).mono fun e w' ⟨fv, c, q1, q2, q3, q4⟩ => ⟨fv, q1, c, 0, fv, .inr ⟨h0, rfl, q4⟩, rfl, row_low q2 g3.size, g3.trans (q3.mono g3.size)⟩
    rw [h0] at H1
    clear hl hn hs hk hN
    generalize L.length = ln at *
    go_enter Tryz.func16, Tryz.ntmps16
    go_wp2_with (first
      | (go_at_call 29; refine H1.mono ?_; rintro e w1 ⟨mo, rfl, g1, g2, g3⟩; obtain ⟨M, n, rfl, g4, g5, g6⟩ := g2 rfl; have H2 := HC.out M n w1 g6 g5 g3; clear g1 g2 g3 g4 g5 g6 H1 HC)
      | (go_at_call 33; refine H2.mono ?_; rintro e w2 ⟨fv, rfl, H3⟩)
      | go_in)
    go_ret2
    exact H3.out
  · have HZ : Hid (∀ w', Below w.heap.size w w' → TwP (CcA L) w (.returned (.tuple #[.slice none 0 0, .int .i64 (ckN L)])) w') := fun w' hb => TwP.bad hb (.inl ⟨h0, rfl, rfl⟩)
    generalize ckN L = c at *
    have hc1 : ¬(c : Int) = 0 := h0
    clear h0 hl hn hs hk
    generalize L.length = ln at *
    go_enter Tryz.func16, Tryz.ntmps16
    go_wp2_with (first
      | (go_at_call 29; refine H1.mono ?_; rintro e w1 ⟨mo, rfl, g1, g2, g3⟩; have HB : Hid (Below w.heap.size w w1) := g3; clear g1 g2 g3 H1)
      | go_in)
    go_ret2
    exact HZ.out _ HB.out
theorem cc_len {L : List Tg} {out : List ByteArray} {c : Int} (h : CcA L out c) (hl : L.length ≤ 1048576) : out.length ≤ 1048576 := by
  rcases h with ⟨_, rfl, _⟩ | ⟨_, _, ⟨h1, h2⟩ | ⟨rfl, _⟩⟩
  · exact Nat.zero_le _
  · have := h1.nod.length_le_of_subset (l₂ := L.map tnm) fun k hk => by
      obtain ⟨y, hy, rfl⟩ := List.mem_map.1 hk
      exact h2 y hy
    rw [List.length_map, List.length_map] at this
    omega
  · exact Nat.zero_le _
theorem Fine.circle {w : World} {ao : Option Addr} {L : List Tg} (h : Fine w ao L) (n cap : Nat) (hn : n = L.length) (W : World) (hb : Below w.heap.size w W) : Calls Tryz.prog 16 #[.slice ao n cap] W fun e w' => ∃ v code, e = .returned (.tuple #[v, .int .i64 code]) ∧ Hid (∃ out, CcA L out code ∧ TxIn w' v out ∧ Below W.heap.size W w' ∧ ∀ va vn vc, v = .slice va vn vc → out.length ≤ vc) := by
  subst hn
  refine (Circle_tw ao cap L W (h.below hb).is h.len h.sz h.nm).mono fun e w' ⟨out, code, v, q1, q2, q3, q4⟩ => ⟨v, code, q2, out, q1, row_tx q3 (cc_len q1 h.len), q4, fun va vn vc e => ?_⟩
  rcases q3.2 with ⟨_, h1⟩ | ⟨g, c, cur, h1, _, _, h2, _⟩
  · omega
  · rw [h1] at e
    injection e with _ _ e3
    omega
end Go.Proofs.YtankaiopdbcndaaGreatDoor
