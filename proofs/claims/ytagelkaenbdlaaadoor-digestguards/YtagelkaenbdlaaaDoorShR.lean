/- The document's own Sides and ShowsOf. -/
import Derived.Test.YtagelkaenbdlaaaDoorShP
namespace Go.Proofs.YtagelkaenbdlaaaDoor
open Go.RowKit

theorem infBo : (Tryd.prog.info? 4).map (fun i => (i.zero, i.size, i.bytes)) = some (some (.bool false), 1, 1) := by kernel_rfl
def bos (l : List Bool) : List Value := l.map Value.bool
theorem bos_snoc (l : List Bool) (x : Bool) : bos (l ++ [x]) = bos l ++ [.bool x] := by simp [bos]
theorem new_bool (W : World) (x : Bool) : ∀ (j : Nat) (u : Value), [Value.bool x][j]? = some u → (W.alloc (.cells #[.bool x] 4)).cell? ((⟨W.heap.size, 0, none⟩ : Addr).add j) = some u := by
  intro j u hj
  match j, hj with
  | 0, hj =>
    simp at hj
    subst hj
    exact al_at W _ _ _ 0 _ rfl rfl

set_option maxHeartbeats 4000000 in
set_option maxRecDepth 100000 in
theorem Sides_any (i n : Nat) (w : World) (hn : n ≤ 2000) (h0 : 0 < n) (hi : i < n) :
    Calls Tryd.prog 53 #[.int .i64 i, .int .i64 n] w fun e w' => ∃ v, e = .returned v ∧ w'.ownsRow w.heap.size 4 1 v (sidesL i n).length (bos (sidesL i n)) ∧ Below w.heap.size w w' := by
  obtain ⟨b0, hbi, hz0, hz1, hz2⟩ := info_p infBo
  have hlen := sidesL_len _ i n (Nat.le_refl _) h0
  obtain ⟨L, hL⟩ : ∃ L, L = sidesL i n := ⟨_, rfl⟩
  rw [← hL]
  rw [← hL] at hlen
  have HT : Hid (L = sidesL i n) := hL
  clear hL
  go_enter Tryd.func53, Tryd.ntmps53
  go_wp2
  go_loopw [0, 1, 5] (fun a b s wr => ∃ (i' n' : Nat) (M : List Bool), a = .int .i64 i' ∧ b = .int .i64 n' ∧ i' < n' ∧ n' ≤ 2000 ∧ Hid (L = M ++ sidesL i' n') ∧ Hid (wr.ownsRow w.heap.size 4 1 s M.length (bos M) ∧ Below w.heap.size w wr)) (fun _ b _ _ => (intOf b).toNat)
  case atStart => exact ⟨i, n, [], rfl, rfl, hi, hn, HT.out, ⟨World.ownsRow_nil _ _ _ _, Below.refl _ _⟩⟩
  case round =>
    obtain ⟨i', n', M, rfl, rfl, hi', hn', HK, HV⟩ := hrel
    clear HT hi h0
    by_cases h1 : n' ≤ 1
    · have h1i : (n' : Int) ≤ 1 := by omega
      have e : L = M := by have := HK.out; rw [sidesL_one i' n' h1] at this; simpa using this
      subst e
      go_wp2
      go_ret
      exact ⟨_, rfl, HV.out⟩
    · have hl := side_lt n' (by omega)
      have hp := side_pos n'
      have h1i : (1 : Int) < (n' : Int) := by omega
      have hMl : M.length + 1 ≤ 2000 := by
        have := congrArg List.length HK.out
        by_cases h : i' < side n'
        · rw [sidesL_lo i' n' (by omega) h, List.length_append, List.length_cons] at this; omega
        · rw [sidesL_hi i' n' (by omega) (by omega), List.length_append, List.length_cons] at this; omega
      have HF : Hid (∀ W, Calls Tryd.prog 45 #[.int .i64 n'] W fun e w' => e = .returned (.int .i64 (side n' : Nat)) ∧ w' = W) := fun W => Half_any n' W (by omega)
      have hlo : i' < side n' → Hid (L = (M ++ [false]) ++ sidesL i' (side n')) := fun h => by
        show _ = _
        rw [HK.out, sidesL_lo i' n' (by omega) h, List.append_assoc]; rfl
      have hhi : side n' ≤ i' → Hid (L = (M ++ [true]) ++ sidesL (i' - side n') (n' - side n')) := fun h => by
        show _ = _
        rw [HK.out, sidesL_hi i' n' (by omega) h, List.append_assoc]; rfl
      generalize side n' = d at hl hp HF hlo hhi
      have hml : ∀ b, (M ++ [b]).length = M.length + 1 := fun b => by simp
      by_cases hd : i' < d
      · have HL := hlo hd
        have hdi : (i' : Int) < (d : Int) := by omega
        have hdg : decide (d ≤ i') = false := by simp; omega
        clear hlo hhi HK
        go_wp2_with fail
        refine (HF.out _).mono ?_
        rintro e w' ⟨rfl, rfl⟩
        go_wp2_with (at_builtin; refine wpList_append_own _ rfl _ _ 64 rfl w.heap.size 4 b0 (.bool false) 1 1 Tryd.underlying64 hbi hz0 hz1 hz2 rfl (by decide) _ _ _ rfl (HV.out.1.alloc _) ⟨_, 0, none⟩ 1 1 [.bool false] rfl rfl ?c1 ?c2 ?c3 ?c4 ?c5 ?_)
        case c1 => exact new_bool _ false
        case c2 => intro u hu; simp at hu; subst hu; rfl
        case c3 => unfold maxLen; omega
        case c4 => omega
        case c5 => rw [World.size_alloc]; have := HV.out.2.size; omega
        intro v' w4 hown4 hg4 _
        have HV4 : Hid (w4.ownsRow w.heap.size 4 1 v' (M ++ [false]).length (bos (M ++ [false])) ∧ Below w.heap.size w w4) := ⟨by rw [bos_snoc, hml]; exact hown4, (HV.out.2.alloc HV.out.2.size _).grown hg4 (by rw [World.size_alloc]; have := HV.out.2.size; omega) (fun j hj => (HV.out.1.lt j hj).1)⟩
        clear hown4 hg4
        go_wp2
        refine ⟨⟨i', d, M ++ [false], rfl, rfl, hd, by omega, HL, HV4⟩, by simp [intOf]; omega⟩
      · have HL := hhi (by omega)
        have hdi : (d : Int) ≤ (i' : Int) := by omega
        clear hlo hhi HK
        go_wp2_with fail
        refine (HF.out _).mono ?_
        rintro e w' ⟨rfl, rfl⟩
        go_wp2_with (at_builtin; refine wpList_append_own _ rfl _ _ 64 rfl w.heap.size 4 b0 (.bool false) 1 1 Tryd.underlying64 hbi hz0 hz1 hz2 rfl (by decide) _ _ _ rfl (HV.out.1.alloc _) ⟨_, 0, none⟩ 1 1 [.bool true] rfl rfl ?c1 ?c2 ?c3 ?c4 ?c5 ?_)
        case c1 => exact new_bool _ true
        case c2 => intro u hu; simp at hu; subst hu; rfl
        case c3 => unfold maxLen; omega
        case c4 => omega
        case c5 => rw [World.size_alloc]; have := HV.out.2.size; omega
        intro v' w4 hown4 hg4 _
        have HV4 : Hid (w4.ownsRow w.heap.size 4 1 v' (M ++ [true]).length (bos (M ++ [true])) ∧ Below w.heap.size w w4) := ⟨by rw [bos_snoc, hml]; exact hown4, (HV.out.2.alloc HV.out.2.size _).grown hg4 (by rw [World.size_alloc]; have := HV.out.2.size; omega) (fun j hj => (HV.out.1.lt j hj).1)⟩
        clear hown4 hg4
        go_wp2
        refine ⟨⟨i' - d, n' - d, M ++ [true], by go_num, by go_num, by omega, by omega, HL, HV4⟩, by simp [intOf]; omega⟩

/-- Bools that lie one behind the other. -/
theorem bos_cell {w : World} {B g cap n : Nat} {xs : List Bool} (h : w.ownsRow B 4 1 (.slice (some ⟨g, 0, none⟩) n cap) n (bos xs)) (hn : xs.length = n) (j : Nat) (hj : j < xs.length) : w.cell? ⟨g, j, none⟩ = some (.bool xs[j]) := by
  have e : (bos xs)[j]? = some (.bool xs[j]) := by simp [bos, hj]
  exact (h.cellAt j (by omega)).trans e
theorem rev_at (xs : List Bool) (k : Nat) (h : k < xs.length) : xs.reverse[k]'(by simpa using h) = xs[xs.length - 1 - k]'(by omega) := by
  rw [List.getElem_reverse]

set_option maxHeartbeats 4000000 in
set_option maxRecDepth 100000 in
theorem ShowsOf_any (r t : ByteArray) (i n : Nat) (v : Value) (ps : List ByteArray) (w : World) (hi : i < n) (hn : n ≤ 2000) (ht : t.size ≤ 100000) (h : Tx w v ps) (hd : ∀ p ∈ ps, digOk p = true) :
    Calls Tryd.prog 21 #[.string r, .string t, .int .i64 i, .int .i64 n, v] w fun e w' => e = .returned (.bool (decide (ps.length = (sidesL i n).length) && ((shownB t i n ps).toList == r.toList))) ∧ Below w.heap.size w w' := by
  have HS : Hid (Calls Tryd.prog 53 #[.int .i64 i, .int .i64 n] w fun e w' => ∃ v, e = .returned v ∧ w'.ownsRow w.heap.size 4 1 v (sidesL i n).length (bos (sidesL i n)) ∧ Below w.heap.size w w') := Sides_any i n w hn (by omega) hi
  have HLF : Hid (∀ W, Calls Tryd.prog 43 #[.string t] W fun e w' => e = .returned (.string (leafB t)) ∧ Below W.heap.size W w') := fun W => LeafOf_any t W ht
  have hlen := sidesL_len _ i n (Nat.le_refl _) (by omega)
  have hll : (ps.length : Int) ≤ 4611686018427387904 := by have := h.1; omega
  have hsh : shownB t i n ps = foldU (leafB t) (sidesL i n).reverse ps := rfl
  rw [hsh]
  have HD : Hid (∀ p ∈ ps, digOk p = true) := hd
  have HLD : Hid (digOk (leafB t) = true) := leafB_dig t
  generalize leafB t = lf at HLF HLD
  generalize sidesL i n = L at HS hlen
  have hLl : L.length ≤ 2000 := by omega
  clear hd hsh hlen
  by_cases hlp : ps.length = L.length
  · rw [show decide (ps.length = L.length) = true from by simp [hlp], Bool.true_and]
    have hli2 : (ps.length : Int) ≤ 2000 := by omega
    by_cases hp0 : ps.length = 0
    · have e1 : ps = [] := List.length_eq_zero_iff.1 hp0
      have e2 : L = [] := List.length_eq_zero_iff.1 (by omega)
      subst e1
      subst e2
      obtain ⟨a, cap, rfl⟩ := h.shape
      clear h hi hn ht hlp hll hli2 hLl hp0
      rw [show foldU lf ([] : List Bool).reverse [] = lf from rfl]
      go_enter Tryd.func21, Tryd.ntmps21
      go_wp2_with fail
      refine HS.out.mono ?_
      rintro e w1 ⟨v1, rfl, hown1, hb1⟩
      have B1 : Hid (Below w.heap.size w w1) := hb1
      have hv1 : ∃ a1 c1, v1 = .slice a1 0 c1 := by
        rcases hown1.2 with ⟨rfl, _⟩ | ⟨g1, c1, cur, rfl, _⟩
        · exact ⟨_, _, rfl⟩
        · exact ⟨_, _, rfl⟩
      obtain ⟨a1, c1, rfl⟩ := hv1
      clear hown1 hb1
      go_wp2_with fail
      refine (HLF.out _).mono ?_
      rintro e w2 ⟨rfl, hb2⟩
      have B2 : Hid (Below w.heap.size w w2) := bl_tr B1.out hb2
      clear hb2
      go_wp2
      refine wp_loop_rounds 1 ?_
      rw [rounds_succ]
      go_wp2
      go_ret
      exact ⟨rfl, B2.out⟩
    · rcases h.2 with ⟨rfl, _⟩ | ⟨h0, g, o, cap, rfl, hc, hrow⟩
      · simp at hp0
      · have HR : Hid (Row w g o ps ∧ g < w.heap.size) := ⟨hrow, World.block_lt_of_cell? w ⟨g, o + 0, none⟩ (hrow 0 h0)⟩
        have HEQ : Hid (ps.length = L.length) := hlp
        clear h hrow hlp hi hn ht hp0
        go_enter Tryd.func21, Tryd.ntmps21
        go_wp2_with fail
        refine HS.out.mono ?_
        rintro e w1 ⟨v1, rfl, hown1, hb1⟩
        obtain ⟨g1, c1, hv1, hg1a, hg1b⟩ := hown1.form (by have := HEQ.out; omega)
        subst hv1
        have B1 : Hid (Below w.heap.size w w1 ∧ g1 < w1.heap.size ∧ ∀ j (hj : j < L.length), w1.cell? ⟨g1, j, none⟩ = some (.bool L[j])) := ⟨hb1, hg1b, fun j hj => bos_cell hown1 rfl j hj⟩
        have hll1 : (L.length : Int) ≤ 2000 := by omega
        clear hown1 hb1 hg1a hg1b
        rw [← HEQ.out]
        go_wp2_with fail
        refine (HLF.out _).mono ?_
        rintro e w2 ⟨rfl, hb2⟩
        have B2 : Hid (Below w.heap.size w w2 ∧ Below w1.heap.size w1 w2) := ⟨bl_tr B1.out.1 hb2, hb2⟩
        clear hb2
        go_wp2
        go_loopw [12, 13] (fun a j wr => ∃ (k : Nat) (x : ByteArray), k ≤ ps.length ∧ a = .string x ∧ j = .int .i64 k ∧ Hid (x = foldU lf (L.reverse.take k) (ps.take k) ∧ digOk x = true ∧ Below w.heap.size w wr ∧ Below w1.heap.size w1 wr)) (fun _ j _ => ps.length - (intOf j).toNat)
        case atStart => exact ⟨0, lf, by omega, rfl, rfl, ⟨rfl, HLD.out, B2.out.1, B2.out.2⟩⟩
        case round =>
          obtain ⟨k, x, hk, rfl, rfl, HX⟩ := hrel
          clear B2 HLF HS
          by_cases hlt : k < ps.length
          · have hki : (k : Int) < (ps.length : Int) := by omega
            have cp := (HR.out.1.up HX.out.2.2.1 HR.out.2) k hlt
            have cs : wr.cell? ⟨g1, ps.length - 1 - k, none⟩ = some (.bool (L.reverse[k]'(by rw [List.length_reverse, ← HEQ.out]; exact hlt))) := by
              rw [rev_at L k (by have := HEQ.out; omega)]
              exact ((HX.out.2.2.2.cell (p := ⟨g1, ps.length - 1 - k, none⟩) B1.out.2.1)).trans (by
                have h9 := B1.out.2.2 (ps.length - 1 - k) (by have := HEQ.out; omega)
                rw [h9]
                congr 3
                rw [HEQ.out])
            have HN : Hid (foldU lf (L.reverse.take (k + 1)) (ps.take (k + 1)) = stepB x (L.reverse[k]'(by rw [List.length_reverse, ← HEQ.out]; exact hlt)) ps[k]) := by
              show _ = _
              rw [foldU_take L.reverse ps lf k (by rw [List.length_reverse, ← HEQ.out]; exact hlt) hlt, ← HX.out.1]
            have HPp : Hid (digOk ps[k] = true) := HD.out _ (List.getElem_mem hlt)
            generalize (L.reverse[k]'(by rw [List.length_reverse, ← HEQ.out]; exact hlt)) = sd at cs HN
            generalize ps[k] = p at cp HN HPp
            have t1 : ((ps.length : Int) - 1 - (k : Int)).toNat = ps.length - 1 - k := by omega
            have t2 : (0 : Int) ≤ (ps.length : Int) - 1 - (k : Int) := by omega
            cases sd with
            | true =>
              have HPA : Hid (∀ Y : World, Calls Tryd.prog 27 #[.string p, .string x] Y fun e w' => e = .returned (.string (stepB x true p)) ∧ Below Y.heap.size Y w') := fun Y => PairOf_any p x Y HPp.out HX.out.2.1
              have HSD : Hid (digOk (stepB x true p) = true) := stepB_dig _ _ _
              generalize stepB x true p = y at HN HPA HSD
              go_wp2_with fail
              refine (HPA.out _).mono ?_
              rintro e w3 ⟨rfl, hb3⟩
              have B3 : Hid (Below w.heap.size w w3 ∧ Below w1.heap.size w1 w3) := ⟨bl_tr HX.out.2.2.1 hb3, bl_tr HX.out.2.2.2 hb3⟩
              clear hb3
              go_wp2
              refine ⟨⟨k + 1, y, by omega, rfl, by go_num, ⟨HN.out.symm, HSD.out, B3.out.1, B3.out.2⟩⟩, by simp [intOf]; omega⟩
            | false =>
              have HPA : Hid (∀ Y : World, Calls Tryd.prog 27 #[.string x, .string p] Y fun e w' => e = .returned (.string (stepB x false p)) ∧ Below Y.heap.size Y w') := fun Y => PairOf_any x p Y HX.out.2.1 HPp.out
              have HSD : Hid (digOk (stepB x false p) = true) := stepB_dig _ _ _
              generalize stepB x false p = y at HN HPA HSD
              go_wp2_with fail
              refine (HPA.out _).mono ?_
              rintro e w3 ⟨rfl, hb3⟩
              have B3 : Hid (Below w.heap.size w w3 ∧ Below w1.heap.size w1 w3) := ⟨bl_tr HX.out.2.2.1 hb3, bl_tr HX.out.2.2.2 hb3⟩
              clear hb3
              go_wp2
              refine ⟨⟨k + 1, y, by omega, rfl, by go_num, ⟨HN.out.symm, HSD.out, B3.out.1, B3.out.2⟩⟩, by simp [intOf]; omega⟩
          · obtain rfl : k = ps.length := by omega
            have HE : Hid (foldU lf L.reverse ps = x) := by
              show _ = _
              rw [HX.out.1, List.take_of_length_le (by rw [List.length_reverse, ← HEQ.out]; omega), List.take_length]
            go_wp2
            go_ret
            exact ⟨by rw [HE.out]; rfl, HX.out.2.2.1⟩
  · rw [show decide (ps.length = L.length) = false from by simp [hlp], Bool.false_and]
    have hne : ((L.length : Int) != (ps.length : Int)) = true := by rw [bne_iff_ne]; omega
    obtain ⟨a, cap, rfl⟩ := h.shape
    clear h hi hn ht hlp hll
    go_enter Tryd.func21, Tryd.ntmps21
    go_wp2_with fail
    refine HS.out.mono ?_
    rintro e w1 ⟨v1, rfl, hown1, hb1⟩
    have B1 : Hid (Below w.heap.size w w1) := hb1
    have hv1 : ∃ a1 c1, v1 = .slice a1 L.length c1 := by
      rcases hown1.2 with ⟨rfl, h⟩ | ⟨g1, c1, cur, rfl, _⟩
      · exact ⟨_, _, by rw [h]⟩
      · exact ⟨_, _, rfl⟩
    obtain ⟨a1, c1, rfl⟩ := hv1
    clear hown1 hb1
    go_wp2
    go_ret
    exact ⟨rfl, B1.out⟩
end Go.Proofs.YtagelkaenbdlaaaDoor
