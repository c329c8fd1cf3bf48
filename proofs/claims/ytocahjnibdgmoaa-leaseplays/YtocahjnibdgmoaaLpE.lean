/- The document's book: done. -/
import Derived.Test.YtocahjnibdgmoaaLpB
import Derived.Deep.CutRange
namespace Go.Proofs.Ytocahjnibdgmoaa
open Go.RowKit Go.Shelf Go.Sort

section
variable {B R : Nat} {a b c nw : Int} {nv sv tv av : Value} {d : Db} {P : List Pj} {I : List Nat} {w : World}
set_option maxHeartbeats 4000000 in
set_option maxRecDepth 100000 in
theorem rDone_bad {s : ByteArray} {q now nw2 : Int} {P2 : List Pj} {p : Pj} (hc : Calls Try.prog 19 #[.pointer (some ⟨R, 0, none⟩), .int .i64 now, .int .i64 q] w fun e w' => ∃ v, e = .returned (.tuple #[v, .int .i64 0]) ∧ ∃ I', DQ B R a b c nw2 P2 I' w' ∧ Upd I I' w w') (hpo : PO b P2) (hsm : ∀ d, Sim b P2 d → d.A.length ≤ 1000 ∧ d.N.length ≤ 200) (hf : fndP P2 s.data.toList = some p) (hh : hasT q p.ts = true) :
    Calls Try.prog 17 #[.pointer (some ⟨R, 0, none⟩), .string s, .int .i64 q, .int .i64 now, .bool false] w fun e w' => e = .returned (.int .i64 0) ∧ ∃ I', DQ B R a b c nw2 (setP P2 s.data.toList (doF q false)) I' w' ∧ Upd I I' w w' := by
  have HC : Hid (Calls Try.prog 19 #[.pointer (some ⟨R, 0, none⟩), .int .i64 now, .int .i64 q] w fun e w' => ∃ v, e = .returned (.tuple #[v, .int .i64 0]) ∧ Hid (∃ (i : Nat), Calls Try.prog 34 #[.pointer (some ⟨R, 0, none⟩), .string s, .int .i64 q] w' (fun e w'' => e = .returned (.int .i64 (i : Int)) ∧ w'' = w') ∧ Calls Try.prog 37 #[.pointer (some ⟨R, 0, none⟩), .int .i64 (i : Int)] w' (fun e w'' => ∃ bb, e = .returned (.bool bb) ∧ Hid (∃ I', DQ B R a b c nw2 (setP P2 s.data.toList (doF q false)) I' w'' ∧ Upd I I' w w'')))) := by
    refine hc.mono ?_
    rintro e w' ⟨v, rfl, I', r1, r2⟩
    refine ⟨v, rfl, ?_⟩
    obtain ⟨nv, sv, tv, av, d, x1, rfl, x3, x4⟩ := r1.ex
    obtain ⟨hA, hN⟩ := hsm d x3
    rcases x3.has hpo s.data.toList q with ⟨_, y2⟩ | ⟨i, hi, y1, y2, y3, _⟩
    · rw [y2 p hf] at hh; cases hh
    · have hHas := Has_any x1 (by omega) s q
      rw [y1] at hHas
      have hsp : d.A = d.A.take i ++ d.A[i] :: d.A.drop (i + 1) := by
        conv => lhs; rw [← List.take_append_drop i d.A, List.drop_eq_getElem_cons hi]
      obtain ⟨p2, _, _, hcall⟩ := drop_sim x1 x3 hpo hsp (by omega) (by omega)
      rw [y2, y3, List.length_take, Nat.min_eq_left (by omega)] at hcall
      refine ⟨i, hHas, hcall.mono ?_⟩
      rintro e w'' ⟨rfl, av', d', q1, q2, q3, q4, q5, q6⟩
      rw [doF_off]
      exact ⟨_, rfl, _, ⟨nv, sv, tv, av', d', q1, rfl, q3, q6.trans x4⟩, r2.trans q2⟩
  clear hc hpo hsm hf hh
  go_enter Try.func17, Try.ntmps17
  go_wp2_with (first
    | (go_at_call 19; refine HC.out.mono ?_; rintro e w1 ⟨v, rfl, R2⟩; obtain ⟨i, m1, m2⟩ := R2.out; have HH : Hid (Calls Try.prog 34 #[.pointer (some ⟨R, 0, none⟩), .string s, .int .i64 q] w1 (fun e w'' => e = .returned (.int .i64 (i : Int)) ∧ w'' = w1)) := m1; have HD : Hid (Calls Try.prog 37 #[.pointer (some ⟨R, 0, none⟩), .int .i64 (i : Int)] w1 (fun e w'' => ∃ bb, e = .returned (.bool bb) ∧ Hid (∃ I', DQ B R a b c nw2 (setP P2 s.data.toList (doF q false)) I' w'' ∧ Upd I I' w w''))) := m2; clear m1 m2 R2)
    | (go_at_call 34; refine HH.out.mono ?_; rintro e w'' ⟨rfl, hw⟩; subst w'')
    | (go_at_call 37; refine HD.out.mono ?_; rintro e w3 ⟨bb, rfl, R3⟩)
    | go_in)
  go_ret
  exact ⟨rfl, R3.out⟩

/-- Behind the store of its state. -/
structure DG (B R : Nat) (a b c : Int) (nv sv tv av : Value) (d : Db) (W : World) (v : Value) (k : Nat) (s : List UInt8) (w : World) : Prop where
  row : w.ownsRow W.heap.size 52 3 v ((d.A.take k).filter fun x => decide (x.1 ≠ s)).length (lcs ((d.A.take k).filter fun x => decide (x.1 ≠ s)))
  bel : Below W.heap.size W w

set_option maxHeartbeats 8000000 in
set_option maxRecDepth 100000 in
theorem rDone_good {s : ByteArray} {q now nw2 : Int} {P2 : List Pj} {p : Pj} (hc : Calls Try.prog 19 #[.pointer (some ⟨R, 0, none⟩), .int .i64 now, .int .i64 q] w fun e w' => ∃ v, e = .returned (.tuple #[v, .int .i64 0]) ∧ ∃ I', DQ B R a b c nw2 P2 I' w' ∧ Upd I I' w w') (hpo : PO b P2) (hsm : ∀ d, Sim b P2 d → d.A.length ≤ 1000 ∧ d.N.length ≤ 200) (hf : fndP P2 s.data.toList = some p) (hh : hasT q p.ts = true) :
    Calls Try.prog 17 #[.pointer (some ⟨R, 0, none⟩), .string s, .int .i64 q, .int .i64 now, .bool true] w fun e w' => e = .returned (.int .i64 0) ∧ ∃ I', DQ B R a b c nw2 (setP P2 s.data.toList (doF q true)) I' w' ∧ Upd I I' w w' := by
  have HC : Hid (Calls Try.prog 19 #[.pointer (some ⟨R, 0, none⟩), .int .i64 now, .int .i64 q] w fun e w' => ∃ v, e = .returned (.tuple #[v, .int .i64 0]) ∧ Hid (∃ (i k gs cs ns : Nat) (nv tv av : Value) (d : Db), Calls Try.prog 34 #[.pointer (some ⟨R, 0, none⟩), .string s, .int .i64 q] w' (fun e w'' => e = .returned (.int .i64 (i : Int)) ∧ w'' = w') ∧ (∀ X, X = w'.drew → Calls Try.prog 22 #[.pointer (some ⟨R, 0, none⟩), .string s] X (fun e w'' => e = .returned (.int .i64 (k : Int)) ∧ w'' = X)) ∧ (k : Int) < (ns : Int) ∧ w'.drew.cell? ⟨R, 5, none⟩ = some (.slice (some ⟨gs, 0, none⟩) ns cs) ∧ (∃ u, w'.drew.cell? ⟨gs, k, none⟩ = some (.int .i64 u)) ∧ w'.drew.frozen? ⟨gs, k, none⟩ = false ∧ Hid (DB B R a b c nv (.slice (some ⟨gs, 0, none⟩) ns cs) tv av d (w'.drew.setCell ⟨gs, k, none⟩ (.int .i64 3)) ∧ Upd I (rid R (rws nv (.slice (some ⟨gs, 0, none⟩) ns cs) tv av d)) w (w'.drew.setCell ⟨gs, k, none⟩ (.int .i64 3)) ∧ Sim b (setP P2 s.data.toList (doF q true)) { d with A := d.A.filter fun x => decide (x.1 ≠ s.data.toList) } ∧ d.now = nw2 ∧ d.A.length ≤ 1000))) := by
    refine hc.mono ?_
    rintro e w' ⟨v, rfl, I', r1, r2⟩
    refine ⟨v, rfl, ?_⟩
    obtain ⟨nv, sv, tv, av, d, x1, rfl, x3, x4⟩ := r1.ex
    obtain ⟨hA, hN⟩ := hsm d x3
    rcases x3.has hpo s.data.toList q with ⟨_, y2⟩ | ⟨i, hi, y1, y2, y3, _⟩
    · rw [y2 p hf] at hh; cases hh
    · have hHas := Has_any x1 (by omega) s q
      rw [y1] at hHas
      obtain ⟨k, hk, k1, k2, k3, k4⟩ := x3.idx hf
      have x1d : DB B R a b c nv sv tv av d w'.drew := DS.keep x1 fun _ _ => rfl
      have hAt := At_any x1d (by omega) s
      rw [k2] at hAt
      have hkS : k < d.S.length := by rw [x3.sl]; exact hk
      obtain ⟨gs, cs, hsv, z1, z2, z3, z4⟩ := x1d.setS k 3 hkS
      subst hsv
      refine ⟨i, k, gs, cs, d.S.length, nv, tv, av, { d with S := d.S.set k 3 }, hHas, fun X hX => by rw [hX]; exact hAt, by omega, x1d.c5, ⟨_, z1⟩, z2, z3, (⟨r2.os, r2.tape, r2.output, r2.size, r2.block, r2.new⟩ : Upd I _ w w'.drew).trans z4, x3.good hf hk k1 k4 q d.now, x4, hA⟩
  obtain ⟨i0, hi0, hz0, hz1, hz2⟩ := info_parts infL
  clear hc hpo hsm hf hh
  go_enter Try.func17, Try.ntmps17
  go_wp2_with (first
    | (go_at_call 19; refine HC.out.mono ?_; rintro e w1 ⟨v, rfl, R2⟩; obtain ⟨i, k, gs, cs, ns, nv, tv, av, d, m1, m2, m3, m4, ⟨u, m5⟩, m6, m7⟩ := R2.out; have HH : Hid (Calls Try.prog 34 #[.pointer (some ⟨R, 0, none⟩), .string s, .int .i64 q] w1 (fun e w'' => e = .returned (.int .i64 (i : Int)) ∧ w'' = w1)) := m1; have HAt : Hid (∀ X, X = w1.drew → Calls Try.prog 22 #[.pointer (some ⟨R, 0, none⟩), .string s] X (fun e w'' => e = .returned (.int .i64 (k : Int)) ∧ w'' = X)) := m2; clear m1 m2 R2)
    | (go_at_call 34; refine HH.out.mono ?_; rintro e w'' ⟨rfl, hw⟩; subst w'')
    | go_in)
  go_cut [10] from 37 (fun v10 wx => v10 = .int .i64 0 ∧ wx = w1.drew.setCell ⟨gs, k, none⟩ (.int .i64 3))
  case first =>
    go_region_with (go_at_call 22; refine (HAt.out w1.drew rfl).mono ?_; rintro e w'' ⟨rfl, hw⟩; subst w'')
    all_goals
      go_wp2_with fail
      go_meet
      case rel => exact ⟨rfl, rfl⟩
  case rest =>
    obtain ⟨rfl, hwc⟩ := hcut
    rw [← hwc] at m7
    clear m4 m5 m6 hwc HAt HC HH m3
    have H7 : Hid (DB B R a b c nv (.slice (some ⟨gs, 0, none⟩) ns cs) tv av d wc ∧ Upd I (rid R (rws nv (.slice (some ⟨gs, 0, none⟩) ns cs) tv av d)) w wc ∧ Sim b (setP P2 s.data.toList (doF q true)) { d with A := d.A.filter fun x => decide (x.1 ≠ s.data.toList) } ∧ d.now = nw2 ∧ d.A.length ≤ 1000) := m7
    have c7 := m7.out.1.c7
    have hrow := m7.out.1.ar
    obtain ⟨ao, cap, hv⟩ := hrow.shape
    subst hv
    have HR : Hid (RowL wc B 52 3 (.slice ao d.A.length cap) d.A.length (lcs d.A)) := hrow
    obtain ⟨n, hn⟩ : ∃ n, n = d.A.length := ⟨_, rfl⟩
    have HN : Hid (n = d.A.length ∧ n ≤ 1000) := ⟨hn, by rw [hn]; exact m7.out.2.2.2.2⟩
    rw [← hn] at c7
    clear hrow m7 hn
    go_wp2
    go_loopw [14, 15] (fun v iv wr => ∃ k : Nat, k ≤ n ∧ iv = .int .i64 (k : Int) ∧ Hid (DG B R a b c nv (.slice (some ⟨gs, 0, none⟩) ns cs) tv (.slice ao d.A.length cap) d wc v k s.data.toList wr)) (fun _ iv _ => n - (RowKit.intOf iv).toNat)
    case atStart => exact ⟨0, Nat.zero_le _, rfl, World.ownsRow_nil _ _ _ _, Below.refl _ _⟩
    case round =>
      obtain ⟨j, hj, rfl, HD⟩ := hrel
      have hRl : R < wc.heap.size := (DS.lt H7.out.1 R List.mem_cons_self).2
      have c7' : wr.cell? ⟨R, 7, none⟩ = some (.slice ao n cap) := (HD.out.bel.cell (p := ⟨R, 7, none⟩) hRl).trans c7
      by_cases hlt : j < n
      · have hji : (j : Int) < (n : Int) := by omega
        have hjl : j < d.A.length := by have := HN.out.1; omega
        obtain ⟨g, cap', hv, e1, e2, e3⟩ := row_l HR.out j hjl
        cases hv
        have hgl : g < wc.heap.size := World.block_lt_of_cell? wc _ e1
        have e1' := (HD.out.bel.cell (p := ⟨g, j * 3, none⟩) hgl).trans e1
        have e2' := (HD.out.bel.cell (p := ⟨g, j * 3 + 1, none⟩) hgl).trans e2
        have e3' := (HD.out.bel.cell (p := ⟨g, j * 3 + 2, none⟩) hgl).trans e3
        obtain ⟨j1, hj1⟩ : ∃ j1, j1 = j + 1 := ⟨_, rfl⟩
        have ej1 : (j : Int) + 1 = (j1 : Int) := by omega
        have ej2 : IntKind.i64.wrap (j1 : Int) = (j1 : Int) := by rw [IntKind.wrap_i64]; have := HN.out.2; omega
        have hq := eqL (d.A[j]).1 s
        have hnx : (d.A.take j1).filter (fun x => decide (x.1 ≠ s.data.toList)) = (d.A.take j).filter (fun x => decide (x.1 ≠ s.data.toList)) ++ if (d.A[j]).1 = s.data.toList then [] else [d.A[j]] := by
          rw [hj1, List.take_succ_eq_append_getElem hjl, List.filter_append]
          congr 1
          by_cases e : (d.A[j]).1 = s.data.toList
          · simp [e]
          · simp [e]
        generalize d.A[j] = x at *
        obtain ⟨nm, wk, tl⟩ := x
        simp only at e1' e2' e3' hq hnx
        obtain ⟨z, hz⟩ : ∃ z : ByteArray, z = ⟨nm.toArray⟩ := ⟨_, rfl⟩
        have HZ : Hid (encStr nm = .string z) := by rw [hz]; rfl
        rw [← hz] at e1' hq
        by_cases he : nm = s.data.toList
        · rw [decide_eq_true he] at hq
          rw [if_pos he, List.append_nil] at hnx
          have HF : Hid (j1 = j + 1 ∧ DG B R a b c nv (.slice (some ⟨gs, 0, none⟩) ns cs) tv (.slice (some ⟨g, 0, none⟩) d.A.length cap) d wc u14 j1 s.data.toList wr) := ⟨hj1, by rw [hnx]; exact HD.out.row, HD.out.bel⟩
          clear e1 e2 e3 hj1 hnx he hz hgl hjl
          go_wp2
          refine ⟨⟨j1, by have := HF.out.1; omega, rfl, HF.out.2⟩, ?_⟩
          have := HF.out.1
          simp [RowKit.intOf]; omega
        · rw [decide_eq_false he] at hq
          rw [if_neg he] at hnx
          obtain ⟨L, hL⟩ : ∃ L, L = (d.A.take j).filter (fun x => decide (x.1 ≠ s.data.toList)) := ⟨_, rfl⟩
          have hLl : L.length ≤ 1000 := by
            rw [hL]
            exact Nat.le_trans (List.length_filter_le _ _) (by rw [List.length_take]; have := HN.out; omega)
          have hro := HD.out.row
          rw [← hL] at hro hnx
          have HL : Hid ((d.A.take j1).filter (fun x => decide (x.1 ≠ s.data.toList)) = L ++ [(nm, wk, tl)] ∧ j1 = j + 1 ∧ wr.ownsRow wc.heap.size 52 3 u14 L.length (lcs L)) := ⟨hnx, hj1, hro⟩
          have q1 : L.length + 1 ≤ maxLen := by unfold maxLen; omega
          have q2 : (L.length + 1) * 32 ≤ 140737488355328 := by omega
          have q3 : wc.heap.size ≤ (wr.alloc (.cells #[.string z, .int .i64 wk, .int .i64 tl] 52)).heap.size := by have := HD.out.bel.size; rw [World.size_alloc]; omega
          clear e1 e2 e3 hj1 hnx he hz hgl hjl hro hLl hL
          go_wp2_with (first
            | (at_builtin; refine wpList_append_lies _ rfl _ _ 34 rfl wc.heap.size 52 i0 (.agg #[.string ⟨#[]⟩, .int .i64 0, .int .i64 0]) 3 32 Try.underlying34 hi0 hz0 hz1 hz2 rfl (by decide) _ L.length (lcs L) rfl (HL.out.2.2.alloc _) ⟨wr.heap.size, 0, none⟩ 1 1 [.string z, .int .i64 wk, .int .i64 tl] rfl rfl (new3 _ _ _ _ _) (by simp [Value.oneCell']) (by decide) q1 q2 q3 (wr.heap.size + 1) (World.size_alloc _ _) ?_; intro g5 cap5 w5 hown5 hgrow5 hat5 hlt5; go_frame)
            | go_in)
          have hA5 : Below wc.heap.size wc (wr.alloc (.cells #[.string z, .int .i64 wk, .int .i64 tl] 52)) := HD.out.bel.alloc HD.out.bel.size _
          have HG5 : Hid (DG B R a b c nv (.slice (some ⟨gs, 0, none⟩) ns cs) tv (.slice (some ⟨g, 0, none⟩) d.A.length cap) d wc (.slice (some ⟨g5, 0, none⟩) (L.length + 1) cap5) j1 s.data.toList w5) := by
            refine ⟨?_, ⟨hgrow5.os.trans hA5.os, hgrow5.tape.trans hA5.tape, hgrow5.output.trans hA5.output, Nat.le_trans hA5.size hgrow5.size, fun x hx => (hgrow5.block x (by have := hA5.size; omega) fun e => ?_).trans (hA5.block x hx)⟩⟩
            · rw [HL.out.1, lcs_app, List.length_append, HZ.out]
              exact hown5
            · have := (HL.out.2.2.lt x e.symm).1
              omega
          go_roundw
          case rel => exact ⟨j1, by have := HL.out.2.1; omega, rfl, HG5⟩
          case measure => have := HL.out.2.1; simp [RowKit.intOf]; omega
      · have hji : ¬ (j : Int) < (n : Int) := by omega
        have hj2 : j = n := by omega
        obtain ⟨y1, y2, y3, y4, y5⟩ := H7.out
        have hro := HD.out.row
        rw [List.take_of_length_le (by have := HN.out.1; omega)] at hro
        have hs := DS.setRow (l1 := [⟨nv, 9, 1, d.N.length, d.N.map encStr⟩, ⟨.slice (some ⟨gs, 0, none⟩) ns cs, 3, 1, d.S.length, nsv d.S⟩, ⟨tv, 3, 1, d.T.length, nsv d.T⟩]) (l2 := []) (r := ⟨.slice ao d.A.length cap, 52, 3, d.A.length, lcs d.A⟩) (r' := ⟨u14, 52, 3, (d.A.filter fun x => decide (x.1 ≠ s.data.toList)).length, lcs (d.A.filter fun x => decide (x.1 ≠ s.data.toList))⟩) (w1 := wr) y1 ⟨HD.out.bel.os, HD.out.bel.tape, HD.out.bel.output, HD.out.bel.size, fun g hg _ => HD.out.bel.block g hg, fun g hg => .inr (hro.lt g (mem_ob.1 hg)).1⟩ (.inl (own_low hro (by have := y1.lo; omega))) 7 rfl
        obtain ⟨f1, ⟨u7, f2⟩, f3, f4⟩ := hs
        obtain ⟨ao2, cap2, hv2⟩ := row_shape hro
        have HF : Hid (∃ I', DQ B R a b c nw2 (setP P2 s.data.toList (doF q true)) I' (wr.setCell ⟨R, 7, none⟩ u14) ∧ Upd I I' w (wr.setCell ⟨R, 7, none⟩ u14)) := ⟨_, ⟨nv, _, tv, u14, { d with A := d.A.filter fun x => decide (x.1 ≠ s.data.toList) }, f3, rfl, y3, y4⟩, y2.trans f4⟩
        obtain ⟨fl, hfl⟩ : ∃ fl, fl = (d.A.filter fun x => decide (x.1 ≠ s.data.toList)).length := ⟨_, rfl⟩
        rw [← hfl] at hv2
        clear hfl
        subst hv2
        clear y1 y2 y3 y4 y5 hro f3 f4 hj hj2 hlt
        go_wp2
        go_ret
        exact ⟨rfl, HF.out⟩

theorem DQ.done (h : DQ B R a b c nw P I w) (hp : PI a b c nw P) (s : ByteArray) (q now : Int) (g : Bool) :
    Calls Try.prog 17 #[.pointer (some ⟨R, 0, none⟩), .string s, .int .i64 q, .int .i64 now, .bool g] w fun e w' => e = .returned (.int .i64 (leE nw P s.data.toList q now)) ∧ ∃ I', DQ B R a b c (tellN nw now (nobody q)) (doP nw P s.data.toList q now g) I' w' ∧ Upd I I' w w' := by
  have hT := h.timeW hp now q
  have hp2 := hp.tell now (nobody q)
  by_cases he : tellE nw now (nobody q) = 0
  · rw [he] at hT
    by_cases hz : ∃ p, fndP (tellP nw now (nobody q) P) s.data.toList = some p ∧ hasT q p.ts = true
    · obtain ⟨p, hz1, hz2⟩ := hz
      have e1 : leE nw P s.data.toList q now = 0 := by unfold leE; rw [if_neg (by simpa using he), hz1]; show (if hasT q p.ts = true then (0 : Int) else 5) = 0; rw [if_pos hz2]
      have e2 : doP nw P s.data.toList q now g = setP (tellP nw now (nobody q) P) s.data.toList (doF q g) := by unfold doP; rw [if_pos e1]
      rw [e1, e2]
      cases g with
      | true => exact rDone_good hT hp2.po (fun d hs => hs.small hp2) hz1 hz2
      | false => exact rDone_bad hT hp2.po (fun d hs => hs.small hp2) hz1 hz2
    · have e1 : leE nw P s.data.toList q now = 5 := by
        unfold leE
        rw [if_neg (by simpa using he)]
        split
        · rfl
        · rename_i p hp3
          rw [if_neg fun e => hz ⟨p, hp3, e⟩]
      have e2 : doP nw P s.data.toList q now g = tellP nw now (nobody q) P := by unfold doP; rw [e1]; rfl
      rw [e1, e2]
      refine rDone_none g hT fun w' hQ => ?_
      obtain ⟨I', r1, _⟩ := hQ
      obtain ⟨nv, sv, tv, av, d, x1, rfl, x3, x4⟩ := r1.ex
      have := Has_any x1 (by have := (x3.small hp2).1; omega) s q
      rcases x3.has hp2.po s.data.toList q with ⟨y1, _⟩ | ⟨i, hi, _, _, _, p, y4, y5⟩
      · rw [y1] at this
        exact this
      · exact absurd ⟨p, y4, y5⟩ hz
  · have e1 : leE nw P s.data.toList q now = tellE nw now (nobody q) := by unfold leE; rw [if_pos he]
    have e2 : doP nw P s.data.toList q now g = tellP nw now (nobody q) P := by unfold doP; rw [e1, if_neg he]
    rw [e1, e2]
    exact rDone_fail g hT he
end
end Go.Proofs.Ytocahjnibdgmoaa
