/- The document's own Sum: the text with its ending. -/
import Derived.ArgAppend
import Derived.Laws.IdiomStrings
import Derived.Laws.AppendOwnNone
import Derived.Lib.MinMax
import Derived.Test.YtoceglbdnbnjpaaDoorChecked
import Derived.Test.YtoceglbdnbnjpaaDoorTie
import Derived.Test.YtoceglbdnbnjpaaDoorCards
import Derived.ProofKit
import Derived.OpenShut
import Derived.ShutString
import Derived.ChangeOld
import Derived.Below
import Derived.Lay
import Derived.HandedShaped
import Derived.SevenTiedAt
import Derived.Stop.Joined
import Derived.Shelf.Vars
import Derived.SliceStrings
import Derived.Test.YtoceglbdnbnjpaaDoorTq5
namespace Go.Proofs.YtoceglbdnbnjpaaDoor
open Go.RowKit

/-- These bytes, at the head of a block from B on, with spare room that may be written. -/
def Bs (B : Nat) (w : World) (v : Value) (L : List UInt8) : Prop :=
  ∃ g cap, v = .slice (some ⟨g, 0, none⟩) L.length cap ∧ B ≤ g ∧ g < w.heap.size ∧ L.length ≤ cap ∧ PAt w g L ∧ ∀ j, L.length ≤ j → j < cap → (w.cell? ⟨g, j, none⟩).isSome = true ∧ w.frozen? ⟨g, j, none⟩ = false
theorem Bs.dr {B : Nat} {w : World} {v : Value} {L : List UInt8} (h : Bs B w v L) : Bs B w.drew v L := h
theorem Bs.al {B : Nat} {w : World} {v : Value} {L : List UInt8} (h : Bs B w v L) (o : Obj) : Bs B (w.alloc o) v L := by
  obtain ⟨g, cap, rfl, h1, h2, h3, h4, h5⟩ := h
  have hb := bl_al (Below.refl w.heap.size w) o
  have hc : ∀ j, (w.alloc o).cell? ⟨g, j, none⟩ = w.cell? ⟨g, j, none⟩ := fun j => hb.cell (p := ⟨g, j, none⟩) h2
  have hf : ∀ j, (w.alloc o).frozen? ⟨g, j, none⟩ = w.frozen? ⟨g, j, none⟩ := fun j => by
    unfold World.frozen?
    rw [show (w.alloc o).heap[(⟨g, j, none⟩ : Addr).block]? = w.heap[(⟨g, j, none⟩ : Addr).block]? from hb.block g h2]
  refine ⟨g, cap, rfl, h1, by rw [World.size_alloc]; omega, h3, h4.up hb h2, fun j a b => ?_⟩
  rw [hc, hf]
  exact h5 j a b
theorem bcsL_get (L : List UInt8) (j : Nat) (u : Value) (h : (bcs L)[j]? = some u) : j < L.length ∧ u = .int .u8 ((L.getD j 0).toNat : Nat) := by
  have hj : j < L.length := by
    have := (List.getElem?_eq_some_iff.1 h).1
    simpa [bcs] using this
  refine ⟨hj, ?_⟩
  rw [List.getD_eq_getElem?_getD, List.getElem?_eq_getElem hj]
  simp [bcs, hj] at h
  exact h.symm
theorem bcs_get (L : List UInt8) (j : Nat) (hj : j < L.length) : (bcs L)[j]? = some (.int .u8 ((L.getD j 0).toNat : Nat)) := by
  unfold bcs
  rw [List.getElem?_map, List.getD_eq_getElem?_getD, List.getElem?_eq_getElem hj]
  rfl
theorem getD_app (L : List UInt8) (c : UInt8) (j : Nat) : (L ++ [c]).getD j 0 = if j < L.length then L.getD j 0 else if j = L.length then c else 0 := by
  rw [List.getD_eq_getElem?_getD, List.getD_eq_getElem?_getD, List.getElem?_append]
  split
  · rfl
  · split
    · subst_vars; simp
    · rw [List.getElem?_eq_none (by simp; omega)]; rfl

/-- One byte more. -/
theorem run_append_bs (w ww : World) (ty : TypeId) (B : Nat) (v : Value) (L : List UInt8) (hbs : Bs B w v L) (hbl : Below B ww w) (ad : Addr) (c0 : Nat) (c : UInt8) (hc : w.cell? ad = some (.int .u8 (c.toNat : Nat))) (hlen : L.length + 1 ≤ 140737488355328) :
    ∃ v' w', (Builtin.append_ #[56, 56] ty #[v, .slice (some ad) 1 c0]).run Tryd.prog w = .ok v' w' ∧ Bs B w' v' (L ++ [c]) ∧ Below B ww w' := by
  obtain ⟨i0, hi, hz0, hz1, hz2⟩ := info_p infB
  obtain ⟨g, cap, rfl, hg1, hg2, hcap, hP, hS⟩ := hbs
  have hnews : ∀ j u, [Value.int .u8 (c.toNat : Nat)][j]? = some u → w.cell? (ad.add j) = some u := by
    intro j u hj
    match j, hj with
    | 0, hj => simp at hj; subst hj; simpa [Addr.add] using hc
  by_cases hr : L.length + 1 ≤ cap
  · have hrun := run_append_room_cells (P := Tryd.prog) w 56 ty 5 i0 Tryd.underlying56 hi g 0 L.length cap ad 1 c0 [.int .u8 (c.toNat : Nat)] (by rw [hz1]; rfl) hnews (by intro u hu; simp at hu; subst hu; rfl) hr (fun j hj => by rw [hz1]; simp at hj; subst hj; simpa using (hS L.length (Nat.le_refl _) (by omega)).1) (fun j hj => by rw [hz1]; simp at hj; subst hj; simpa using (hS L.length (Nat.le_refl _) (by omega)).2)
    refine ⟨_, _, hrun, ?_, ?_⟩
    · rw [hz1]
      have es : w.setCells g (0 + L.length * 1) [.int .u8 (c.toNat : Nat)] = w.setCell ⟨g, L.length, none⟩ (.int .u8 (c.toNat : Nat)) := by simp [World.setCells]
      rw [es]
      have hsame := World.cell?_setCell_same' w ⟨g, L.length, none⟩ (.int .u8 (c.toNat : Nat)) (hS L.length (Nat.le_refl _) (by omega)).1
      have hoth : ∀ j, j ≠ L.length → (w.setCell ⟨g, L.length, none⟩ (.int .u8 (c.toNat : Nat))).cell? ⟨g, j, none⟩ = w.cell? ⟨g, j, none⟩ := fun j hj => World.cell?_setCell_other w _ _ _ (by intro e; injection e with e1 e2; omega)
      refine ⟨g, cap, by simp, hg1, by simpa [World.setCell] using hg2, by simpa using hr, ?_, ?_⟩
      · intro j hj
        rw [getD_app]
        simp at hj
        by_cases h : j < L.length
        · rw [if_pos h, hoth j (by omega)]
          exact hP j h
        · obtain rfl : j = L.length := by omega
          rw [if_neg h, if_pos rfl]
          exact hsame
      · intro j h1 h2
        simp at h1
        rw [hoth j (by omega), World.frozen?_setCell]
        exact hS j (by omega) h2
    · rw [hz1]
      have es : w.setCells g (0 + L.length * 1) [.int .u8 (c.toNat : Nat)] = w.setCell ⟨g, L.length, none⟩ (.int .u8 (c.toNat : Nat)) := by simp [World.setCells]
      rw [es]
      exact hbl.setCell (p := ⟨g, L.length, none⟩) hg1 _
  · obtain ⟨v', w', hrun, hown, hgr⟩ := run_append_arg_grows (P := Tryd.prog) w 56 ty 5 i0 (.int .u8 0) 1 1 Tryd.underlying56 hi hz0 hz1 hz2 rfl (by decide) ⟨g, 0, none⟩ L.length cap (bcs L) (by simp [bcs]) (fun j u hj => by
        obtain ⟨h1, rfl⟩ := bcsL_get L j u hj
        rw [add0C]
        exact hP j h1) ad 1 c0 [.int .u8 (c.toNat : Nat)] rfl hnews (by omega) (by unfold maxLen; omega) (by omega)
    refine ⟨v', w', hrun, ?_, hbl.grown hgr (by omega) (by intro k hk; cases hk)⟩
    rcases hown.2 with ⟨_, h0⟩ | ⟨g', cap', cur, hv, hb, hg, hn, hm, hcs, htk⟩
    · omega
    · subst hv
      refine ⟨g', cap', by simp, by omega, (Array.getElem?_eq_some_iff.1 hg).1, by simpa using hn, ?_, ?_⟩
      · intro j hj
        have hj' : j < L.length + 1 := by simpa using hj
        have hl := hown.cellAt j (by omega)
        rw [hl, show bcs L ++ [Value.int .u8 (c.toNat : Nat)] = bcs (L ++ [c]) from by simp [bcs]]
        exact bcs_get _ _ hj
      · intro j h1 h2
        refine ⟨?_, Lib.frozen_of_heap hg j⟩
        rw [Lib.cell_of_heap hg, Array.getElem?_eq_getElem (by omega)]
        rfl

theorem wpList_append_bs {ops : Array Oper} {rest : List Oper} {o : Oper} {a : Act} {Q : Exit → Act → World → Prop} (w ww : World) (hgd : o.guard = none) (s x : Operand)
    (ho : o.op = .call { callee := .builtin .append, args := #[s, x], argTypes := #[56, 56] }) (B : Nat) (v : Value) (L : List UInt8) (hs : a.eval s = v) (hbs : Bs B w v L) (hbl : Below B ww w)
    (ad : Addr) (c0 : Nat) (c : UInt8) (hx : a.eval x = .slice (some ad) 1 c0) (hc : w.cell? ad = some (.int .u8 (c.toNat : Nat))) (hlen : L.length + 1 ≤ 140737488355328)
    (h : ∀ v' w', Bs B w' v' (L ++ [c]) → Below B ww w' → wpList Tryd.prog ops Q rest (a.put o.dst v') w') : wpList Tryd.prog ops Q (o :: rest) a w := by
  obtain ⟨v', w', hr, h1, h2⟩ := run_append_bs w ww o.type B v L hbs hbl ad c0 c hc hlen
  refine wpList_plain hgd fun K hK => ?_
  unfold Oper.wp execOp
  simp only [ho, resolve, invoke, builtin, Sem.run_bind, Sem.run_pure, Result.andThen_ok, List.map_toArray, List.map_cons, List.map_nil, hs, hx, hr]
  exact hK _ _ (h v' w' h1 h2)

/-- A text's bytes, laid anew. -/
theorem bs_of_string (w : World) (s : ByteArray) : ∃ v W, (convert 9 56 (.string s)).run Tryd.prog w = .ok v W ∧ Bs w.heap.size W v s.data.toList ∧ Below w.heap.size w W := by
  have hr := run_bytes_of_string (P := Tryd.prog) w 9 56 5 s Tryd.underlying9 Tryd.underlying56 Tryd.underlying5
  have hge := grownCap_ge w s.size 0 5
  generalize grownCap w s.size 0 5 = cap at hr hge
  have hsz : (bytesRow s cap).size = cap := by
    unfold bytesRow
    rw [Array.size_append, Array.size_map, Array.size_replicate]
    have : s.data.size = s.size := rfl
    omega
  have hl : s.data.toList.length = s.size := s_len s
  have hh : (w.drew.alloc (.cells (bytesRow s cap) 5 ((bytesRow s cap).size, (bytesRow s cap).size + 1))).heap[w.heap.size]? = some (.cells (bytesRow s cap) 5 ((bytesRow s cap).size, (bytesRow s cap).size + 1)) := heap_alloc_new w.drew _
  have hcell : ∀ j, (w.drew.alloc (.cells (bytesRow s cap) 5 ((bytesRow s cap).size, (bytesRow s cap).size + 1))).cell? ⟨w.heap.size, j, none⟩ = (bytesRow s cap)[j]? := fun j => by
    unfold World.cell?
    simp only
    rw [hh]
    rfl
  refine ⟨_, _, hr, ⟨w.heap.size, cap, by rw [hl], Nat.le_refl _, (Array.getElem?_eq_some_iff.1 hh).1, by omega, ?_, ?_⟩, (Below.refl _ _).drew.alloc (Nat.le_refl _) _⟩
  · intro j hj
    rw [hcell]
    unfold bytesRow
    rw [Array.getElem?_append, if_pos (by rw [Array.size_map]; rw [hl] at hj; exact hj), Array.getElem?_map, ← Array.getElem?_toList, List.getElem?_eq_getElem hj, List.getD_eq_getElem?_getD, List.getElem?_eq_getElem hj]
    rfl
  · intro j h1 h2
    refine ⟨?_, ?_⟩
    · rw [hcell, Array.getElem?_eq_getElem (by omega)]
      rfl
    · unfold World.frozen?
      simp only
      rw [hh]
      simp
      omega
end Go.Proofs.YtoceglbdnbnjpaaDoor

/- The document's own Sum. -/
namespace Go.Proofs.YtoceglbdnbnjpaaDoor
open Go.RowKit

theorem cu_lt : ∀ x ∈ cuN, x < 2 ^ 32 := by
  have h : cuN.all (fun x => decide (x < 2 ^ 32)) = true := by kernel_rfl
  intro x hx
  exact of_decide_eq_true (List.all_eq_true.1 h x hx)
theorem cu_len : cuN.length = 64 := by kernel_rfl
theorem sq_l : q0.l = sqN := by kernel_rfl
def lenV : Value → Nat
  | .slice _ n _ => n
  | _ => 0
/-- What is there ahead of the length: the text, 128, and so many noughts. -/
def padZ (s : ByteArray) (k : Nat) : List UInt8 := s.data.toList ++ 128 :: List.replicate k 0
theorem padZ_len (s : ByteArray) (k : Nat) : (padZ s k).length = s.size + 1 + k := by
  unfold padZ
  rw [List.length_append, s_len, List.length_cons, List.length_replicate]
  omega
theorem padZ_next (s : ByteArray) (k : Nat) : padZ s (k + 1) = padZ s k ++ [0] := by
  unfold padZ
  rw [List.append_assoc, List.replicate_succ']
  rfl
theorem padZ_pad (s : ByteArray) : padZ s (endQ s.size - 1) ++ lenBs s.size 8 = padL s := by
  unfold padZ padL endB
  rw [List.append_assoc]
  rfl
theorem lenBs_next (n j : Nat) : lenBs n (j + 1) = lenBs n j ++ [lenB n j] := by
  unfold lenBs
  rw [List.range_succ, List.map_append]
  rfl
theorem lenBs_len (n j : Nat) : (lenBs n j).length = j := by simp [lenBs]
theorem pad_64 (s : ByteArray) : (padL s).length = 64 * ((padL s).length / 64) := by
  obtain ⟨h1, h2⟩ := pad_len s
  omega
theorem pad_lt (s : ByteArray) (hs : s.size ≤ 140737488351300) : (padL s).length < 2 ^ 50 := by
  rw [← padZ_pad, List.length_append, padZ_len, lenBs_len]
  unfold endQ
  omega
theorem len_facts (n jn p d r : Nat) (hn : n ≤ 140737488351300) (hp : p = 2 ^ (8 * jn)) (hd : d = 8 * n / p) (hr : r = d % 256) :
    ((p : Int) == 0) = false ∧ ¬ (p : Int) = 0 ∧ ¬ p = 0 ∧ ((8 * n : Nat) : Int) / (p : Int) = (d : Int) ∧ ((8 * n : Nat) : Int).tdiv (p : Int) = (d : Int) ∧ IntKind.i64.wrap (d : Int) = (d : Int) ∧ (d : Int) % 256 = (r : Int) ∧ (d : Int).tmod 256 = (r : Int) ∧ IntKind.i64.wrap (r : Int) = (r : Int) ∧ IntKind.u8.wrap (r : Int) = (r : Int) := by
  have hp0 : 0 < p := by rw [hp]; exact Nat.two_pow_pos _
  have hdl : d < 2 ^ 62 := by rw [hd]; exact Nat.lt_of_le_of_lt (Nat.div_le_self _ _) (by omega)
  exact ⟨beq_eq_false_iff_ne.2 (by omega), by omega, by omega, by rw [hd]; push_cast; rfl, by rw [hd]; exact tdivN _ p, wr61 d hdl, by omega, by rw [hr]; exact tmodN d 256, wr61 r (by omega), by rw [IntKind.wrap_u8]; omega⟩

/-- What lies where the blocks begin. -/
theorem sum_mem {w W : World} {P : List UInt8} {g : Nat} {KC FC : Array Value} {ks : List Nat} {q : N8} (hbl : Below w.heap.size w W) (hP : PAt W g P) (hg : g < W.heap.size) (hK : KC = intCells ks) (hF : FC = intCells q.l) :
    Hid (PAt ((W.alloc (.cells KC 3)).alloc (.cells FC 3)) g P ∧ LAt ((W.alloc (.cells KC 3)).alloc (.cells FC 3)) W.heap.size ks ∧ HAt ((W.alloc (.cells KC 3)).alloc (.cells FC 3)) (W.heap.size + 1) q.l ∧ g < W.heap.size + 1 ∧ Below w.heap.size w ((W.alloc (.cells KC 3)).alloc (.cells FC 3))) := by
  have b1 := bl_al (Below.refl W.heap.size W) (.cells KC 3)
  have b2 := bl_al b1 (.cells FC 3)
  have hk : HAt (W.alloc (.cells KC 3)) W.heap.size ks := by unfold HAt; rw [← hK]; exact heap_alloc_new W _
  have hf : HAt ((W.alloc (.cells KC 3)).alloc (.cells FC 3)) (W.alloc (.cells KC 3)).heap.size q.l := by unfold HAt; rw [← hF]; exact heap_alloc_new _ _
  rw [World.size_alloc] at hf
  refine ⟨hP.up b2 hg, ?_, hf, Nat.lt_succ_of_lt hg, bl_tr hbl b2⟩
  exact (hk.up2 (bl_al (Below.refl _ _) (.cells FC 3))).lat

set_option maxHeartbeats 40000000 in
set_option maxRecDepth 100000 in
theorem Sum_doc (s : ByteArray) (w : World) (hs : s.size ≤ 140737488351300) :
    Calls Tryd.prog 11 #[.string s] w fun e w' => e = .returned (.string ⟨(digsN (stF (padL s) cuN 0 q0 ((padL s).length / 64))).toArray⟩) ∧ Below w.heap.size w w' := by
  obtain ⟨v0, W0, hcv, hbs, hbl⟩ := bs_of_string w s
  obtain ⟨P, hPe⟩ : ∃ P, P = padL s := ⟨_, rfl⟩
  rw [← hPe]
  obtain ⟨q9, hq9⟩ : ∃ q9, q9 = stF P cuN 0 q0 (P.length / 64) := ⟨_, rfl⟩
  rw [← hq9]
  have HPE : Hid (P = padL s ∧ P.length < 2 ^ 50 ∧ P.length = 64 * (P.length / 64)) := ⟨hPe, by rw [hPe]; exact pad_lt s hs, by rw [hPe]; exact pad_64 s⟩
  have HQ9 : Hid (q9 = stF P cuN 0 q0 (P.length / 64) ∧ q9.ok) := ⟨hq9, by rw [hq9]; exact stF_ok P cuN 0 q0 q0_ok _⟩
  clear hPe hq9
  have HS : Hid (s.size ≤ 140737488351300) := hs
  have H0 : Hid (Bs w.heap.size W0 v0 s.data.toList ∧ Below w.heap.size w W0) := ⟨hbs, hbl⟩
  have hsi : (s.size : Int) ≤ 140737488351300 := by omega
  clear hs hbs hbl
  go_enter Tryd.func11, Tryd.ntmps11
  go_wp2_with (at_builtin; refine wpList_append_bs _ w rfl _ _ rfl w.heap.size _ _ rfl (H0.out.1.al _) (H0.out.2.alloc H0.out.2.size _) ⟨_, 0, none⟩ 1 128 rfl ?c1 ?c2 ?_)
  case c1 => exact al_atC _ _ _ _ 0 _ rfl rfl
  case c2 => rw [s_len]; have := HS.out; omega
  intro v1 w1 hb1 hbl1
  have HZ : Hid (∃ z, z = endQ s.size - 1) := ⟨_, rfl⟩
  obtain ⟨z, hz⟩ := HZ.out
  have HZ2 : Hid (z = endQ s.size - 1) := hz
  have hz64 : z ≤ 63 := by rw [hz]; unfold endQ; omega
  have H1 : Hid (Bs w.heap.size w1 v1 (padZ s 0) ∧ Below w.heap.size w w1) := ⟨hb1, hbl1⟩
  clear hb1 hbl1 H0 hcv hz HZ
  go_wp2
  go_loopw [3] (fun v wr => ∃ k n g cap : Nat, k ≤ z ∧ n = s.size + 1 + k ∧ v = .slice (some ⟨g, 0, none⟩) n cap ∧ Bs w.heap.size wr v (padZ s k) ∧ Below w.heap.size w wr) (fun v _ => s.size + 1 + z - lenV v)
  case atStart =>
    obtain ⟨g, cap, hv, _⟩ := H1.out.1
    rw [padZ_len] at hv
    exact ⟨0, _, g, cap, by omega, rfl, hv, H1.out⟩
  case round =>
    clear H1
    obtain ⟨k, n, g, cap, hk, hn, rfl, hbs, hbl⟩ := hrel
    have HV : Hid (Bs w.heap.size wr (.slice (some ⟨g, 0, none⟩) n cap) (padZ s k) ∧ Below w.heap.size w wr) := ⟨hbs, hbl⟩
    have HNN : Hid (n = s.size + 1 + k) := hn
    have hni : (n : Int) ≤ 140737488351400 := by omega
    obtain ⟨r, hr⟩ : ∃ r, r = n % 64 := ⟨_, rfl⟩
    have e1 : (n : Int) % 64 = (r : Int) := by omega
    have HR : Hid (r = n % 64) := hr
    clear hbs hbl hn hr
    by_cases hlt : k < z
    · have hr56 : ¬ (r : Int) = 56 := by
        have := HR.out; have := HNN.out; have hz := HZ2.out
        unfold endQ at hz
        omega
      go_wp2_with (at_builtin; refine wpList_append_bs _ w rfl _ _ rfl w.heap.size _ _ rfl (HV.out.1.al _) (HV.out.2.alloc HV.out.2.size _) ⟨_, 0, none⟩ 1 0 rfl ?c1 ?c2 ?_)
      case c1 => exact al_atC _ _ _ _ 0 _ rfl rfl
      case c2 => rw [padZ_len]; omega
      intro v2 w2 hb2 hbl2
      have H2 : Hid (Bs w.heap.size w2 v2 (padZ s (k + 1)) ∧ Below w.heap.size w w2) := ⟨by rw [padZ_next]; exact hb2, hbl2⟩
      clear hb2 hbl2
      obtain ⟨g2, cap2, hv2, -⟩ := H2.out.1
      rw [padZ_len] at hv2
      subst hv2
      go_wp2
      refine ⟨⟨k + 1, _, g2, cap2, by omega, rfl, rfl, H2.out⟩, ?_⟩
      have := HNN.out
      simp only [lenV]
      omega
    · obtain rfl : k = z := by omega
      obtain rfl : r = 56 := by
        have := HR.out; have := HNN.out; have hz := HZ2.out
        unfold endQ at hz
        omega
      obtain ⟨ln, hln⟩ : ∃ ln, ln = 8 * s.size := ⟨_, rfl⟩
      have e2 : 8 * (s.size : Int) = (ln : Int) := by omega
      have HLN : Hid (ln = 8 * s.size) := hln
      have f1 := wr61 ln (by omega)
      clear hln
      have H3 : Hid (Bs w.heap.size wr (.slice (some ⟨g, 0, none⟩) n cap) (padZ s k ++ lenBs s.size 0) ∧ Below w.heap.size w wr ∧ n = s.size + 1 + k + 0) := ⟨by simpa [lenBs] using HV.out.1, HV.out.2, HNN.out⟩
      clear HV HNN HR hlt hk
      go_wp2
      clear f1 e1 hni
      go_loopw [3, 5] (fun v i wy => ∃ m n g cap : Nat, m ≤ 8 ∧ i = .int .i64 (7 - (m : Int)) ∧ n = s.size + 1 + k + m ∧ v = .slice (some ⟨g, 0, none⟩) n cap ∧ Bs w.heap.size wy v (padZ s k ++ lenBs s.size m) ∧ Below w.heap.size w wy) (fun _ i _ => (intOf i + 1).toNat)
      case atStart => exact ⟨0, _, g, cap, by omega, rfl, H3.out.2.2, rfl, H3.out.1, H3.out.2.1⟩
      case round =>
        clear H3 e2
        obtain ⟨m, n, g, cap, hm, rfl, hn, rfl, hbs, hbl⟩ := hrel
        have HV : Hid (Bs w.heap.size _ (.slice (some ⟨g, 0, none⟩) n cap) (padZ s k ++ lenBs s.size m) ∧ Below w.heap.size w _) := ⟨hbs, hbl⟩
        have HNN : Hid (n = s.size + 1 + k + m) := hn
        clear hbs hbl hn
        by_cases hm8 : m < 8
        · obtain ⟨jn, hjn⟩ : ∃ jn : Nat, jn = 7 - m := ⟨_, rfl⟩
          have e1 : (7 : Int) - (m : Int) = (jn : Int) := by omega
          have HJ : Hid ((jn : Int) - 1 = 7 - ((m + 1 : Nat) : Int)) := by show _ = _; omega
          obtain ⟨p, hp⟩ : ∃ p, p = 2 ^ (8 * jn) := ⟨_, rfl⟩
          obtain ⟨d, hd⟩ : ∃ d, d = 8 * s.size / p := ⟨_, rfl⟩
          obtain ⟨r, hr⟩ : ∃ r, r = d % 256 := ⟨_, rfl⟩
          obtain ⟨z8, hz8⟩ : ∃ z8, z8 = 8 * jn := ⟨_, rfl⟩
          have hLB : lenB s.size m = UInt8.ofNat r := by
            unfold lenB
            rw [hr, hd, hp, show 56 - 8 * m = 8 * jn from by omega]
          have HRB : Hid ((lenB s.size m).toNat = r) := by
            show _ = _
            rw [hLB]
            have : r < 256 := by omega
            simp [UInt8.toNat_ofNat']
            omega
          have HP : Hid (∀ W : World, Calls Tryd.prog 27 #[.int .i64 z8] W fun e w' => e = .returned (.int .i64 (p : Nat)) ∧ w' = W) := fun W => by rw [hp, ← hz8]; exact Pow2_any z8 W (by omega)
          have e3 : 8 * (jn : Int) = (z8 : Int) := by omega
          have hji : (0 : Int) ≤ (jn : Int) := by omega
          have hr0 : (r : Int) < 256 := by omega
          have hlen : (padZ s k ++ lenBs s.size m).length + 1 ≤ 140737488355328 := by
            rw [List.length_append, padZ_len, lenBs_len]
            have := HS.out
            omega
          obtain ⟨d1, d2, d3, d4, d5, d6, d7, d8, d9, d10⟩ := len_facts s.size jn p d r HS.out hp hd hr
          rw [← HLN.out] at d4 d5
          have f0 := wr61 z8 (by omega)
          clear hp hd hr hz8 hjn hLB
          rw [e1]
          go_wp2_with fail
          refine (HP.out _).mono ?_
          rintro e w' ⟨rfl, rfl⟩
          go_wp2_with (at_builtin; refine wpList_append_bs _ w rfl _ _ rfl w.heap.size _ _ rfl (HV.out.1.al _) (HV.out.2.alloc HV.out.2.size _) ⟨_, 0, none⟩ 1 (lenB s.size m) rfl ?c1 hlen ?_)
          case c1 => exact al_atC _ _ _ _ 0 _ rfl (congrArg (fun z : Nat => some (Value.int .u8 (z : Int))) HRB.out.symm)
          intro v2 w2 hb2 hbl2
          have H2 : Hid (Bs w.heap.size w2 v2 (padZ s k ++ lenBs s.size (m + 1)) ∧ Below w.heap.size w w2) := ⟨by rw [lenBs_next]; first | exact hb2 | (rw [← List.append_assoc]; exact hb2), hbl2⟩
          clear hb2 hbl2 d1 d2 d3 d4 d5 d6 d7 d8 d9 d10 f0
          obtain ⟨g2, cap2, hv2, -⟩ := H2.out.1
          rw [List.length_append, padZ_len, lenBs_len] at hv2
          subst hv2
          go_wp2
          refine ⟨⟨m + 1, _, g2, cap2, by omega, congrArg (Value.int .i64) HJ.out, rfl, rfl, H2.out⟩, ?_⟩
          simp only [intOf]
          omega
        · obtain rfl : m = 8 := by omega
          obtain ⟨KC, hKC⟩ : ∃ KC, KC = intCells cuN := ⟨_, rfl⟩
          obtain ⟨FC, hFC⟩ : ∃ FC, FC = intCells q0.l := ⟨_, rfl⟩
          have HCo : Hid (∀ W : World, Calls Tryd.prog 28 #[] W fun e w' => e = .returned (.slice (some ⟨W.heap.size, 0, none⟩) 64 64) ∧ w' = W.alloc (.cells KC 3)) := fun W => by rw [hKC]; exact Constants_any W
          have HFi : Hid (∀ W : World, Calls Tryd.prog 29 #[] W fun e w' => e = .returned (.slice (some ⟨W.heap.size, 0, none⟩) 8 8) ∧ w' = W.alloc (.cells FC 3)) := fun W => by rw [hFC, sq_l]; exact Firsts_any W
          have HPP : Hid (padZ s k ++ lenBs s.size 8 = P) := by show _ = _; rw [HPE.out.1, HZ2.out]; exact padZ_pad s
          have HNP : Hid (n = P.length) := by
            have := HNN.out
            show _ = _
            rw [← HPP.out, List.length_append, padZ_len, lenBs_len]
            exact this
          have HKC : Hid (KC = intCells cuN ∧ FC = intCells q0.l) := ⟨hKC, hFC⟩
          clear hKC hFC
          go_wp2_with fail
          refine (HCo.out _).mono ?_
          rintro e w' ⟨rfl, rfl⟩
          go_wp2_with fail
          refine (HFi.out _).mono ?_
          rintro e w' ⟨rfl, rfl⟩
          obtain ⟨g', cap', hv', hg1, hg2, -, hPA, -⟩ := HV.out.1
          rw [HPP.out] at hv' hPA
          injection hv' with e1 e2 e3
          injection e1 with e1
          injection e1 with e1 _ _
          subst e1 e3
          have HPA := sum_mem HV.out.2 hPA hg2 HKC.out.1 HKC.out.2
          clear hg1 hg2 hPA
          rw [HNP.out]
          go_wp2
          refine loop3 _ _ _ _ _ _ _ _ _ _ _ _ _ _ _ _ _ _ _ _ _ _ _ _ _ _ _ _ _ _ _ _ _ _ _ _ _ _ _ _ _ _ _ _ _ _ _ _ _ _ _ _ _ _ _ _ _ _ _ _ _ _ _ _ _ _ _ _ _ _ _ _ _ _ _ _ _ _ _ _ _ _ _ _ _ _ _ _ _ _ _ _ _ _ _ _ _ _ _ _ _ _ _ _ _ _ _ _ _ _ _ _ _ _ _ _ _ _ _ _ _ _ _ _ _ _ _ _ _ _ _ _ _ _ _ _ _ _ _ _ _ _ _ _ _ _ _ _ _ _ _ _ _ _ _ _ _ _ _ _ _ _ _ _ _ _ _ _ _ _ _ _ _ _ _ _ _ _ _ _ _ _ _ _ _ _ _ _ _ _ _ _ _ _ _ _ _ _ _ _ _ _ _ _ _ _ _ _ _ _ _ _ _ _ _ _ _ _ _ _ _ _ _ _ _ _ _ _ _ _ _ _ _ _ _ _ _ _ _ _ _ _ _ _ _ _ _ _ _ _ _ _ _ _ _ _ _ _ _ _ _ _ _ _ _ _ _ _ _ _ _ _ _ _ _ _ _ _ _ _ _ P cuN q0 (P.length / 64) g cap _ 64 _ 8 q0_ok cu_lt cu_len HPA.out.1 HPA.out.2.1 HPA.out.2.2.1 HPA.out.2.2.2.1 (Nat.lt_succ_self _) HPE.out.2.1 HPE.out.2.2 _ ?_
          intro _ _ _ _ _ _ _ _ _ _ _ _ _ _ _ _ _ _ _ _ _ _ _ _ _ _ _ _ _ _ _ _ _ _ _ _ _ _ _ _ _ _ _ _ _ _ _ _ _ _ _ _ _ _ _ _ _ _ _ _ _ _ _ _ _ _ _ _ _ _ _ _ _ _ _ _ _ _ _ _ _ _ _ _ _ _ _ _ _ _ _ _ _ _ _ _ _ _ _ _ _ _ _ _ _ _ _ _ _ _ _ _ _ _ _ _ _ _ _ _ _ _ _ _ _ _ _ _ _ _ _ _ _ _ _ _ _ _ _ _ _ _ _ _ _ _ _ _ _ _ _ _ _ _ _ _ _ _ _ _ _ _ _ _ _ _ _ _ _ _ _ _ _ _ _ _ _ _ _ _ _ _ _ _ _ _ _ _ _ _ _ _ _ _ _ _ _ _ _ _ _ _ _ _ _ _ _ _ _ _ _ _ _ _ _ _ _ _ _ _ _ _ w4 hh4 hb4
          rw [← HQ9.out.1] at hh4
          have H4 : Hid (Below w.heap.size w w4) := HPA.out.2.2.2.2.trans (hb4.mono (Nat.le_succ_of_le HV.out.2.size))
          have H5 : Hid _ := hh4
          clear hh4 hb4 HPA HPP HNP HKC HCo HFi
          go_wp2
          refine loop8 _ _ _ _ _ _ _ _ _ _ _ _ _ _ _ _ _ _ _ _ _ _ _ _ _ _ _ _ _ _ _ _ _ _ _ _ _ _ _ _ _ _ _ _ _ _ _ _ _ _ _ _ _ _ _ _ _ _ _ _ _ _ _ _ _ _ _ _ _ _ _ _ _ _ _ _ _ _ _ _ _ _ _ _ _ _ _ _ _ _ _ _ _ _ _ _ _ _ _ _ _ _ _ _ _ _ _ _ _ _ _ _ _ _ _ _ _ _ _ _ _ _ _ _ _ _ _ _ _ _ _ _ _ _ _ _ _ _ _ _ _ _ _ _ _ _ _ _ _ _ _ _ _ _ _ _ _ _ _ _ _ _ _ _ _ _ _ _ _ _ _ _ _ _ _ _ _ _ _ _ _ _ _ _ _ _ _ _ _ _ _ _ _ _ _ _ _ _ _ _ _ _ _ _ _ _ _ _ _ _ _ _ _ _ _ _ _ _ _ _ _ _ _ _ _ _ _ _ _ _ _ _ _ _ _ _ _ _ _ _ _ _ _ _ _ _ _ _ _ _ _ _ _ _ _ _ _ _ _ _ _ _ _ _ _ _ _ _ _ _ _ _ _ _ _ _ _ _ _ _ _ w4 q9 HQ9.out.2 _ _ H5.out _ ?_
          intro _ _ _ _ _ _ _ _ _ _ _ _ _ _ _ _ _ _ _ _ _ _ w5 hb5
          have H6 : Hid (Below w.heap.size w w5) := bl_tr H4.out hb5
          clear hb5
          go_wp2
          go_ret
          exact ⟨rfl, H6.out⟩
end Go.Proofs.YtoceglbdnbnjpaaDoor

/- The document's Clash, for a store: where it says no, no two of the texts have one digest. -/
namespace Go.Proofs.YtoceglbdnbnjpaaDoor
open Go.RowKit Go.Shelf

theorem infS : (Tryd.prog.info? 9).map (fun i => (i.zero, i.size, i.bytes)) = some (some (.string ⟨#[]⟩), 1, 16) := by kernel_rfl
theorem toL_inj {a b : ByteArray} (h : a.toList = b.toList) : a = b := by
  rw [Lib.toList_data, Lib.toList_data] at h
  cases a; cases b
  rename_i x y
  have : x = y := Array.toList_inj.1 h
  rw [this]
/-- The document's own sum. -/
theorem RSm_any (s : ByteArray) (w : World) (hs : s.size ≤ 140737488351300) : Calls Tryd.prog 11 #[.string s] w fun e w' => e = .returned (.string (smB s)) ∧ Below w.heap.size w w' := by
  unfold smB
  rw [sum_plain]
  exact Sum_doc s w hs
/-- These texts lie in block g, from o on. -/
def Row (w : World) (g o : Nat) (ss : List ByteArray) : Prop := ∀ j (hj : j < ss.length), w.cell? ⟨g, o + j, none⟩ = some (.string ss[j])
theorem Row.up {w w' : World} {g o : Nat} {ss : List ByteArray} (h : Row w g o ss) (hb : Below w.heap.size w w') (hg : g < w.heap.size) : Row w' g o ss := fun j hj => (hb.cell (p := ⟨g, o + j, none⟩) hg).trans (h j hj)
/-- A slice of these texts. -/
def Tx (w : World) (v : Value) (ss : List ByteArray) : Prop :=
  ss.length ≤ 4611686018427387904 ∧ ((ss = [] ∧ ∃ a cap, v = .slice a 0 cap) ∨ (0 < ss.length ∧ ∃ g o cap, v = .slice (some ⟨g, o, none⟩) ss.length cap ∧ ss.length ≤ cap ∧ Row w g o ss))
theorem Tx.up {w w' : World} {v : Value} {ss : List ByteArray} (h : Tx w v ss) (hb : Below w.heap.size w w') : Tx w' v ss := by
  refine ⟨h.1, ?_⟩
  rcases h.2 with h1 | ⟨h0, g, o, cap, hv, hc, hr⟩
  · exact Or.inl h1
  · exact Or.inr ⟨h0, g, o, cap, hv, hc, hr.up hb (World.block_lt_of_cell? w ⟨g, o + 0, none⟩ (hr 0 h0))⟩
theorem Tx.shape {w : World} {v : Value} {ss : List ByteArray} (h : Tx w v ss) : ∃ a cap, v = .slice a ss.length cap := by
  rcases h.2 with ⟨rfl, a, cap, hv⟩ | ⟨_, g, o, cap, hv, _⟩
  · exact ⟨a, cap, hv⟩
  · exact ⟨_, cap, hv⟩
def scs (l : List ByteArray) : List Value := l.map Value.string
theorem scs_get (l : List ByteArray) (j : Nat) (hj : j < l.length) : (scs l)[j]? = some (.string l[j]) := by simp [scs, hj]
theorem own_below {w w' : World} {base : Nat} {e : TypeId} {size : Nat} {v : Value} {n : Nat} {xs : List Value} (h : w.ownsRow base e size v n xs) (hb : Below w.heap.size w w') : w'.ownsRow base e size v n xs := by
  refine ⟨h.1, ?_⟩
  rcases h.2 with hn | ⟨g, cap, cur, rfl, hg, hgg, rest⟩
  · exact .inl hn
  · exact .inr ⟨g, cap, cur, rfl, hg, (hb.block g (Array.getElem?_eq_some_iff.1 hgg).1).trans hgg, rest⟩
theorem new_one (W : World) (x : ByteArray) : ∀ (j : Nat) (u : Value), [Value.string x][j]? = some u → (W.alloc (.cells #[.string x] 9)).cell? ((⟨W.heap.size, 0, none⟩ : Addr).add j) = some u := by
  intro j u hj
  match j, hj with
  | 0, hj =>
    simp at hj
    subst hj
    exact al_atC W _ _ _ 0 _ rfl rfl
theorem scs_snoc (l : List ByteArray) (x : ByteArray) : scs (l ++ [x]) = scs l ++ [.string x] := by simp [scs]
theorem row_of_own {w : World} {B g cap n : Nat} {xs : List ByteArray} (h : w.ownsRow B 9 1 (.slice (some ⟨g, 0, none⟩) n cap) n (scs xs)) (hn : xs.length = n) : Row w g 0 xs := fun j hj => by
  rw [Nat.zero_add]
  exact (h.cellAt j (by omega)).trans (scs_get xs j hj)
/-- A row that is one's own is a slice that is read. -/
theorem tx_own {w : World} {B : Nat} {v : Value} {xs : List ByteArray} (hx : xs.length ≤ 4611686018427387904) (h : w.ownsRow B 9 1 v xs.length (scs xs)) : Tx w v xs := by
  rcases h.2 with ⟨rfl, h0⟩ | ⟨g, cap, cur, rfl, hb, hg, hc, _⟩
  · have : xs = [] := List.length_eq_zero_iff.1 h0
    subst this
    exact ⟨by decide, Or.inl ⟨rfl, none, 0, rfl⟩⟩
  · refine ⟨hx, ?_⟩
    by_cases h0 : xs.length = 0
    · have : xs = [] := List.length_eq_zero_iff.1 h0
      subst this
      exact Or.inl ⟨rfl, _, cap, rfl⟩
    · exact Or.inr ⟨by omega, g, 0, cap, rfl, hc, row_of_own h rfl⟩
theorem b_ext {a b : ByteArray} (h : a.toList = b.toList) : a = b := toL_inj h

set_option maxHeartbeats 2000000 in
theorem HasText_any (v : Value) (xs : List ByteArray) (s : ByteArray) (w : World) (h : Tx w v xs) (b : Bool) (hb : b = true ↔ s ∈ xs) :
    Calls Tryd.prog 26 #[v, .string s] w fun e w' => e = .returned (.bool b) ∧ w' = w := by
  have hn1 : (xs.length : Int) ≤ 4611686018427387904 := by have := h.1; omega
  have HB : Hid (b = true ↔ s ∈ xs) := hb
  rcases h.2 with ⟨rfl, a, cap, rfl⟩ | ⟨h0, g, o, cap, rfl, hc, hrow⟩
  · have hbf : b = false := by
      cases b with
      | false => rfl
      | true => exact absurd (hb.1 rfl) (by simp)
    subst hbf
    clear h hb HB
    go_enter Tryd.func26, Tryd.ntmps26
    go_wp2
    refine wp_loop_rounds 1 ?_
    rw [rounds_succ]
    go_wp2
    go_ret
    exact ⟨rfl, rfl⟩
  · have HC : Hid (Row w g o xs) := hrow
    clear h hrow hb
    go_enter Tryd.func26, Tryd.ntmps26
    go_wp2
    go_loop [5] (fun i => ∃ k : Nat, k ≤ xs.length ∧ i = .int .i64 k ∧ Hid (s ∉ xs.take k)) (fun i => xs.length - (intOf i).toNat)
    case atStart => exact ⟨0, Nat.zero_le _, rfl, by show _ ∉ _; simp⟩
    case round =>
      obtain ⟨k, hk, rfl, HK⟩ := hrel
      by_cases hlt : k < xs.length
      · have c1 := HC.out k hlt
        by_cases he : xs[k] = s
        · have hq : (xs[k].toList == s.toList) = true := by rw [he]; simp
          have hbt : b = true := HB.out.2 (by rw [← he]; exact List.getElem_mem hlt)
          subst hbt
          clear he HB
          generalize xs[k] = x at c1 hq
          go_wp2
          go_ret
          exact ⟨rfl, rfl⟩
        · have hq : (xs[k].toList == s.toList) = false := by
            rw [beq_eq_false_iff_ne]
            exact fun h => he (b_ext h)
          have HN : Hid (s ∉ xs.take (k + 1)) := by
            show _ ∉ _
            rw [List.take_succ_eq_append_getElem hlt, List.mem_append]
            rintro (h | h)
            · exact HK.out h
            · simp at h; exact he h.symm
          clear he
          generalize xs[k] = x at c1 hq
          go_wp2
          refine ⟨⟨k + 1, by omega, by go_num, HN⟩, by simp [intOf]; omega⟩
      · obtain rfl : k = xs.length := by omega
        have hbf : b = false := by
          cases b with
          | false => rfl
          | true =>
            have := HK.out
            rw [List.take_length] at this
            exact absurd (HB.out.1 rfl) this
        subst hbf
        clear HB
        go_wp2
        go_ret
        exact ⟨rfl, rfl⟩

theorem own_grown {w w' : World} {base : Nat} {e : TypeId} {size : Nat} {v : Value} {n : Nat} {xs : List Value} {row : Option Nat} (h : w.ownsRow base e size v n xs) (hg : w.grownBy w' row) (hne : ∀ k, v.ownBlock = some k → row ≠ some k) : w'.ownsRow base e size v n xs := by
  refine ⟨h.1, ?_⟩
  rcases h.2 with hn | ⟨g, cap, cur, rfl, hb, hgg, rest⟩
  · exact .inl hn
  · exact .inr ⟨g, cap, cur, rfl, hb, (hg.block g (Array.getElem?_eq_some_iff.1 hgg).1 (fun e => hne g rfl e.symm)).trans hgg, rest⟩
def InjL (L : List ByteArray) : Prop := ∀ x y, x ∈ L → y ∈ L → smB x = smB y → x = y
theorem inj_snoc {T : List ByteArray} {x : ByteArray} (h : InjL T) (hx : smB x ∉ T.map smB) : InjL (T ++ [x]) := by
  intro a b ha hb he
  rcases List.mem_append.1 ha with h1 | h1
  · rcases List.mem_append.1 hb with h2 | h2
    · exact h a b h1 h2 he
    · simp at h2; subst h2; exact absurd (List.mem_map.2 ⟨a, h1, he⟩) hx
  · rcases List.mem_append.1 hb with h2 | h2
    · simp at h1; subst h1; exact absurd (List.mem_map.2 ⟨b, h2, he.symm⟩) hx
    · simp at h1 h2; rw [h1, h2]
/-- The texts met so far, and their digests. -/
structure ClI (w wr : World) (tv dv : Value) (T seen : List ByteArray) : Prop where
  ot : wr.ownsRow w.heap.size 9 1 tv T.length (scs T)
  od : wr.ownsRow w.heap.size 9 1 dv T.length (scs (T.map smB))
  ne : ∀ a, tv.ownBlock = some a → dv.ownBlock ≠ some a
  bl : Below w.heap.size w wr
  inj : InjL T
  all : ∀ x ∈ seen, x ∈ T
  le : T.length ≤ seen.length
theorem tx_own' {w : World} {B : Nat} {v : Value} {xs : List ByteArray} {n : Nat} (hx : xs.length ≤ 4611686018427387904) (hn : xs.length = n) (h : w.ownsRow B 9 1 v n (scs xs)) : Tx w v xs := by
  subst hn
  exact tx_own hx h

set_option maxHeartbeats 8000000 in
set_option maxRecDepth 100000 in
theorem Clash_any (gl ol cap : Nat) (ls : List (List ByteArray)) (w : World) (hl : ls.length ≤ 1000) (htot : ls.flatten.length ≤ 100000000) (hsz : ∀ l ∈ ls, ∀ s ∈ l, s.size ≤ 140737488351300)
    (hcell : ∀ j (hj : j < ls.length), ∃ u, w.cell? ⟨gl, ol + j, none⟩ = some u ∧ Tx w u ls[j]) :
    Calls Tryd.prog 10 #[.slice (some ⟨gl, ol, none⟩) ls.length cap] w fun e w' => ∃ b, e = .returned (.bool b) ∧ (b = false → InjL ls.flatten) ∧ Below w.heap.size w w' := by
  obtain ⟨i0, hi0, hz0, hz1, hz2⟩ := info_p infS
  have HC : Hid (∀ j (hj : j < ls.length), ∃ u, w.cell? ⟨gl, ol + j, none⟩ = some u ∧ Tx w u ls[j]) := hcell
  have HZ : Hid (∀ l ∈ ls, ∀ s ∈ l, s.size ≤ 140737488351300) := hsz
  have HT : Hid (ls.flatten.length ≤ 100000000) := htot
  have hli : (ls.length : Int) ≤ 1000 := by omega
  clear hcell hsz htot
  go_enter Tryd.func10, Tryd.ntmps10
  go_wp2
  go_loopw [3, 4, 5] (fun tv dv i wr => ∃ (j : Nat) (T : List ByteArray), j ≤ ls.length ∧ i = .int .i64 j ∧ Hid (ClI w wr tv dv T (ls.take j).flatten)) (fun _ _ i _ => ls.length - (intOf i).toNat)
  case atStart => exact ⟨0, [], by omega, rfl, ⟨World.ownsRow_nil _ _ _ _, World.ownsRow_nil _ _ _ _, fun a ha => (by simp [Value.ownBlock] at ha), Below.refl _ _, fun x y hx => (by cases hx), fun x hx => (by simp at hx), (by simp)⟩⟩
  case round =>
    obtain ⟨j, T, hj, rfl, HI⟩ := hrel
    by_cases hlt : j < ls.length
    · have hji : (j : Int) < (ls.length : Int) := by omega
      obtain ⟨u, hcu, htu⟩ := HC.out j hlt
      have hglt : gl < w.heap.size := World.block_lt_of_cell? w ⟨gl, ol + j, none⟩ hcu
      have HU : Hid (∀ Y, Below w.heap.size w Y → Y.cell? ⟨gl, ol + j, none⟩ = some u ∧ Tx Y u ls[j]) := fun Y hY => ⟨(hY.cell (p := ⟨gl, ol + j, none⟩) hglt).trans hcu, htu.up hY⟩
      have hul : ls[j].length ≤ 4611686018427387904 := htu.1
      have hui : (ls[j].length : Int) ≤ 4611686018427387904 := by omega
      have HTX : Hid (Tx w u ls[j]) := htu
      obtain ⟨ua, ucap, hu⟩ := htu.shape
      have HFL : Hid ((ls.take (j + 1)).flatten = (ls.take j).flatten ++ ls[j]) := by
        show _ = _
        rw [List.take_succ_eq_append_getElem hlt, List.flatten_append]
        simp
      have HSL : Hid (∀ s ∈ ls[j], s.size ≤ 140737488351300) := HZ.out _ (List.getElem_mem hlt)
      have HLE : Hid ((ls.take j).flatten.length + ls[j].length ≤ 100000000) := by
        have h1 := HT.out
        have h2 : ls.flatten = (ls.take (j + 1)).flatten ++ (ls.drop (j + 1)).flatten := by rw [← List.flatten_append, List.take_append_drop]
        rw [h2, List.length_append, HFL.out, List.length_append] at h1
        show _ ≤ _
        omega
      generalize (ls.take j).flatten = seen at HI HFL HLE
      generalize ls[j] = row at *
      clear hcu htu
      go_wp2
      go_loopw [3, 4, 6] (fun tv dv k wr => ∃ (m : Nat) (T : List ByteArray), m ≤ row.length ∧ k = .int .i64 m ∧ Hid (ClI w wr tv dv T (seen ++ row.take m))) (fun _ _ k _ => row.length - (intOf k).toNat)
      case atStart => exact ⟨0, T, by omega, rfl, by rw [List.take_zero, List.append_nil]; exact HI⟩
      case round =>
        clear HI
        obtain ⟨m, T, hm, rfl, HI⟩ := hrel
        have cu := (HU.out _ HI.out.bl).1
        by_cases hmt : m < row.length
        · have hmi : (m : Int) < (row.length : Int) := by omega
          have hmz : m ≤ 100000000 := by have := HLE.out; omega
          have HTl : Hid (T.length ≤ 100000000) := by
            have h1 := HI.out.le
            have h2 := HLE.out
            rw [List.length_append, List.length_take] at h1
            show _ ≤ _
            omega
          rcases HTX.out.2 with ⟨rfl, _⟩ | ⟨h0, g, o, cap', hv', hc, hrow⟩
          · simp at hmt
          · subst hv'
            injection hu with e1 e2 e3
            subst e1
            subst e3
            have hgw : g < w.heap.size := World.block_lt_of_cell? w ⟨g, o + 0, none⟩ (hrow 0 h0)
            have HXX : Hid (∀ Y, Below w.heap.size w Y → Y.cell? ⟨g, o + m, none⟩ = some (.string row[m])) := fun Y hY => (hrow.up hY hgw) m hmt
            have cx := HXX.out _ HI.out.bl
            have HXS : Hid (row[m].size ≤ 140737488351300) := HSL.out _ (List.getElem_mem hmt)
            have HTK : Hid (row.take (m + 1) = row.take m ++ [row[m]]) := List.take_succ_eq_append_getElem hmt
            generalize row[m] = x at cx HXX HXS HTK
            have HH1 : Hid (∀ b, (b = true ↔ x ∈ T) → Calls Tryd.prog 26 #[u3, .string x] wr fun e w' => e = .returned (.bool b) ∧ w' = wr) := fun b hb => HasText_any u3 T x wr (tx_own (by have := HTl.out; omega) HI.out.ot) b hb
            by_cases hin : x ∈ T
            · have HH : Hid (Calls Tryd.prog 26 #[u3, .string x] wr fun e w' => e = .returned (.bool true) ∧ w' = wr) := HH1.out true (by simp [hin])
              have HIN : Hid (ClI w wr u3 u4 T (seen ++ row.take (m + 1))) := by
                refine ⟨HI.out.ot, HI.out.od, HI.out.ne, HI.out.bl, HI.out.inj, fun y hy => ?_, ?_⟩
                · rw [HTK.out, ← List.append_assoc] at hy
                  rcases List.mem_append.1 hy with h1 | h1
                  · exact HI.out.all y h1
                  · simp at h1; subst h1; exact hin
                · have h1 := HI.out.le
                  rw [HTK.out, ← List.append_assoc, List.length_append]
                  omega
              clear hin hrow
              go_wp2_with fail
              refine HH.out.mono ?_
              rintro e w' ⟨rfl, rfl⟩
              go_wp2
              refine ⟨⟨m + 1, T, by omega, by go_num, HIN⟩, by simp [intOf]; omega⟩
            · have HH : Hid (Calls Tryd.prog 26 #[u3, .string x] wr fun e w' => e = .returned (.bool false) ∧ w' = wr) := HH1.out false (by simp [hin])
              have HSM : Hid (Calls Tryd.prog 11 #[.string x] wr fun e w' => e = .returned (.string (smB x)) ∧ Below wr.heap.size wr w') := RSm_any x wr HXS.out
              have HNI : Hid (x ∉ T) := hin
              have HH2 : Hid (∀ b Y, Below wr.heap.size wr Y → (b = true ↔ smB x ∈ T.map smB) → Calls Tryd.prog 26 #[u4, .string (smB x)] Y fun e w' => e = .returned (.bool b) ∧ w' = Y) := fun b Y hY hb => HasText_any u4 (T.map smB) (smB x) Y (tx_own' (by rw [List.length_map]; have := HTl.out; omega) (List.length_map ..) (own_below HI.out.od hY)) b hb
              clear hin hrow
              go_wp2_with fail
              refine HH.out.mono ?_
              rintro e w' ⟨rfl, rfl⟩
              go_wp2_with fail
              refine HSM.out.mono ?_
              rintro e w3 ⟨rfl, hb3⟩
              have B3 : Hid (Below _ _ w3) := hb3
              have cu3 := (HU.out w3 (bl_tr HI.out.bl hb3)).1
              have cx3 := HXX.out w3 (bl_tr HI.out.bl hb3)
              clear hb3
              by_cases hin2 : smB x ∈ T.map smB
              · have HH3 : Hid (Calls Tryd.prog 26 #[u4, .string (smB x)] w3 fun e w' => e = .returned (.bool true) ∧ w' = w3) := HH2.out true w3 B3.out (by simp only [hin2])
                clear hin2
                generalize smB x = d at *
                go_wp2_with fail
                refine HH3.out.mono ?_
                rintro e w' ⟨rfl, rfl⟩
                go_wp2
                go_ret
                exact ⟨true, rfl, fun h => (by cases h), bl_tr HI.out.bl B3.out⟩
              · have HH3 : Hid (Calls Tryd.prog 26 #[u4, .string (smB x)] w3 fun e w' => e = .returned (.bool false) ∧ w' = w3) := HH2.out false w3 B3.out (by simp only [hin2]; simp)
                have HN2 : Hid (smB x ∉ T.map smB) := hin2
                have HJ : Hid (InjL (T ++ [x])) := inj_snoc HI.out.inj hin2
                have HMP : Hid ((T ++ [x]).map smB = T.map smB ++ [smB x]) := by show _ = _; simp
                clear hin2
                generalize smB x = d at *
                have hTz : T.length ≤ 100000000 := HTl.out
                have HO3 : Hid (w3.ownsRow w.heap.size 9 1 u3 T.length (scs T) ∧ w3.ownsRow w.heap.size 9 1 u4 T.length (scs (T.map smB)) ∧ Below w.heap.size w w3) := ⟨own_below HI.out.ot B3.out, own_below HI.out.od B3.out, bl_tr HI.out.bl B3.out⟩
                go_wp2_with fail
                refine HH3.out.mono ?_
                rintro e w' ⟨rfl, rfl⟩
                go_wp2_with (at_builtin; refine wpList_append_lies _ rfl _ _ 30 rfl w.heap.size 9 i0 (.string ⟨#[]⟩) 1 16 Tryd.underlying30 hi0 hz0 hz1 hz2 rfl (by decide) _ T.length (scs T) rfl (HO3.out.1.alloc _) ⟨_, 0, none⟩ 1 1 [.string x] rfl rfl ?c1 ?c2 (by decide) ?c3 ?c4 ?c5 (w'.heap.size + 1) ?c6 ?_)
                case c1 => exact new_one w' x
                case c2 => intro u hu; simp at hu; subst hu; rfl
                case c3 => unfold maxLen; omega
                case c4 => omega
                case c5 => rw [World.size_alloc]; have := HO3.out.2.2.size; omega
                case c6 => rw [World.size_alloc]
                intro g1 cap1 w1 hown1 hgrow1 hat1 hlt1
                have HD1 : Hid (∀ b, u4.ownBlock = some b → b < w'.heap.size) := fun b hb => (HO3.out.2.1.lt b hb).2
                have HO1 : Hid (w1.ownsRow w.heap.size 9 1 (.slice (some ⟨g1, 0, none⟩) (T.length + 1) cap1) (T.length + 1) (scs (T ++ [x])) ∧ w1.ownsRow w.heap.size 9 1 u4 T.length (scs (T.map smB)) ∧ Below w.heap.size w w1 ∧ u4.ownBlock ≠ some g1 ∧ g1 < w1.heap.size) := by
                  refine ⟨by rw [scs_snoc]; exact hown1, own_grown (HO3.out.2.1.alloc _) hgrow1 (fun b hb he => HI.out.ne b he hb), (bl_al HO3.out.2.2 _).grown hgrow1 (bl_al HO3.out.2.2 _).size (fun j hj => (HO3.out.1.lt j hj).1), ?_, hlt1⟩
                  intro he
                  rcases hat1 with h1 | h1
                  · exact HI.out.ne g1 h1 he
                  · have := HD1.out g1 he
                    omega
                clear hown1 hgrow1 hat1 hlt1
                go_wp2_with (at_builtin; refine wpList_append_lies _ rfl _ _ 30 rfl w.heap.size 9 i0 (.string ⟨#[]⟩) 1 16 Tryd.underlying30 hi0 hz0 hz1 hz2 rfl (by decide) _ T.length (scs (T.map smB)) rfl (HO1.out.2.1.alloc _) ⟨_, 0, none⟩ 1 1 [.string d] rfl rfl ?c1 ?c2 (by decide) ?c3 ?c4 ?c5 (w1.heap.size + 1) ?c6 ?_)
                case c1 => exact new_one w1 d
                case c2 => intro u hu; simp at hu; subst hu; rfl
                case c3 => unfold maxLen; omega
                case c4 => omega
                case c5 => rw [World.size_alloc]; have := HO1.out.2.2.1.size; omega
                case c6 => rw [World.size_alloc]
                intro g2 cap2 w2 hown2 hgrow2 hat2 hlt2
                have HIN : Hid (ClI w w2 (.slice (some ⟨g1, 0, none⟩) (T.length + 1) cap1) (.slice (some ⟨g2, 0, none⟩) (T.length + 1) cap2) (T ++ [x]) (seen ++ row.take (m + 1))) := by
                  have hTl : (T ++ [x]).length = T.length + 1 := by simp
                  refine ⟨?_, by rw [hTl, HMP.out, scs_snoc]; exact hown2, fun a ha hb => ?_, (bl_al HO1.out.2.2.1 _).grown hgrow2 (bl_al HO1.out.2.2.1 _).size (fun j hj => (HO1.out.2.1.lt j hj).1), HJ.out, fun y hy => ?_, ?_⟩
                  · rw [hTl]
                    refine own_grown (HO1.out.1.alloc _) hgrow2 (fun b hb he => ?_)
                    simp [Value.ownBlock] at hb
                    subst hb
                    exact HO1.out.2.2.2.1 he
                  · simp [Value.ownBlock] at ha hb
                    subst ha
                    subst hb
                    rcases hat2 with h1 | h1
                    · exact HO1.out.2.2.2.1 h1
                    · have := HO1.out.2.2.2.2
                      omega
                  · rw [HTK.out, ← List.append_assoc] at hy
                    rcases List.mem_append.1 hy with h1 | h1
                    · exact List.mem_append_left _ (HI.out.all y h1)
                    · exact List.mem_append_right _ h1
                  · have h1 := HI.out.le
                    rw [hTl, HTK.out, ← List.append_assoc, List.length_append]
                    simp only [List.length_cons, List.length_nil]
                    omega
                clear hown2 hgrow2 hat2 hlt2
                go_wp2
                refine ⟨⟨m + 1, T ++ [x], by omega, by go_num, HIN⟩, by simp [intOf]; omega⟩
        · obtain rfl : m = row.length := by omega
          subst hu
          have HIN : Hid (ClI w wr u3 u4 T (ls.take (j + 1)).flatten) := by
            have := HI.out
            rw [List.take_length, ← HFL.out] at this
            exact this
          go_wp2
          refine ⟨⟨j + 1, T, by omega, by go_num, HIN⟩, by simp [intOf]; omega⟩
    · obtain rfl : j = ls.length := by omega
      have HIN : Hid (InjL ls.flatten) := by
        intro x y hx hy he
        have h2 := HI.out.all
        rw [List.take_length] at h2
        exact HI.out.inj x y (h2 x hx) (h2 y hy) he
      go_wp2
      go_ret
      exact ⟨false, rfl, fun _ => HIN.out, HI.out.bl⟩
end Go.Proofs.YtoceglbdnbnjpaaDoor

/- A store, and one text in it that is pinned: what CasKeeps asks. -/
namespace Go.Proofs.YtoceglbdnbnjpaaDoor
open Go.RowKit Go.Shelf Go.Maps Go.WideMaps

theorem del_keep : ∀ (E : List Ent) (y : Ent), y ∈ E → y.pins ≠ 0 → y ∈ delF E
  | e :: r, y, h, hp => by
    unfold delF
    split
    · rename_i h0
      rcases List.mem_cons.1 h with rfl | h
      · exact absurd h0 hp
      · exact h
    · rcases List.mem_cons.1 h with rfl | h
      · simp
      · exact List.mem_cons_of_mem _ (del_keep r y h hp)
theorem gon_keep (rm n : Nat) : ∀ (f : Nat) (E : List Ent) (y : Ent), y ∈ E → y.pins ≠ 0 → y ∈ gonF rm n f E
  | 0, _, _, h, _ => h
  | f + 1, E, y, h, hp => by
    unfold gonF
    split
    · exact h
    · exact gon_keep rm n f _ y (del_keep E y h hp) hp
theorem us_mem {E1 E2 : List Ent} {e y : Ent} {tn : Nat} : y ∈ usE E1 E2 e tn ↔ y ∈ E1 ++ E2 ∨ y = { e with turn := tn + 1 } := by
  unfold usE
  rw [List.mem_append, List.mem_singleton]
theorem piE_zero : ∀ (E : List Ent), (∀ y ∈ E, y.pins = 0) → piE E = 0
  | [], _ => rfl
  | e :: r, h => by
    have := piE_zero r fun y hy => h y (by simp [hy])
    unfold piE at this ⊢
    rw [List.map_cons, List.sum_cons, this, if_pos (h e (by simp))]
/-- The one is there, and pinned once; no other one is; each has its own digest. -/
structure KpI (first : ByteArray) (S : List ByteArray) (E : List Ent) : Prop where
  one : ∃ e ∈ E, e.dg = smB first ∧ e.tx = first ∧ e.pins = 1
  oth : ∀ y ∈ E, y.pins ≠ 0 → y.dg = smB first
  all : ∀ y ∈ E, y.dg = smB y.tx ∧ y.tx ∈ S
theorem KpI.pi {first : ByteArray} {S : List ByteArray} {E : List Ent} (h : KpI first S E) (hd : E.Pairwise fun a b => a.dg ≠ b.dg) : piE E = first.size := by
  obtain ⟨e, he, h1, h2, h3⟩ := h.one
  obtain ⟨E1, E2, rfl⟩ := List.append_of_mem he
  rw [piE_mid, if_neg (by omega), h2, piE_zero]
  · rfl
  · intro y hy
    refine Classical.byContradiction fun hp => ?_
    exact mid_dg hd y hy ((h.oth y (mid_sub.subset hy) hp).trans h1.symm)
/-- One of these is used. -/
theorem KpI.used {first : ByteArray} {S : List ByteArray} {E1 E2 : List Ent} {e : Ent} (h : KpI first S (E1 ++ e :: E2)) (tn : Nat) : KpI first S (usE E1 E2 e tn) := by
  have he : e ∈ E1 ++ e :: E2 := by simp
  refine ⟨?_, fun y hy hp => ?_, fun y hy => ?_⟩
  · obtain ⟨z, hz, h1, h2, h3⟩ := h.one
    rcases mid_mem.1 hz with rfl | hz
    · exact ⟨_, us_mem.2 (.inr rfl), h1, h2, h3⟩
    · exact ⟨z, us_mem.2 (.inl hz), h1, h2, h3⟩
  · rcases us_mem.1 hy with hy | rfl
    · exact h.oth y (mid_sub.subset hy) hp
    · exact h.oth e he hp
  · rcases us_mem.1 hy with hy | rfl
    · exact h.all y (mid_sub.subset hy)
    · exact h.all e he
/-- These texts are there. -/
def HasE (E : List Ent) (X : List ByteArray) : Prop := ∀ t ∈ X, ∃ y ∈ E, y.dg = smB t ∧ y.tx = t
theorem HasE.used {E1 E2 : List Ent} {e : Ent} {X : List ByteArray} (h : HasE (E1 ++ e :: E2) X) (tn : Nat) : HasE (usE E1 E2 e tn) X := fun t ht => by
  obtain ⟨y, hy, h1, h2⟩ := h t ht
  rcases mid_mem.1 hy with rfl | hy
  · exact ⟨_, us_mem.2 (.inr rfl), h1, h2⟩
  · exact ⟨y, us_mem.2 (.inl hy), h1, h2⟩
/-- The store as CasKeeps has it. -/
structure KSt (B P M rm : Nat) (w0 : World) (first : ByteArray) (S : List ByteArray) (n : Nat) (X : List ByteArray) (w : World) : Prop where
  st : ∃ tn E I, CS B P M rm tn E I w ∧ tn ≤ n ∧ KpI first S E ∧ HasE E X
  be : Below w0.heap.size w0 w
  lo : w0.heap.size ≤ B
  hi : B ≤ w.heap.size
theorem KSt.drewN {B P M rm : Nat} {w0 : World} {first : ByteArray} {S : List ByteArray} {n : Nat} {X : List ByteArray} {w : World} (h : KSt B P M rm w0 first S n X w) (m : Nat) : KSt B P M rm w0 first S n X (w.drewN m) := by
  obtain ⟨tn, E, I, h1, h2⟩ := h.st
  exact ⟨⟨tn, E, I, h1.drewN m, h2⟩, ⟨h.be.os, h.be.tape, h.be.output, h.be.size, h.be.block⟩, h.lo, h.hi⟩
theorem CS.pl {B P M rm tn : Nat} {E : List Ent} {I : List Nat} {w : World} (h : CS B P M rm tn E I w) : PlE rm tn E := by
  obtain ⟨v, L, h1, _⟩ := h
  exact h1.pl
section
variable {B P M rm : Nat} {w0 : World} {first : ByteArray} {S : List ByteArray} {n : Nat} {X : List ByteArray} {w : World}
/-- How a text that is put comes out here. -/
def KPut (B P M rm : Nat) (w0 : World) (first : ByteArray) (S : List ByteArray) (n : Nat) (tx : ByteArray) (r : Ending) (w' : World) : Prop := ∃ k : Int, r = .returned (.tuple #[.string (putS tx k), .int .i64 k]) ∧ ((k = 0 ∧ tx.size ≤ 100000 ∧ KSt B P M rm w0 first S (n + 1) [tx] w') ∨ (k = 2 ∧ (100000 < tx.size ∨ rm < first.size + tx.size) ∧ KSt B P M rm w0 first S (n + 1) [] w'))
theorem k_put (h : KSt B P M rm w0 first S n X w) (hR : Roots w0) (hn : n ≤ 10000) (tx : ByteArray) (hs : tx.size ≤ 140737488355328) (ht : tx ∈ S) (hS : InjL S) :
    Calls Tryd.prog 14 #[kp P, .string tx] w (KPut B P M rm w0 first S n tx) := by
  obtain ⟨tn, E, I, h1, h2, h3, h4⟩ := h.st
  refine (Put_any h1 h.hi (hR.up h.be) tx hs (by omega)).mono ?_
  rintro r w' ⟨k, tn', E', I', rfl, q1, q2, q3⟩
  have hb : Below w0.heap.size w0 w' := h.be.trans ((q2.below (fun g hg => (h1.lt g hg).1) h.hi).mono h.lo)
  have hh : B ≤ w'.heap.size := Nat.le_trans h.hi q2.size
  refine ⟨k, rfl, ?_⟩
  rcases q3 with ⟨rfl, rfl, rfl, q4⟩ | ⟨rfl, rfl, q4, ⟨E1, e, E2, rfl, hd, rfl⟩ | ⟨hd, hp, b, rfl⟩⟩
  · refine .inr ⟨rfl, ?_, ⟨⟨_, _, I', q1, by omega, h3, fun t ht => by cases ht⟩, hb, h.lo, hh⟩⟩
    rcases q4 with q4 | ⟨_, q4⟩
    · exact .inl q4
    · rw [h3.pi h1.pl.dn] at q4
      exact .inr q4
  · refine .inl ⟨rfl, q4, ⟨⟨_, _, I', q1, by omega, h3.used tn, fun t ht => ?_⟩, hb, h.lo, hh⟩⟩
    rw [List.mem_singleton] at ht
    subst ht
    obtain ⟨a1, a2⟩ := h3.all e (by simp)
    have : e.tx = t := hS _ _ a2 ‹_› (a1.symm.trans hd)
    exact ⟨_, us_mem.2 (.inr rfl), hd, this⟩
  · refine .inl ⟨rfl, q4, ⟨⟨_, _, I', q1, by omega, ⟨?_, fun y hy hp => ?_, fun y hy => ?_⟩, fun t ht => ?_⟩, hb, h.lo, hh⟩⟩
    · obtain ⟨e, he, a1, a2, a3⟩ := h3.one
      exact ⟨e, List.mem_append_left _ (gon_keep _ _ _ _ e he (by omega)), a1, a2, a3⟩
    · rcases List.mem_append.1 hy with hy | hy
      · exact h3.oth y (gon_sub _ _ _ _ y hy) hp
      · rw [List.mem_singleton] at hy
        subst hy
        exact absurd rfl hp
    · rcases List.mem_append.1 hy with hy | hy
      · exact h3.all y (gon_sub _ _ _ _ y hy)
      · rw [List.mem_singleton] at hy
        subst hy
        exact ⟨rfl, ht⟩
    · rw [List.mem_singleton] at ht
      subst ht
      exact ⟨_, List.mem_append_right _ (List.mem_singleton.2 rfl), rfl, rfl⟩
theorem k_room (h : KSt B P M rm w0 first S n X w) : Calls Tryd.prog 23 #[kp P] w fun r w' => ∃ u c : Nat, r = .returned (.tuple #[.int .i64 (u : Int), .int .i64 (c : Int)]) ∧ u ≤ rm ∧ Hid (KSt B P M rm w0 first S n X w') := by
  obtain ⟨tn, E, I, h1, h2, h3, h4⟩ := h.st
  refine (Room_any h1).mono ?_
  rintro r w' ⟨rfl, m, rfl⟩
  exact ⟨_, _, rfl, h1.pl.fit, h.drewN m⟩
theorem k_get (h : KSt B P M rm w0 first S n X w) (hn : n ≤ 10000) (t : ByteArray) (ht : t = first ∨ t ∈ X) :
    Calls Tryd.prog 17 #[kp P, .string (smB t)] w fun r w' => r = .returned (.tuple #[.string t, .int .i64 0]) ∧ Hid (KSt B P M rm w0 first S (n + 1) X w') := by
  obtain ⟨tn, E, I, h1, h2, h3, h4⟩ := h.st
  obtain ⟨e, he, hd, htx⟩ : ∃ y ∈ E, y.dg = smB t ∧ y.tx = t := by
    rcases ht with rfl | ht
    · obtain ⟨e, he, a1, a2, _⟩ := h3.one
      exact ⟨e, he, a1, a2⟩
    · exact h4 t ht
  obtain ⟨E1, E2, rfl⟩ := List.append_of_mem he
  have := Get_yes h1 (by rw [hd]; exact sm_dig t) (by omega)
  rw [hd, htx] at this
  refine this.mono ?_
  rintro r w' ⟨rfl, I', q1, q2⟩
  exact ⟨rfl, ⟨⟨_, _, I', q1, by omega, h3.used tn, h4.used tn⟩, h.be.trans ((q2.below (fun g hg => (h1.lt g hg).1) h.hi).mono h.lo), h.lo, Nat.le_trans h.hi q2.size⟩⟩
theorem k_unpin (h : KSt B P M rm w0 first S n X w) (hn : n ≤ 10000) :
    Calls Tryd.prog 20 #[kp P, .string (smB first)] w fun r w' => r = .returned (.int .i64 0) ∧ Below w0.heap.size w0 w' := by
  obtain ⟨tn, E, I, h1, h2, h3, h4⟩ := h.st
  obtain ⟨e, he, hd, htx, hp⟩ := h3.one
  obtain ⟨E1, E2, rfl⟩ := List.append_of_mem he
  have := Unpin_last h1 h.hi (by rw [hd]; exact sm_dig first) hp (by omega)
  rw [hd] at this
  refine this.mono ?_
  rintro r w' ⟨rfl, I', q1, q2⟩
  exact ⟨rfl, h.be.trans ((q2.below (fun g hg => (h1.lt g hg).1) h.hi).mono h.lo)⟩
end
/-- The first text is put, and pinned. -/
theorem k_first {P M rm : Nat} {I : List Nat} {w0 w1 w2 : World} (hB : Below w0.heap.size w0 w1) (hc : CS w1.heap.size P M rm 0 [] I w2) (hb : Below w1.heap.size w1 w2) (hR : Roots w0) (first : ByteArray) (hs : first.size ≤ 140737488355328) :
    Calls Tryd.prog 14 #[kp P, .string first] w2 fun r w' => ∃ k : Int, r = .returned (.tuple #[.string (putS first k), .int .i64 k]) ∧ Below w0.heap.size w0 w' ∧ ((k = 2 ∧ (100000 < first.size ∨ rm < first.size)) ∨ (k = 0 ∧ ∀ w3, Below w'.heap.size w' w3 → Calls Tryd.prog 19 #[kp P, .string (smB first)] w3 fun r w4 => r = .returned (.int .i64 0) ∧ Hid (KSt w1.heap.size P M rm w0 first [first] 1 [] w4))) := by
  have hbb : Below w0.heap.size w0 w2 := hB.trans (hb.mono hB.size)
  refine (Put_any hc hb.size (hR.up hbb) first hs (by omega)).mono ?_
  rintro r w' ⟨k, tn', E', I', rfl, q1, q2, q3⟩
  have hb3 : Below w0.heap.size w0 w' := hbb.trans ((q2.below (fun g hg => (hc.lt g hg).1) hb.size).mono hB.size)
  refine ⟨k, rfl, hb3, ?_⟩
  rcases q3 with ⟨rfl, rfl, rfl, q4⟩ | ⟨rfl, rfl, q4, ⟨E1, e, E2, hE, hd, rfl⟩ | ⟨hd, hp, b, rfl⟩⟩
  · refine .inl ⟨rfl, ?_⟩
    rcases q4 with q4 | ⟨_, q4⟩
    · exact .inl q4
    · rw [show piE [] = 0 from rfl, Nat.zero_add] at q4
      exact .inr q4
  · exact absurd hE (by simp)
  · refine .inr ⟨rfl, fun w3 hb4 => ?_⟩
    have he : gonF rm first.size ([] : List Ent).length [] ++ [(⟨smB first, first, 0, 0 + 1, b⟩ : Ent)] = [] ++ ⟨smB first, first, 0, 1, b⟩ :: [] := rfl
    rw [he] at q1
    have hc3 := q1.up hb4
    refine (Pin_first hc3 (sm_dig first) rfl (by omega)).mono ?_
    rintro r w4 ⟨rfl, I4, c1, c2⟩
    have hb5 : Below w0.heap.size w0 w3 := hb3.trans (hb4.mono hb3.size)
    have hh : w1.heap.size ≤ w3.heap.size := by have := hb.size; have := q2.size; have := hb4.size; omega
    refine ⟨rfl, ⟨⟨_, _, I4, c1, by omega, ⟨?_, fun y hy hp => ?_, fun y hy => ?_⟩, fun t ht => by cases ht⟩, hb5.trans ((c2.below (fun g hg => (hc3.lt g hg).1) hh).mono hB.size), hB.size, Nat.le_trans hh c2.size⟩⟩
    · exact ⟨_, pin_mem.2 (.inl rfl), rfl, rfl, rfl⟩
    · rcases pin_mem.1 hy with rfl | hy
      · rfl
      · cases hy
    · rcases pin_mem.1 hy with rfl | hy
      · exact ⟨rfl, by simp⟩
      · cases hy
end Go.Proofs.YtoceglbdnbnjpaaDoor

/- CasKeeps, walked. -/
namespace Go.Proofs.YtoceglbdnbnjpaaDoor
open Go.RowKit Go.Shelf Go.Maps Go.WideMaps

theorem Tx.cap {w : World} {a : Option Addr} {n cap : Nat} {ss : List ByteArray} (h : Tx w (.slice a n cap) ss) : ss.length ≤ cap := by
  rcases h.2 with ⟨rfl, _⟩ | ⟨_, g, o, c, e, hc, _⟩
  · exact Nat.zero_le _
  · injection e with _ _ e
    omega
theorem Tx.take {w : World} {a : Option Addr} {n cap : Nat} {ss : List ByteArray} (h : Tx w (.slice a n cap) ss) (k : Nat) (hk : k ≤ ss.length) : Tx w (.slice a k cap) (ss.take k) := by
  have hl : (ss.take k).length = k := by rw [List.length_take]; omega
  refine ⟨by rw [hl]; have := h.1; omega, ?_⟩
  by_cases h0 : k = 0
  · subst h0
    exact .inl ⟨rfl, a, cap, rfl⟩
  · rcases h.2 with ⟨rfl, _⟩ | ⟨_, g, o, c, e, hc, hr⟩
    · exact absurd hk (by simp; omega)
    · injection e with e1 _ e2
      subst e1 e2
      refine .inr ⟨by omega, g, o, cap, by rw [hl], by omega, fun j hj => ?_⟩
      rw [hl] at hj
      rw [hr j (by omega), List.getElem_take]
theorem clash_two (first : ByteArray) (ss : List ByteArray) (kk : Nat) (a : Option Addr) (cap : Nat) (w w3 : World) (hb : Below w.heap.size w w3) (h : Tx w (.slice a ss.length cap) ss) (hk : kk ≤ ss.length) (hk4 : kk ≤ 40) (hf : first.size ≤ 140737488351232) (hs : ∀ s ∈ ss, s.size ≤ 140737488351232) :
    Calls Tryd.prog 10 #[.slice (some ⟨w3.heap.size + 1, 0, none⟩) 2 2] ((w3.alloc (.cells #[.string first] 9)).alloc (.cells #[.slice (some ⟨w3.heap.size, 0, none⟩) 1 1, .slice a kk cap] 30)) fun e w' => ∃ b, e = .returned (.bool b) ∧ (b = false → InjL (first :: ss.take kk)) ∧ Below w3.heap.size w3 w' := by
  obtain ⟨W, hW⟩ : ∃ W, W = (w3.alloc (.cells #[.string first] 9)).alloc (.cells #[.slice (some ⟨w3.heap.size, 0, none⟩) 1 1, .slice a kk cap] 30) := ⟨_, rfl⟩
  have hbW : Below w3.heap.size w3 W := by rw [hW]; exact ((Below.refl _ w3).alloc (Nat.le_refl _) _).alloc (by simp) _
  have h1 : W.heap[w3.heap.size]? = some (.cells #[.string first] 9 (0, 0)) := by rw [hW]; exact (Below.heap_alloc _ _ _ (by simp)).trans (heap_alloc_new w3 _)
  have h2 : W.heap[w3.heap.size + 1]? = some (.cells #[.slice (some ⟨w3.heap.size, 0, none⟩) 1 1, .slice a kk cap] 30 (0, 0)) := by
    rw [hW]
    have := heap_alloc_new (w3.alloc (.cells #[.string first] 9)) (.cells #[.slice (some ⟨w3.heap.size, 0, none⟩) 1 1, .slice a kk cap] 30)
    rwa [World.size_alloc] at this
  rw [← hW]
  have := Clash_any (w3.heap.size + 1) 0 2 [[first], ss.take kk] W (by simp) (by simp; omega) (fun l hl s hsl => ?_) (fun j hj => ?_)
  · refine this.mono ?_
    rintro e w' ⟨b, rfl, hb1, hb2⟩
    refine ⟨b, rfl, fun hb3 => ?_, hbW.trans (hb2.mono hbW.size)⟩
    have := hb1 hb3
    simpa using this
  · simp only [List.mem_cons, List.not_mem_nil, or_false] at hl
    rcases hl with rfl | rfl
    · rw [List.mem_singleton] at hsl; subst hsl; omega
    · have := hs s (List.mem_of_mem_take hsl); omega
  · have hj2 : j = 0 ∨ j = 1 := by simp at hj; omega
    rcases hj2 with rfl | rfl
    · refine ⟨_, by rw [Lib.cell_of_heap h2]; rfl, by simp, .inr ⟨by simp, w3.heap.size, 0, 1, rfl, by simp, fun i hi => ?_⟩⟩
      have : i = 0 := by simp at hi; omega
      subst this
      rw [Lib.cell_of_heap h1]; rfl
    · refine ⟨_, by rw [Lib.cell_of_heap h2]; rfl, ?_⟩
      exact ((h.take kk hk).up hb).up hbW
theorem KSt.mono {B P M rm : Nat} {w0 : World} {first : ByteArray} {S S' : List ByteArray} {n : Nat} {X : List ByteArray} {w : World} (h : KSt B P M rm w0 first S n X w) (hS : ∀ x ∈ S, x ∈ S') : KSt B P M rm w0 first S' n X w := by
  obtain ⟨tn, E, I, h1, h2, h3, h4⟩ := h.st
  exact ⟨⟨tn, E, I, h1, h2, ⟨h3.one, h3.oth, fun y hy => ⟨(h3.all y hy).1, hS _ (h3.all y hy).2⟩⟩, h4⟩, h.be, h.lo, h.hi⟩
theorem KSt.more {B P M rm : Nat} {w0 : World} {first : ByteArray} {S : List ByteArray} {n n' : Nat} {X : List ByteArray} {w : World} (h : KSt B P M rm w0 first S n X w) (hn : n ≤ n') : KSt B P M rm w0 first S n' [] w := by
  obtain ⟨tn, E, I, h1, h2, h3, h4⟩ := h.st
  exact ⟨⟨tn, E, I, h1, by omega, h3, fun t ht => by cases ht⟩, h.be, h.lo, h.hi⟩

set_option maxHeartbeats 8000000 in
set_option maxRecDepth 100000 in
theorem keeps_out (r : Int) (first : ByteArray) (v : Value) (w : World) (hr : r < 0 ∨ 9007199254740991 < r) (hR : Roots w) :
    Calls Tryd.prog 4 #[.int .i64 r, .string first, v] w fun e w' => e = .returned (.bool true) ∧ Below w.heap.size w w' := by
  have HB : Hid (Calls Tryd.prog 6 #[] w fun e w' => e = .returned (.bool true) ∧ Below w.heap.size w w') := casBegun_any w hR
  have HN : Hid (∀ W, Calls Tryd.prog 7 #[.int .i64 r] W fun e w' => e = .returned (.tuple #[.pointer none, .int .i64 3]) ∧ w' = W) := fun W => New_no r W hr
  clear hr hR
  go_enter Tryd.func4, Tryd.ntmps4
  go_wp2_with (first
    | (go_at_call 6; refine HB.out.mono ?_; rintro e w1 ⟨rfl, hb1⟩)
    | (go_at_call 7; refine (HN.out _).mono ?_; rintro e w2 ⟨rfl, rfl⟩)
    | go_in)
  go_ret
  exact ⟨rfl, hb1⟩

set_option maxHeartbeats 8000000 in
set_option maxRecDepth 100000 in
theorem keeps_in (rm : Nat) (first : ByteArray) (v : Value) (ss : List ByteArray) (w : World) (hr : rm ≤ 9007199254740991) (h : Tx w v ss) (hf : first.size ≤ 140737488351232) (hs : ∀ s ∈ ss, s.size ≤ 140737488351232) (hR : Roots w) :
    Calls Tryd.prog 4 #[.int .i64 (rm : Int), .string first, v] w fun e w' => e = .returned (.bool true) ∧ Below w.heap.size w w' := by
  have HB : Hid (Calls Tryd.prog 6 #[] w fun e w' => e = .returned (.bool true) ∧ Below w.heap.size w w') := casBegun_any w hR
  have HN : Hid (∀ W, Calls Tryd.prog 7 #[.int .i64 (rm : Int)] W (NwP rm W)) := fun W => New_yes rm W hr
  have HP : Hid (∀ (P M : Nat) (I : List Nat) (w1 w2 : World), Below w.heap.size w w1 → CS w1.heap.size P M rm 0 [] I w2 → Below w1.heap.size w1 w2 → Calls Tryd.prog 14 #[kp P, .string first] w2 fun r w' => ∃ k : Int, r = .returned (.tuple #[.string (putS first k), .int .i64 k]) ∧ Below w.heap.size w w' ∧ ((k = 2 ∧ (100000 < first.size ∨ rm < first.size)) ∨ (k = 0 ∧ ∀ w3, Below w'.heap.size w' w3 → Calls Tryd.prog 19 #[kp P, .string (smB first)] w3 fun r w4 => r = .returned (.int .i64 0) ∧ Hid (KSt w1.heap.size P M rm w first [first] 1 [] w4)))) := fun P M I w1 w2 a1 a2 a3 => k_first a1 a2 a3 hR first (by omega)
  have HT : Hid (Tx w v ss) := h
  have hpn : ∀ (P : Nat) (W : World), (binOp BinOp.eql 24 (kp P) (.pointer none)).run Tryd.prog W = .ok (.bool false) W := fun P W => by kernel_rfl
  obtain ⟨a, cap, rfl⟩ := h.shape
  have hn1 : ss.length ≤ 4611686018427387904 := h.1
  have hi1 : (ss.length : Int) ≤ 4611686018427387904 := by omega
  have HR : Hid (Roots w) := hR
  have HZ : Hid (∀ s ∈ ss, s.size ≤ 140737488351232) := hs
  clear h hR
  go_enter Tryd.func4, Tryd.ntmps4
  go_wp2_with fail
  refine HB.out.mono ?_
  rintro e w1 ⟨rfl, hb1⟩
  have HB1 : Hid (Below w.heap.size w w1) := hb1
  clear hb1
  go_wp2_with fail
  refine (HN.out _).mono ?_
  rintro e w2 ⟨P, M, I, rfl, hc2, hb2⟩
  have hp2 := HP.out P M I w1 w2 HB1.out hc2 hb2
  clear hc2 hb2 HP
  go_wp2_with fail
  refine hp2.mono ?_
  rintro e w3 ⟨k, rfl, hb3, hk⟩
  have HB3 : Hid (Below w.heap.size w w3) := hb3
  clear hb3 hp2
  rcases hk with ⟨rfl, hk⟩ | ⟨rfl, hk⟩
  · by_cases h1 : rm < first.size
    · have k1 : (rm : Int) < (first.size : Int) := by omega
      clear hk
      go_wp2
      go_ret
      exact ⟨rfl, HB3.out⟩
    · have k1 : ¬ (rm : Int) < (first.size : Int) := by omega
      have k2 : (100000 : Int) < (first.size : Int) := by omega
      clear hk
      go_wp2
      go_ret
      exact ⟨rfl, HB3.out⟩
  · have HPin : Hid (∀ w3_1, Below w3.heap.size w3 w3_1 → Calls Tryd.prog 19 #[kp P, .string (smB first)] w3_1 fun r w4 => r = .returned (.int .i64 0) ∧ Hid (KSt w1.heap.size P M rm w first [first] 1 [] w4)) := hk
    clear hk
    have hps : putS first 0 = smB first := rfl
    rw [hps]
    clear hps
    obtain ⟨kk, hkk⟩ : ∃ kk, kk = min ss.length 40 := ⟨_, rfl⟩
    have hca : ss.length ≤ cap := HT.out.cap
    have m1 : min (ss.length : Int) 40 = (kk : Int) := by omega
    have m2 : (kk : Int) ≤ (cap : Int) := by omega
    have m3 : kk ≤ cap := by omega
    have m4 : ¬ (kk : Int) < 0 := by omega
    have HK : Hid (kk = min ss.length 40) := hkk
    have hcl := clash_two first ss kk a cap w w3 HB3.out HT.out (by omega) (by omega) hf hs
    clear hca hkk
    go_wp2_with fail
    refine hcl.mono ?_
    rintro e w5 ⟨b, rfl, hinj, hb5⟩
    have HB5 : Hid (Below w3.heap.size w3 w5) := hb5
    clear hcl hb5 m1 m2 m3 m4
    cases b with
    | true =>
      have HB6 : Hid (Below w.heap.size w w5) := HB3.out.trans (HB5.out.mono HB3.out.size)
      clear hinj
      go_wp2
      go_ret
      exact ⟨rfl, HB6.out⟩
    | false =>
      have HI : Hid (InjL (first :: ss.take kk)) := hinj rfl
      have hpin := HPin.out w5 HB5.out
      clear hinj HPin
      go_wp2_with fail
      refine hpin.mono ?_
      rintro e w6 ⟨rfl, hk6⟩
      have HK6 : Hid (KSt w1.heap.size P M rm w first (first :: ss.take kk) 1 [] w6) := hk6.out.mono (fun x hx => by rw [List.mem_singleton] at hx; rw [hx]; simp)
      clear hpin hk6 HN HB HB1 HB3 HB5 hpn hs
      go_wp2
      go_loopw [10] (fun i wr => ∃ j : Nat, j ≤ kk ∧ i = .int .i64 (j : Int) ∧ Hid (KSt w1.heap.size P M rm w first (first :: ss.take kk) (1 + 3 * j) [] wr)) (fun i _ => kk - (intOf i).toNat)
      case atStart => exact ⟨0, Nat.zero_le _, rfl, HK6⟩
      case round =>
        obtain ⟨j, hj, rfl, HS⟩ := hrel
        by_cases hlt : j < kk
        · have hkk := HK.out
          have hjl : j < ss.length := by omega
          have hji : (j : Int) < (ss.length : Int) := by omega
          have hj4 : (j : Int) < 40 := by omega
          obtain ⟨g, o, hao, hrow⟩ : ∃ g o, a = some ⟨g, o, none⟩ ∧ Row w g o ss := by
            rcases HT.out.2 with ⟨h0, _⟩ | ⟨_, g, o, c, e, _, hr⟩
            · rw [h0] at hjl; cases hjl
            · injection e with e1
              exact ⟨g, o, e1, hr⟩
          subst hao
          have hglt : g < w.heap.size := World.block_lt_of_cell? w ⟨g, o + j, none⟩ (hrow j hjl)
          obtain ⟨tx, htx⟩ : ∃ tx, tx = ss[j] := ⟨_, rfl⟩
          have hc0 := hrow j hjl
          rw [← htx] at hc0
          have HC : Hid (∀ W, Below w.heap.size w W → W.cell? ⟨g, o + j, none⟩ = some (.string tx)) := fun W hW => (hW.cell (p := ⟨g, o + j, none⟩) hglt).trans hc0
          have cx := HC.out wr HS.out.be
          have htm : tx ∈ first :: ss.take kk := by
            rw [htx]
            refine List.mem_cons_of_mem _ ?_
            rw [List.mem_iff_getElem]
            exact ⟨j, by rw [List.length_take]; omega, by rw [List.getElem_take]⟩
          have htz : tx.size ≤ 140737488351232 := by rw [htx]; exact HZ.out _ (List.getElem_mem hjl)
          have hput : Calls Tryd.prog 14 #[kp P, .string tx] wr (KPut w1.heap.size P M rm w first (first :: ss.take kk) (1 + 3 * j) tx) := k_put HS.out HR.out (by omega) tx (by omega) htm HI.out
          have HSm : Hid (∀ W, Below w.heap.size w W → Calls Tryd.prog 25 #[.string tx] W fun e w' => e = .returned (.string (smB tx)) ∧ Below W.heap.size W w') := fun W hW => Sm_any tx W (by omega) (HR.out.up hW)
          obtain ⟨y, hy⟩ : ∃ y, y = j + 1 := ⟨_, rfl⟩
          have i1 : (j : Int) + 1 = (y : Int) := by omega
          have i2 : IntKind.i64.wrap (y : Int) = (y : Int) := by rw [IntKind.wrap_i64]; omega
          have HJ : Hid (j < kk ∧ kk ≤ 40 ∧ y = j + 1) := ⟨hlt, by omega, hy⟩
          clear hy
          clear htx hc0 hrow hjl hkk hlt htm
          go_wp2_with fail
          refine hput.mono ?_
          rintro e w7 ⟨k, rfl, hk⟩
          clear hput
          rcases hk with ⟨rfl, hsz, hk⟩ | ⟨rfl, hsz, hk⟩
          · have hps : putS tx 0 = smB tx := rfl
            rw [hps]
            have HK7 : Hid (KSt w1.heap.size P M rm w first (first :: ss.take kk) (1 + 3 * j + 1) [tx] w7) := hk
            have hroom := k_room hk
            have cx7 := HC.out w7 hk.be
            clear hk hps hsz
            go_wp2_with fail
            refine hroom.mono ?_
            rintro e w8 ⟨u, c, rfl, hu, HK8⟩
            have ku : ¬ (rm : Int) < (u : Int) := by omega
            have hget := k_get HK8.out (by have := HJ.out; omega) first (.inl rfl)
            clear hroom HK7 hu
            go_wp2_with fail
            refine hget.mono ?_
            rintro e w9 ⟨rfl, HK9⟩
            have hget2 := k_get HK9.out (by have := HJ.out; omega) tx (.inr (by simp))
            clear hget HK8
            go_wp2_with fail
            refine hget2.mono ?_
            rintro e w10 ⟨rfl, HK10⟩
            have cx10 := HC.out w10 HK10.out.be
            have hsum := HSm.out w10 HK10.out.be
            clear hget2 HK9
            go_wp2_with fail
            refine hsum.mono ?_
            rintro e w11 ⟨rfl, hb11⟩
            have HK11 : Hid (KSt w1.heap.size P M rm w first (first :: ss.take kk) (1 + 3 * y) [] w11) := by
              obtain ⟨tn, E, I, a1, a2, a3, a4⟩ := HK10.out.st
              have hjy := HJ.out
              exact ⟨⟨tn, E, I, a1.up hb11, by omega, a3, fun t ht => by cases ht⟩, HK10.out.be.trans (hb11.mono HK10.out.be.size), HK10.out.lo, Nat.le_trans HK10.out.hi hb11.size⟩
            clear hsum HK10 hb11
            go_wp2
            obtain ⟨z1, z2, z3⟩ := HJ.out
            refine ⟨⟨y, by omega, rfl, HK11⟩, ?_⟩
            simp [RowKit.intOf]
            omega
          · have HK7 : Hid (KSt w1.heap.size P M rm w first (first :: ss.take kk) (1 + 3 * j + 1) [] w7) := hk
            have hroom := k_room hk
            have cx7 := HC.out w7 hk.be
            have hps : putS tx 2 = ⟨#[]⟩ := rfl
            rw [hps]
            obtain ⟨sm, hsm⟩ : ∃ sm, sm = tx.size + first.size := ⟨_, rfl⟩
            have s1 : (tx.size : Int) + (first.size : Int) = (sm : Int) := by omega
            have s2 : IntKind.i64.wrap (sm : Int) = (sm : Int) := by rw [IntKind.wrap_i64]; omega
            have HF : Hid (100000 < tx.size ∨ rm < sm) := by
              rcases hsz with h | h
              · exact .inl h
              · exact .inr (by omega)
            clear hk hps hsz hsm
            go_wp2_with fail
            refine hroom.mono ?_
            rintro e w8 ⟨u, c, rfl, hu, HK8⟩
            have ku : ¬ (rm : Int) < (u : Int) := by omega
            have hget := k_get HK8.out (by have := HJ.out; omega) first (.inl rfl)
            clear hroom HK7 hu
            go_wp2_with fail
            refine hget.mono ?_
            rintro e w9 ⟨rfl, HK9⟩
            have cx9 := HC.out w9 HK9.out.be
            have HK11 : Hid (KSt w1.heap.size P M rm w first (first :: ss.take kk) (1 + 3 * y) [] w9) := by
              have hjy := HJ.out
              exact HK9.out.more (by omega)
            clear hget HK8 HK9
            by_cases hle : sm ≤ rm
            · have q1 : (sm : Int) ≤ (rm : Int) := by omega
              have q2 : ¬ (tx.size : Int) ≤ 100000 := by
                rcases HF.out with h | h
                · omega
                · omega
              go_wp2
              obtain ⟨z1, z2, z3⟩ := HJ.out
              refine ⟨⟨y, by omega, rfl, HK11⟩, ?_⟩
              simp [RowKit.intOf]
              omega
            · have q1 : ¬ (sm : Int) ≤ (rm : Int) := by omega
              go_wp2
              obtain ⟨z1, z2, z3⟩ := HJ.out
              refine ⟨⟨y, by omega, rfl, HK11⟩, ?_⟩
              simp [RowKit.intOf]
              omega
        · obtain rfl : j = kk := by omega
          have hun := k_unpin HS.out (by have := HK.out; omega)
          by_cases h4 : ss.length ≤ 40
          · have e1 : ¬ (j : Int) < (ss.length : Int) := by have := HK.out; omega
            clear hlt hj
            go_wp2_with fail
            refine hun.mono ?_
            rintro e w8 ⟨rfl, hb8⟩
            go_wp2
            go_ret
            exact ⟨rfl, hb8⟩
          · have e1 : (j : Int) < (ss.length : Int) := by have := HK.out; omega
            have e2 : ¬ (j : Int) < 40 := by have := HK.out; omega
            clear hlt hj
            go_wp2_with fail
            refine hun.mono ?_
            rintro e w8 ⟨rfl, hb8⟩
            go_wp2
            go_ret
            exact ⟨rfl, hb8⟩
end Go.Proofs.YtoceglbdnbnjpaaDoor

/- A law whose row lists variables of the program: its wrap, the world's shape kept. -/
namespace Go.Proofs.YtoceglbdnbnjpaaDoor
open Go.ChangeShapes Go.WideShapes Go.ChangeAt Go.RowKit

/-- What is asked of a call in a world that can be met. -/
def Meets {H : Type} (enc : TypeId × Value → H) (f : FuncId) (fn : Func) (s : ChangeSpec) (laid : List (String × DataW Unit)) : Prop :=
  ∀ (W : World) (base : Nat) (args : Array Value) (ds gs : List (DataW H)) (before : List MemPlace),
    (∀ (j : Nat) t v, fn.params[j]? = some t → args[j]? = some v → Value.okWide Tryd.prog W .any base t v) →
    DataW.Whole enc Tryd.prog fn.params.toList s.vars false W args.toList ds gs before →
    (DataW.weightsEach Tryd.prog (fn.params.toList ++ s.plain.varTypes Tryd.prog) (ds ++ gs)).all (· ≤ reachBytes) = true →
    laidMetH Tryd.prog laid W → W.ShapedOpen Tryd.prog →
    Calls Tryd.prog f args W fun e W' => ∃ v, e = .returned v ∧ s.post enc Tryd.prog fn false true false false W args v W'

set_option maxRecDepth 100000 in
theorem returns_laid {H : Type} {enc : TypeId × Value → H} {os : Os} {f : FuncId} {fn : Func} {s : ChangeSpec} {conds : List PathCond} {laid : List (String × DataW Unit)}
    (own : ownKnob Tryd.prog.godebug = none) (started : os.Started) (noInit : Tryd.checked.prog.inits.idxOf? f = none) (hfn : Tryd.checked.prog.funcs[f]? = some fn)
    (start : ∃ (w : World) (tape : Tape) (i : Input), w.os = os ∧ (w.forCall tape i).Shaped Tryd.checked.prog ∧ i.vars = [] ∧ Input.okWide Tryd.checked.prog (w.forCall tape i) .any w.heap.size f i ∧
      ((s.pre enc Tryd.checked.prog fn conds false (w.forCall tape i).memory i.args ∧ laidMetH Tryd.prog laid (w.forCall tape i).memory) ∧ sizedMet enc Tryd.checked.prog fn (OpenSpec.ofChange s) false (w.forCall tape i).memory i.args) ∧ Assume.holds {} Tryd.checked.prog (lone (Frame.enter Tryd.checked.prog f i.args .normal) [] (w.forCall tape i)))
    (meets : Meets enc f fn s laid) :
    ReturnsInHanded {} Tryd.checked os f .any (fun w args => (s.pre enc Tryd.prog fn conds false w args ∧ laidMetH Tryd.prog laid w) ∧ sizedMet enc Tryd.prog fn (OpenSpec.ofChange s) false w args) (s.post enc Tryd.prog fn false true false false) := by
  refine returnsInHanded_of_calls own started noInit start fun w tape i _ shape _ wide met _ => ?_
  obtain ⟨_, _, _, fn', h, _, _, _, _, vals⟩ := wide
  cases Option.some.inj (h.symm.trans hfn)
  obtain ⟨⟨⟨ds, gs, before, whole, _⟩, lies⟩, sized⟩ := met
  refine (meets (w.forCall tape i) w.heap.size i.args ds gs before vals (DataW.Whole.of_heap (w' := w.forCall tape i) (by rfl) whole) (sized.weights whole) (laidMetH.of_heap (by rfl) lies) shape).mono ?_
  rintro e W' ⟨v, rfl, post⟩
  exact ChangeSpec.post_blind post
end Go.Proofs.YtoceglbdnbnjpaaDoor

/- Texts that came in, and how long they are. -/
namespace Go.Proofs.YtoceglbdnbnjpaaDoor
open Go.ChangeShapes Go.WideShapes Go.ChangeAt Go.RowKit
open Go.ChangeMaps (open_string shut_string)

theorem own : ownKnob Tryd.prog.godebug = none := by kernel_rfl
theorem laidOut : laidOutB Tryd.prog = true := by kernel_rfl
theorem bytesS : Tryd.prog.bytesOf 9 = 16 := by kernel_rfl
theorem arg_len {H : Type} {ts : List TypeId} {ds : List (DataW H)} (hsz : (DataW.weightsEach Tryd.prog ts ds).all (· ≤ reachBytes) = true) (j : Nat) (d : DataW H) (ht : ts[j]? = some 30) (hd : ds[j]? = some d) :
    ∀ elems sp, d = .slice elems sp → elems.length ≤ 4611686018427387904 := fun elems sp he => by
  have h1 := sized_slice hsz (j := j) (t := 30) ht (by rw [hd, he]) Tryd.underlying30
  have h2 := reachBytes_lt
  rw [bytesS] at h1
  omega
theorem weights_all {H : Type} {P : Program} {e : TypeId} : ∀ (l : List (DataW H)) (x : DataW H), x ∈ l → ∀ n ∈ x.weights P e, n ∈ DataW.weightsAll P e l
  | y :: r, x, h, n, hn => by
    unfold DataW.weightsAll
    rw [List.mem_append]
    rcases List.mem_cons.1 h with rfl | h
    · exact .inl hn
    · exact .inr (weights_all r x h n hn)
theorem arg_each {H : Type} {ts : List TypeId} {ds : List (DataW H)} (hsz : (DataW.weightsEach Tryd.prog ts ds).all (· ≤ reachBytes) = true) (j : Nat) (d : DataW H) (ht : ts[j]? = some 30) (hd : ds[j]? = some d) :
    ∀ elems sp, d = .slice elems sp → ∀ b, DataW.lit (.string b) ∈ elems → b.length ≤ reachBytes := fun elems sp he b hb => by
  have := List.all_eq_true.1 hsz _ (DataW.weights_mem_each ht (hd.trans (by rw [he])) b.length (by
    unfold DataW.weights
    rw [Tryd.underlying30]
    refine List.mem_cons_of_mem _ (List.mem_append_left _ (weights_all elems _ hb _ ?_))
    unfold DataW.weights
    simp))
  simpa using this
theorem reach_is : reachBytes = 140737488351232 := by decide

set_option maxRecDepth 100000 in
/-- A slice of texts that came in. -/
theorem arg_txz {H : Type} {enc : TypeId × Value → H} {W : World} {v : Value} {d : DataW H} {p : List MemPlace} {base : Nat}
    (hv : Value.okWide Tryd.prog W .any base 30 v) (h : DataW.Trod enc Tryd.prog W 0 (fun _ => true) true 30 v d p) (hr : ∀ elems sp, d = .slice elems sp → elems.length ≤ 4611686018427387904) (he : ∀ elems sp, d = .slice elems sp → ∀ b, DataW.lit (.string b) ∈ elems → b.length ≤ reachBytes) : ∃ ss, Tx W v ss ∧ ∀ s ∈ ss, s.size ≤ 140737488351232 := by
  obtain ⟨a, len, cap, rfl⟩ := okWide_slice Tryd.underlying30 hv
  obtain ⟨fuel, hf⟩ := h
  rcases open_strings Tryd.underlying30 Tryd.underlying9 (by kernel_rfl) hf with ⟨hcs, _⟩ | ⟨x, l, c, ss, hcs, _, hl, hm, hz, hx, hcell, hws⟩
  · simp [Value.cells] at hcs
    obtain ⟨rfl, rfl, rfl⟩ := hcs
    exact ⟨[], ⟨by decide, Or.inl ⟨rfl, none, 0, rfl⟩⟩, by simp⟩
  · simp [Value.cells] at hcs
    obtain ⟨rfl, rfl, rfl⟩ := hcs
    have hz' : ss.length = cap := by simpa using hz
    have hlen : (ss.take len).length = len := by rw [List.length_take]; omega
    have hb : len ≤ 4611686018427387904 := by
      have := hr _ _ (congrArg Prod.fst hx)
      simp [Go.ChangeShapes.strs] at this
      omega
    have hsz : ∀ s ∈ ss.take len, s.size ≤ 140737488351232 := fun s hs => by
      have := he _ _ (congrArg Prod.fst hx) s.data.toList (by unfold Go.ChangeShapes.strs; exact List.mem_map.2 ⟨s, hs, rfl⟩)
      rw [reach_is] at this
      exact this
    by_cases h0 : len = 0
    · exact ⟨[], ⟨by decide, Or.inl ⟨rfl, some x, cap, by rw [h0]⟩⟩, by simp⟩
    · refine ⟨ss.take len, ⟨by rw [hlen]; exact hb, Or.inr ⟨by omega, ?_⟩⟩, hsz⟩
      obtain ⟨b, off, spot⟩ := x
      have hspot : spot = none := by simpa [Addr.add] using World.cell?_spot (hcell 0 (by omega))
      subst hspot
      refine ⟨b, off, cap, by rw [hlen], by omega, fun j hj => ?_⟩
      rw [hlen] at hj
      rw [← Go.WideShapes.add_plain, hcell j (by omega)]
      simp [List.getD, List.getElem?_eq_getElem (show j < ss.length by omega)]
end Go.Proofs.YtoceglbdnbnjpaaDoor
