/- A book of leases: all leases. -/
import Derived.Test.YtocahjnibdgmoaaLeK
namespace Go.Proofs.Ytocahjnibdgmoaa
open Go.RowKit Go.Shelf Go.Maps Go.WideMaps Go.Sort

/-- All leases, plain; their cells. -/
def lsP (P : List Pj) : List (List UInt8 × Int × Int) := P.flatMap fun p => p.ts.map fun q => (p.nm, q.1, q.2)
def lcs (l : List (List UInt8 × Int × Int)) : List Value := l.flatMap fun x => [encStr x.1, .int .i64 x.2.1, .int .i64 x.2.2]

theorem lcs_len (l : List (List UInt8 × Int × Int)) : (lcs l).length = l.length * 3 := by
  induction l with
  | nil => rfl
  | cons x r ih => unfold lcs at ih ⊢; rw [List.flatMap_cons, List.length_append, ih, List.length_cons]; simp; omega
theorem lcs_app (l : List (List UInt8 × Int × Int)) (x : List UInt8 × Int × Int) : lcs (l ++ [x]) = lcs l ++ [encStr x.1, .int .i64 x.2.1, .int .i64 x.2.2] := by
  unfold lcs
  rw [List.flatMap_append]
  simp
theorem lsP_take (P : List Pj) (k : Nat) (h : k < P.length) : lsP (P.take (k + 1)) = lsP (P.take k) ++ (P[k]).ts.map fun q => ((P[k]).nm, q.1, q.2) := by
  unfold lsP
  rw [List.take_succ_eq_append_getElem h, List.flatMap_append]
  simp
theorem lsP_len : ∀ (P : List Pj) (k : Nat), (∀ p ∈ P, p.ts.length ≤ 5) → P.length ≤ k → (lsP P).length ≤ 5 * k
  | [], k, _, _ => Nat.zero_le _
  | p :: r, k, h, hk => by
    rw [List.length_cons] at hk
    have h1 := h p (by simp)
    have h2 := lsP_len r (k - 1) (fun q hq => h q (by simp [hq])) (by omega)
    unfold lsP at h2 ⊢
    rw [List.flatMap_cons, List.length_append, List.length_map]
    omega
theorem infL : (Try.prog.info? 52).map (fun i => (i.zero, i.size, i.bytes)) = some (some (.agg #[.string ⟨#[]⟩, .int .i64 0, .int .i64 0]), 3, 32) := by kernel_rfl

theorem new3 (W : World) (t : TypeId) (x y z : Value) : ∀ (j : Nat) (u : Value), [x, y, z][j]? = some u → (W.alloc (.cells #[x, y, z] t)).cell? ((⟨W.heap.size, 0, none⟩ : Addr).add j) = some u := by
  intro j u hj
  have hb := heap_alloc_new W (.cells #[x, y, z] t)
  match j, hj with
  | 0, hj => simp at hj; subst hj; exact Lib.cell_of_heap hb 0
  | 1, hj => simp at hj; subst hj; exact Lib.cell_of_heap hb 1
  | 2, hj => simp at hj; subst hj; exact Lib.cell_of_heap hb 2
/-- While leases are laid into a list. -/
structure LW (w1 : World) (v : Value) (L : List (List UInt8 × Int × Int)) (wr : World) : Prop where
  row : wr.ownsRow w1.heap.size 52 3 v L.length (lcs L)
  bel : Below w1.heap.size w1 wr
  len : L.length ≤ 1000000
/-- .. and a block is as it was. -/
structure LV (w1 w2 : World) (gw : Option Nat) (v : Value) (L : List (List UInt8 × Int × Int)) (wr : World) : Prop where
  lw : LW w1 v L wr
  blk : ∀ g, gw = some g → wr.heap[g]? = w2.heap[g]? ∧ v.ownBlock ≠ some g ∧ g < wr.heap.size
theorem LV.app {w1 w2 : World} {gw : Option Nat} {v : Value} {L : List (List UInt8 × Int × Int)} {wr w3 : World} {x : List UInt8 × Int × Int} {o : Obj} {g cap : Nat} (h : LV w1 w2 gw v L wr) (hl : L.length + 1 ≤ 1000000) (hrow : w3.ownsRow w1.heap.size 52 3 (.slice (some ⟨g, 0, none⟩) (L.length + 1) cap) (L.length + 1) (lcs L ++ [encStr x.1, .int .i64 x.2.1, .int .i64 x.2.2])) (hg : (wr.alloc o).grownBy w3 v.ownBlock) (hat : v.ownBlock = some g ∨ g = (wr.alloc o).heap.size) : LV w1 w2 gw (.slice (some ⟨g, 0, none⟩) (L.length + 1) cap) (L ++ [x]) w3 := by
  have hA : Below w1.heap.size w1 (wr.alloc o) := h.lw.bel.alloc h.lw.bel.size _
  have hz : (wr.alloc o).heap.size = wr.heap.size + 1 := World.size_alloc _ _
  have hsz := h.lw.bel.size
  refine ⟨⟨?_, ⟨hg.os.trans hA.os, hg.tape.trans hA.tape, hg.output.trans hA.output, Nat.le_trans hA.size hg.size, fun k hk => (hg.block k (by omega) fun e => ?_).trans (hA.block k hk)⟩, by simpa using hl⟩, fun k hk => ?_⟩
  · rw [lcs_app, List.length_append]
    exact hrow
  · have := (h.lw.row.lt k e.symm).1
    omega
  · obtain ⟨b1, b2, b3⟩ := h.blk k hk
    refine ⟨(hg.block k (by omega) fun e => b2 e.symm).trans ((Below.heap_alloc wr o k b3).trans b1), fun e => ?_, by have := hg.size; omega⟩
    have e2 : g = k := by simpa [Value.ownBlock] using e
    subst e2
    rcases hat with hat | hat
    · exact b2 hat
    · omega

section
variable {B Bk M : Nat} {a b c nw : Int} {E E1 E2 : List Ent} {x : Ent} {w : World}
theorem BS.nml (h : BS B Bk M a b c nw E w) (hx : x ∈ E) : x.nm.length ≤ maxLen := by
  obtain ⟨es, he, hk⟩ := h.own.keysOf
  injection he with he
  subst he
  obtain ⟨key, hkey⟩ := hk (eD x) (List.mem_map.2 ⟨x, hx, rfl⟩)
  obtain ⟨y, _, h2, h3⟩ := Maps.keyOf_str Try.underlying9 hkey
  have : x.nm = y := by injection h2
  rw [this]
  exact h3
set_option maxHeartbeats 4000000 in
set_option maxRecDepth 100000 in
theorem Leases_any (h : BS B Bk M a b c nw E w) (hup : upE E) (hlen : E.length ≤ 200) (hsh : ∀ e ∈ E, e.ts.length ≤ 5) (hts : ∀ e ∈ E, e.ts.Pairwise fun p q => p.1 < q.1) (hwf : ∀ e ∈ E, ∀ q ∈ e.ts, (Lit.int .i64 q.1).wf = true) :
    Calls Try.prog 23 #[.pointer (some ⟨Bk, 0, none⟩)] w fun e w' => ∃ v, e = .returned v ∧ w'.ownsRow w.heap.size 52 3 v (lsP (E.map pl)).length (lcs (lsP (E.map pl))) ∧ Below w.heap.size w w' := by
  have HN : Hid (Calls Try.prog 27 #[.pointer (some ⟨Bk, 0, none⟩)] w fun e w' => e = .returned (.bool false) ∧ w' = w) := lisNone h.c4
  have HK : Hid (Calls Try.prog 42 #[.map (some M)] w fun e w' => e = .returned (.func (.func 52) #[] #[.pointer (some ⟨w.heap.size, 0, none⟩)]) ∧ w' = w.alloc (.cells #[.map (some M)] 56)) := keysS_any (some M) w
  have HS : Hid (Calls Try.prog 41 #[.func (.func 52) #[] #[.pointer (some ⟨w.heap.size, 0, none⟩)]] (w.alloc (.cells #[.map (some M)] 56)) fun e w' => ∃ ao cap, e = .returned (.slice ao E.length cap) ∧ w'.ownsRow w.heap.size 9 1 (.slice ao E.length cap) E.length ((E.map Ent.nm).map encStr) ∧ Below w.heap.size w w') := keysE h hup (by omega)
  have c4 := h.c4
  have H : Hid (BS B Bk M a b c nw E w) := h
  have HT : Hid ((∀ e ∈ E, e.ts.length ≤ 5) ∧ (∀ e ∈ E, e.ts.Pairwise fun p q => p.1 < q.1) ∧ (∀ e ∈ E, ∀ q ∈ e.ts, (Lit.int .i64 q.1).wf = true) ∧ E.length ≤ 200) := ⟨hsh, hts, hwf, hlen⟩
  obtain ⟨i0, hi, hz0, hz1, hz2⟩ := info_parts infL
  clear h hup hlen hsh hts hwf
  go_enter Try.func23, Try.ntmps23
  go_wp2_with (first
    | (go_at_call 27; refine HN.out.mono ?_; rintro e w' ⟨rfl, hw'⟩; subst w')
    | (go_at_call 42; refine HK.out.mono ?_; rintro e w' ⟨rfl, rfl⟩)
    | (go_at_call 41; refine HS.out.mono ?_; rintro e w1 ⟨ao, cap, rfl, hrow, hb1⟩)
    | go_in)
  have HR : Hid (w1.ownsRow w.heap.size 9 1 (.slice ao E.length cap) E.length ((E.map Ent.nm).map encStr)) := hrow
  have HB1 : Hid (Below w.heap.size w w1) := hb1
  obtain ⟨n, hn⟩ : ∃ n, n = E.length := ⟨_, rfl⟩
  have HNn : Hid (n = E.length) := hn
  rw [← hn]
  clear hrow hb1 c4 HK HS HN hn
  go_loopw [3, 18] (fun v i wr => ∃ k : Nat, k ≤ n ∧ i = .int .i64 (k : Int) ∧ Hid (LW w1 v (lsP ((E.map pl).take k)) wr)) (fun v i _ => n - (RowKit.intOf i).toNat)
  case atStart => exact ⟨0, Nat.zero_le _, rfl, World.ownsRow_nil _ _ _ _, Below.refl _ _, Nat.zero_le _⟩
  case round =>
    obtain ⟨k, hk, rfl, HW⟩ := hrel
    by_cases hlt : k < n
    · have hkE : k < E.length := by rw [← HNn.out]; exact hlt
      have hx : E[k] ∈ E := List.getElem_mem hkE
      have hbw : Below w.heap.size w wr := HB1.out.trans (HW.out.bel.mono HB1.out.size)
      have hbs : BS B Bk M a b c nw E wr := H.out.up hbw
      have hj := hbs.jobs _ hx
      have hki : (k : Int) < (n : Int) := by omega
      obtain ⟨g, cap', hv, hcap, hgl⟩ := HR.out.form (by omega)
      cases hv
      have c1 : wr.cell? ⟨g, k, none⟩ = some (.string ⟨(E[k]).nm.toArray⟩) := by
        rw [World.cell?_of_block (w := w1) (HW.out.bel.block g hgl)]
        refine (HR.out.cellAt k (by omega)).trans ?_
        rw [List.map_map, List.getElem?_map, List.getElem?_eq_getElem hkE]
        rfl
      have c4 := hbs.c4
      have hlk := hbs.lookY (s := ⟨(E[k]).nm.toArray⟩) (by have := hbs.nml hx; show (E[k]).nm.toArray.size ≤ _; simpa using this) hx (by simp)
      have c2 := hj.c2
      have HKI : Hid (Calls Try.prog 44 #[.map (E[k]).tb] wr fun e w' => e = .returned (.func (.func 55) #[] #[.pointer (some ⟨wr.heap.size, 0, none⟩)]) ∧ w' = wr.alloc (.cells #[.map (E[k]).tb] 61)) := keysI_any _ wr
      have HSI : Hid (Calls Try.prog 43 #[.func (.func 55) #[] #[.pointer (some ⟨wr.heap.size, 0, none⟩)]] (wr.alloc (.cells #[.map (E[k]).tb] 61)) fun e w' => ∃ ao cap, e = .returned (.slice ao (E[k]).ts.length cap) ∧ w'.ownsRow wr.heap.size 3 1 (.slice ao (E[k]).ts.length cap) (E[k]).ts.length (((E[k]).ts.map Prod.fst).map encZ) ∧ Below wr.heap.size wr w') := keysT hj (by have := HT.out.1 _ hx; omega) (HT.out.2.1 _ hx)
      have HLK : Hid (∀ W, Below w1.heap.size w1 W → ∀ q ∈ (E[k]).ts, (Instr.lookup 61 (.map (E[k]).tb) (.int .i64 q.1) false).run Try.prog W = .ok (.int .i64 q.2) W) := fun W hb q hq => by
        have hj1 := (H.out.up HB1.out).jobs _ hx
        exact (hj1.keep fun g hg => hb.block g (hj1.lt g hg).2).at (HT.out.2.1 _ hx) hq (HT.out.2.2.1 _ hx q hq)
      have HLL : Hid ((E[k]).ts.length ≤ 5) := HT.out.1 _ hx
      have HNX : Hid (lsP ((E.map pl).take (k + 1)) = lsP ((E.map pl).take k) ++ (E[k]).ts.map fun q => ((E[k]).nm, q.1, q.2)) := by
        have := lsP_take (E.map pl) k (by simpa using hkE)
        rw [List.getElem_map] at this
        exact this
      have HLN : Hid ((lsP ((E.map pl).take k)).length ≤ 5 * k) := by
        unfold Hid
        exact lsP_len _ _ (fun p hp => by
          obtain ⟨y, hy, rfl⟩ := List.mem_map.1 (List.mem_of_mem_take hp)
          exact HT.out.1 y hy) (by rw [List.length_take]; omega)
      clear hbs hj hbw hx hcap hgl
      generalize E[k] = x at *
      obtain ⟨nm, blk, tb, dn, tr, ts⟩ := x
      simp only at HKI HSI HLK HLL HNX c1 hlk c2
      obtain ⟨s, es⟩ : ∃ s : ByteArray, s = ⟨nm.toArray⟩ := ⟨_, rfl⟩
      rw [← es] at c1 hlk
      have HSs : Hid (encStr nm = .string s) := by rw [es]; rfl
      clear es
      go_wp2_with (first
        | (go_at_call 44; refine HKI.out.mono ?_; rintro e w' ⟨rfl, rfl⟩)
        | (go_at_call 43; refine HSI.out.mono ?_; rintro e w2 ⟨ao2, cap2, rfl, hrow2, hb2⟩)
        | go_in)
      have HR2 : Hid (w2.ownsRow wr.heap.size 3 1 (.slice ao2 ts.length cap2) ts.length ((ts.map Prod.fst).map encZ)) := hrow2
      obtain ⟨L0, hL0⟩ : ∃ L0, L0 = lsP ((E.map pl).take k) := ⟨_, rfl⟩
      rw [← hL0] at HW HLN HNX
      have HV0 : Hid (LV w1 w2 (Value.slice ao2 ts.length cap2).ownBlock u3 (L0 ++ (ts.take 0).map fun q => (nm, q.1, q.2)) w2) := by
        have hW := HW.out
        have hz := hW.bel.size
        refine ⟨⟨?_, hW.bel.trans (hb2.mono hz), ?_⟩, fun g2 hg2 => ?_⟩
        · rw [List.take_zero, List.map_nil, List.append_nil]
          exact own_heapL hW.row fun g3 hg3 => hb2.block g3 (hW.row.lt g3 hg3).2
        · rw [List.take_zero, List.map_nil, List.append_nil]
          exact hW.len
        · have h1 := hrow2.lt g2 hg2
          exact ⟨rfl, fun e => by have := (hW.row.lt g2 e).2; omega, h1.2⟩
      obtain ⟨m, hm⟩ : ∃ m, m = ts.length := ⟨_, rfl⟩
      have HM : Hid (m = ts.length ∧ k ≤ 200) := ⟨hm, by have := HT.out.2.2.2; omega⟩
      rw [← hm]
      clear hrow2 hb2 c1 hlk c2 hL0 hm c4 HKI HSI hkE
      go_loopw [3, 35] (fun v i wq => ∃ j : Nat, j ≤ m ∧ i = .int .i64 (j : Int) ∧ Hid (LV w1 w2 (Value.slice ao2 ts.length cap2).ownBlock v (L0 ++ (ts.take j).map fun q => (nm, q.1, q.2)) wq)) (fun v i _ => m - (RowKit.intOf i).toNat)
      case atStart => exact ⟨0, Nat.zero_le _, rfl, HV0⟩
      case round =>
        obtain ⟨j, hj, rfl, HV⟩ := hrel
        by_cases hlj : j < m
        · have hjt : j < ts.length := by have := HM.out.1; omega
          obtain ⟨g2, cap3, hv2, hcap2, hgl2⟩ := HR2.out.form (by omega)
          cases hv2
          have hjm : (j : Int) < (m : Int) := by omega
          have hq : ts[j] ∈ ts := List.getElem_mem hjt
          have d1 : wr.cell? ⟨g2, j, none⟩ = some (.int .i64 (ts[j]).1) := by
            rw [World.cell?_of_block (w := w2) (HV.out.blk g2 rfl).1]
            refine (HR2.out.cellAt j (by omega)).trans ?_
            rw [List.map_map, List.getElem?_map, List.getElem?_eq_getElem hjt]
            rfl
          have d2 := HLK.out wr HV.out.lw.bel _ hq
          have HNX2 : Hid (∀ t1 t2, ts[j] = (t1, t2) → (L0 ++ (ts.take (j + 1)).map fun q => (nm, q.1, q.2)) = (L0 ++ (ts.take j).map fun q => (nm, q.1, q.2)) ++ [(nm, t1, t2)]) := fun t1 t2 e => by
            rw [List.take_succ_eq_append_getElem hjt, List.map_append, e]
            simp
          have HLn : Hid ((L0 ++ (ts.take j).map fun q => (nm, q.1, q.2)).length + 1 ≤ 1000000) := by
            unfold Hid
            rw [List.length_append, List.length_map, List.length_take]
            have := HLN.out
            have := HLL.out
            have := HM.out.2
            omega
          have HJ1 : Hid (∃ t1 t2, ts[j] = (t1, t2)) := ⟨(ts[j]).1, (ts[j]).2, rfl⟩
          obtain ⟨t1, t2, ht⟩ := HJ1.out
          rw [ht] at d1 d2
          simp only at d1 d2
          have HL1 := HNX2.out t1 t2 ht
          generalize (L0 ++ (ts.take j).map fun q => (nm, q.1, q.2)) = L at HV HLn HL1
          have HL2 : Hid ((L0 ++ (ts.take (j + 1)).map fun q => (nm, q.1, q.2)) = L ++ [(nm, t1, t2)]) := HL1
          clear HL1 HNX2 HJ1 ht hq hjt hcap2 hgl2
          obtain ⟨j1, hj1⟩ : ∃ j1, j1 = j + 1 := ⟨_, rfl⟩
          have ej1 : (j : Int) + 1 = (j1 : Int) := by omega
          have ej2 : IntKind.i64.wrap (j1 : Int) = (j1 : Int) := by rw [IntKind.wrap_i64]; have := HLL.out; have := HM.out.1; omega
          rw [← hj1] at HL2
          have HJ1 : Hid (j1 = j + 1) := hj1
          clear hj1
          have q1 : L.length + 1 ≤ maxLen := by have := HLn.out; unfold maxLen; omega
          have q2 : (L.length + 1) * 32 ≤ 140737488355328 := by have := HLn.out; omega
          have q3 : w1.heap.size ≤ (wr.alloc (.cells #[.string s, .int .i64 t1, .int .i64 t2] 52)).heap.size := by have := HV.out.lw.bel.size; rw [World.size_alloc]; omega
          have q4 : ∀ (j : Nat) (u : Value), [Value.string s, .int .i64 t1, .int .i64 t2][j]? = some u → (wr.alloc (.cells #[.string s, .int .i64 t1, .int .i64 t2] 52)).cell? ((⟨wr.heap.size, 0, none⟩ : Addr).add j) = some u := new3 _ _ _ _ _
          go_wp2_with (first
            | (at_builtin; refine wpList_append_lies _ rfl _ _ 34 rfl w1.heap.size 52 i0 (.agg #[.string ⟨#[]⟩, .int .i64 0, .int .i64 0]) 3 32 Try.underlying34 hi hz0 hz1 hz2 rfl (by decide) _ L.length (lcs L) rfl (HV.out.lw.row.alloc _) ⟨wr.heap.size, 0, none⟩ 1 1 [.string s, .int .i64 t1, .int .i64 t2] rfl rfl q4 (by simp [Value.oneCell']) (by decide) q1 q2 q3 (wr.heap.size + 1) (World.size_alloc _ _) ?_; intro g5 cap5 w5 hown5 hgrow5 hat5 hlt5; go_frame)
            | go_in)
          have happ := HV.out.app (x := (nm, t1, t2)) HLn.out (by rw [HSs.out]; exact hown5) hgrow5 (by rw [World.size_alloc]; exact hat5)
          go_roundw
          case rel => exact ⟨j1, by have := HJ1.out; omega, rfl, by unfold Hid; rw [HL2.out]; exact happ⟩
          case measure => have := HJ1.out; simp [RowKit.intOf]; omega
        · have k3 : ¬ (j : Int) < (m : Int) := by omega
          have HE2 : Hid (j = m) := by unfold Hid; omega
          clear hlj hj
          obtain ⟨k1, hk1⟩ : ∃ k1, k1 = k + 1 := ⟨_, rfl⟩
          have ek1 : (k : Int) + 1 = (k1 : Int) := by omega
          have ek2 : IntKind.i64.wrap (k1 : Int) = (k1 : Int) := by rw [IntKind.wrap_i64]; have := HM.out.2; omega
          rw [← hk1] at HNX
          have HK1 : Hid (k1 = k + 1) := hk1
          clear hk1
          go_wp2
          have hW := HV.out.lw
          rw [HE2.out, HM.out.1, List.take_length, ← HNX.out] at hW
          go_roundw
          case rel => exact ⟨k1, by have := HK1.out; omega, rfl, hW⟩
          case measure => have := HK1.out; simp [RowKit.intOf]; omega
    · have e1 : k = n := by omega
      have HE : Hid (k = n) := e1
      have k2 : ¬ (k : Int) < (n : Int) := by omega
      clear e1 hk hlt
      go_wp2
      go_ret
      have hW := HW.out
      rw [HE.out, HNn.out, show E.length = (E.map pl).length from by simp, List.take_length] at hW
      exact ⟨_, rfl, own_low hW.row HB1.out.size, HB1.out.trans (hW.bel.mono HB1.out.size)⟩
end
end Go.Proofs.Ytocahjnibdgmoaa
