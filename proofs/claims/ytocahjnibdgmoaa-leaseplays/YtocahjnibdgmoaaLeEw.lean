/- A book of leases: end, walked. -/
import Derived.Test.YtocahjnibdgmoaaLeE
namespace Go.Proofs.Ytocahjnibdgmoaa
open Go.RowKit Go.Shelf Go.Maps Go.WideMaps Go.Sort

theorem invKS (key : Value) (kl : Lit) (hk : keyOf Try.prog 9 key = some kl) : ∃ x, key = encStr x := by
  obtain ⟨x, hx, _⟩ := Maps.keyOf_str Try.underlying9 hk
  exact ⟨x, hx⟩
theorem invPt (v : Value) (y : DataW Unit × List MemPlace) (hv : ptrE v = some y) : ∃ o : Option Nat, v = Value.pointer (o.map fun b => ⟨b, 0, none⟩) := by
  rcases ptrE_inv hv with ⟨rfl, _⟩ | ⟨b, rfl, _⟩
  · exact ⟨none, rfl⟩
  · exact ⟨some b, rfl⟩

theorem cut_nil (nw : Int) : ∀ e : Ent, e.ts = [] → cutE nw e = e := by
  rintro ⟨⟩ h
  simp only at h
  subst h
  rfl

theorem infS : (Try.prog.info? 9).map (fun i => (i.zero, i.size, i.bytes)) = some (some (.string ⟨#[]⟩), 1, 16) := by kernel_rfl

set_option maxHeartbeats 1000000 in
set_option maxRecDepth 100000 in
theorem del_nil (bb : Nat) (w : World) : Calls Try.prog 58 #[.map none, .func (.func 57) #[] #[.pointer (some ⟨bb, 0, none⟩)]] w fun e w' => e = .returned (.tuple #[]) ∧ Below w.heap.size w w' := by
  have hrg := run_range_nilMap (P := Try.prog) w 61 3 3 Try.underlying61
  have hnx : ∀ ty, (Instr.next (.pointer (some ⟨w.heap.size, 0, none⟩)) false ty).run Try.prog (w.alloc (.mapIter none 0 #[] 0)) = _ := fun ty => run_next_nilMap _ ty 0 0 #[]
  go_enter Try.func58, Try.ntmps58
  go_wp2
  refine wp_loop_rounds 1 ?_
  rw [rounds_succ]
  go_wp2
  go_end0
  exact ⟨rfl, (Below.refl _ w).alloc (Nat.le_refl _) _⟩

set_option maxHeartbeats 8000000 in
set_option maxRecDepth 100000 in
theorem end_any {B Bk M : Nat} {a b c nw : Int} {E : List Ent} {w : World} (h : BS B Bk M a b c nw E w) (hup : upE E) (hlen : E.length ≤ 1000000) (hshort : ∀ e ∈ E, e.ts.length ≤ 1000000) :
    Calls Try.prog 49 #[.pointer (some ⟨Bk, 0, none⟩)] w fun e w' => ∃ v, e = .returned v ∧ w'.ownsRow w.heap.size 9 1 v (E.filter (frees nw)).length (((E.filter (frees nw)).map Ent.nm).map encStr) ∧ BS B Bk M a b c nw (E.map (cutE nw)) w' ∧ Upd (bids Bk M E) (bids Bk M E) w w' := by
  have hpw := h.names
  have H : Hid (BS B Bk M a b c nw E w) := h
  obtain ⟨i0, hi, hz0, hz1, hz2⟩ := info_parts infS
  have hown1 := h.own.alloc (.cells #[.pointer (some ⟨Bk, 0, none⟩)] 26)
  have hA : Below w.heap.size w (w.alloc (.cells #[.pointer (some ⟨Bk, 0, none⟩)] 26)) := (Below.refl _ w).alloc (Nat.le_refl _) _
  have c4 := (h.up hA).c4
  have HA : Hid (Below w.heap.size w (w.alloc (.cells #[.pointer (some ⟨Bk, 0, none⟩)] 26))) := hA
  have HO : Hid ((w.alloc (.cells #[.pointer (some ⟨Bk, 0, none⟩)] 26)).ownsMap Try.prog 9 ptrE M E.length (.map (E.map eD))) := hown1
  have HP : Hid (E.Pairwise fun x y => x.nm ≠ y.nm) := hpw
  have HL : Hid (upE E ∧ E.length ≤ 1000000 ∧ ∀ e ∈ E, e.ts.length ≤ 1000000) := ⟨hup, hlen, hshort⟩
  clear hA hown1 h hpw hup hlen hshort
  go_enter Try.func49, Try.ntmps49
  go_wp2_with (first
    | (at_range; refine wpList_range_own _ rfl _ 56 rfl 9 60 lawS Try.underlying56 _ M _ _ rfl HO.out ?_; intro w0 hrg0 hg0 hs0)
    | go_in)
  go_frame
  obtain ⟨R, hR⟩ : ∃ R, R = (w.alloc (.cells #[.pointer (some ⟨Bk, 0, none⟩)] 26)).heap.size := ⟨_, rfl⟩
  have hsz1 : (w.alloc (.cells #[.pointer (some ⟨Bk, 0, none⟩)] 26)).heap.size = w.heap.size + 1 := World.size_alloc _ _
  have H0 : Hid (EJ B Bk M w.heap.size R a b c nw E w w0 (.slice none 0 0) (Maps.has (.map (E.map eD))) (Maps.size (DataW.map (E.map eD))) [] ∧ EP nw E (Maps.has (.map (E.map eD))) (Maps.size (DataW.map (E.map eD))) []) := by
    have hbs := H.out
    have hfe : E.map (fE nw (Maps.has (.map (E.map eD)))) = E := by
      conv => rhs; rw [← List.map_id E]
      refine List.map_congr_left fun e he => ?_
      unfold fE
      rw [if_pos]
      · rfl
      · rw [has_eq, List.any_eq_true]
        exact ⟨eD e, List.mem_map.2 ⟨e, he, rfl⟩, WideAt.sameKey_self (by exact trivial)⟩
    have hkp : ∀ g : Nat, g < w.heap.size → w0.heap[g]? = w.heap[g]? := fun g hg => (hg0.block g (by omega) (by simp)).trans (HA.out.block g hg)
    refine ⟨⟨by rw [hR]; exact hrg0, by rw [hfe]; exact hbs.keep fun g hg => hkp g (hbs.lt g hg).2, ?_, World.ownsRow_nil _ _ _ _, ?_, by omega, fun g hg => (hbs.lt g hg).2, rfl, by omega⟩, ⟨List.nodup_nil, fun x => ?_, ?_⟩⟩
    · refine (World.cell?_of_block (w := w.alloc (.cells #[.pointer (some ⟨Bk, 0, none⟩)] 26)) (hg0.block _ (by show w.heap.size < _; omega) (by simp))).trans ?_
      exact cell_one_new _ _ _ 0 _ rfl
    · exact ⟨hg0.os.trans HA.out.os, hg0.tape.trans HA.out.tape, hg0.output.trans HA.out.output, by omega, fun g hg _ => hkp g hg, fun _ h => .inl h⟩
    · simp only [List.not_mem_nil, false_iff]
      rintro ⟨e, he, rfl, hl, _⟩
      rw [has_eq, List.any_eq_false] at hl
      exact absurd (WideAt.sameKey_self (a := Lit.string e.nm) (by exact trivial)) (hl (eD e) (List.mem_map.2 ⟨e, he, rfl⟩))
    · show 0 + (E.map eD).length ≤ E.length
      simp
  rw [← hR]
  clear hrg0 hg0 hs0 c4 HO HA hsz1 hR
  go_loopw [4] (fun fv wr => ∃ left cnt ss, Hid (EJ B Bk M w.heap.size R a b c nw E w wr fv left cnt ss ∧ EP nw E left cnt ss)) (fun _ wr => wr.rangeLeft M R)
  case atStart => exact ⟨_, _, _, H0⟩
  case round =>
    obtain ⟨left, cnt, ss, HI⟩ := hrel
    have hrg := HI.out.1.rg
    go_wp2_with (first
      | (at_next; refine wpList_next_ranges _ rfl _ rfl 9 lawS ptrE encStr (fun o : Option Nat => Value.pointer (o.map fun b => ⟨b, 0, none⟩)) invKS invPt M R _ _ _ _ rfl hrg ?_ ?_)
      | go_in)
    · intro hc0 hl0
      have HS : Hid (ss.mergeSort leB = (E.filter (frees nw)).map Ent.nm) := sorted_free HP.out HL.out.1 hl0 HI.out.2.nd HI.out.2.mem
      have HM : Hid (E.map (fE nw left) = E.map (cutE nw)) := List.map_congr_left fun e _ => by unfold fE; rw [hl0]; rfl
      have HC : Hid (ss.length ≤ 1000000) := by have := HI.out.2.cn; have := HL.out.2.1; unfold Hid; omega
      have HF : Hid ((E.filter (frees nw)).length = ss.length) := by
        have := congrArg List.length HS.out
        rw [List.length_mergeSort, List.length_map] at this
        exact this.symm
      clear hc0 hl0 hrg
      rcases HI.out.1.row.2 with ⟨rfl, hlen0⟩ | ⟨g, cap, cur, rfl, hbase, hb, h1, h2, h3, h4⟩
      · have hsort := sortS_none none 0 wr
        have HQ : Hid ((E.filter (frees nw)).length = 0) := HF.out.trans hlen0
        clear hlen0
        go_wp2_with (go_at_call 51; refine hsort.mono ?_; rintro e w' ⟨rfl, rfl⟩)
        go_ret
        obtain ⟨r1, r2⟩ := HI.out.1.fin HM.out (⟨rfl, rfl, rfl, Nat.le_refl _, fun _ _ _ => rfl⟩ : w'.grownBy w' _)
        refine ⟨_, rfl, ?_, r1, r2⟩
        rw [List.length_eq_zero_iff.1 HQ.out]
        exact World.ownsRow_nil _ _ _ _
      · have hH : Holds encStr wr g 0 ss.toArray := holds_of_block hb (by simpa using h4)
        have hgl : g < wr.heap.size := (Array.getElem?_eq_some_iff.1 hb).1
        have HX : Hid (Calls Try.prog 51 #[.slice (some ⟨g, 0, none⟩) ss.length cap] wr fun e w' => e = .returned (.tuple #[]) ∧ ∃ n os, w' = grow (putRow encStr (Go.Sort.ahead wr n) g 0 (ss.mergeSort fun x y => decide (x ≤ y)).toArray) os) := sortS_any g 0 cap ss wr hH hgl (by have := HC.out; omega)
        have HB : Hid (w.heap.size + 2 ≤ g ∧ wr.heap[g]? = some (.cells cur 9 (0, 0)) ∧ ss.length ≤ cap ∧ cap ≤ maxLen ∧ cur.size = cap * 1) := ⟨hbase, hb, h1, h2, h3⟩
        clear hH hgl hbase hb h1 h2 h3 h4
        go_wp2_with (go_at_call 51; refine HX.out.mono ?_; rintro e w' ⟨rfl, nn, os, rfl⟩)
        go_ret
        obtain ⟨b1, b2, b3, b4, b5⟩ := HB.out
        obtain ⟨r1, r2⟩ := HI.out.1.fin HM.out (grownBy_sorted (w := wr) (g := g) (n := nn) (os := os) (ss.mergeSort fun x y => decide (x ≤ y)).toArray)
        refine ⟨_, rfl, ?_, r1, r2⟩
        rw [← HS.out, HF.out]
        exact own_low (ownsRow_sorted (by simp) b1 b2 b3 b4 b5) (by omega)
    · intro x o kl yd yp w2 cnt2 hkey hlk hv hat hrg2 hlt hg2 hs2 hen
      obtain ⟨x', ex, rfl, hxl⟩ := Maps.keyOf_str Try.underlying9 hkey
      obtain rfl := encStr_inj ex
      obtain ⟨E1, e, E2, hE, hnm, hy⟩ := at_ent HP.out hat
      subst hnm
      obtain rfl : o = some e.blk := by
        rcases ptrE_inv hv with ⟨h1, h2⟩ | ⟨b, h1, h2⟩
        · rw [hy] at h2
          injection h2 with h2
          injection h2 with _ h2
          omega
        · rw [hy] at h2
          injection h2 with h2
          injection h2 with _ h2
          cases o with
          | none => cases h1
          | some o => injection h1 with h1; injection h1 with h1; injection h1 with h1; rw [h1]; congr 1; omega
      obtain ⟨hbs2, hbx2, hrow2, hup2, hsz2⟩ := HI.out.1.at2 hg2
      have hst := fE_step (nw := nw) (left := left) (E1 := E1) (E2 := E2) (e := e) (by rw [← hE]; exact HP.out) hlk
      have hj2 : JobAt B w2 e := hbs2.jobs e (by rw [hE, hst.1]; simp)
      have c2 := hj2.c2
      have hst2 := HI.out.2.step HP.out hE hlk hlt
      have HT : Hid ((∀ w3 : World, w2.grownBy w3 e.tb → JobAt B w3 (cutE nw e) → EJ B Bk M w.heap.size R a b c nw E w w3 u4 (fun z => left z && !z.sameKey (.string e.nm)) cnt2 ss) ∧ (frees nw e = false → EP nw E (fun z => left z && !z.sameKey (.string e.nm)) cnt2 ss) ∧ (frees nw e = true → EP nw E (fun z => left z && !z.sameKey (.string e.nm)) cnt2 (ss ++ [e.nm])) ∧ cnt2 < cnt) :=
        ⟨fun w3 h1 h2 => HI.out.1.step HP.out hE hlk hg2 hrg2 h1 h2, hst2.1, hst2.2, hlt⟩
      clear hst2 hat hkey ex hs2 hv hy
      rcases hj2.till with ⟨htb, hts⟩ | ⟨t, htb, htB, hown2⟩
      · rw [htb] at c2
        have HJ : Hid (JobAt B w2 e ∧ e.tb = none ∧ e.ts = []) := ⟨hj2, htb, hts⟩
        clear hst hbs2 hbx2 hrow2 hup2 hsz2 hj2 hlt hlk hg2 htb hts hxl hE hrg2
        have hnil : ∀ ty, (Builtin.len_ #[61] ty #[.map none]).run Try.prog w2 = .ok (.int .i64 0) w2 := fun ty => Maps.len_nil Try.underlying61 ty
        go_wp2_with (first
          | (go_at_call 58; refine (del_nil _ _).mono ?_; rintro e' w3 ⟨rfl, hb3⟩)
          | go_in)
        have hg3 : w2.grownBy w3 e.tb := ⟨hb3.os, hb3.tape, hb3.output, hb3.size, fun g hg _ => hb3.block g hg⟩
        have hfr : frees nw e = false := by simp [frees, HJ.out.2.2]
        have hcut : cutE nw e = e := cut_nil nw e HJ.out.2.2
        have hej := HT.out.1 w3 hg3 (by rw [hcut]; exact HJ.out.1.keep fun g hg => hb3.block g (HJ.out.1.lt g hg).2)
        go_roundw
        case rel => exact ⟨_, cnt2, ss, hej, HT.out.2.1 hfr⟩
        case measure => rw [hej.rg.left_eq, hrg.left_eq]; exact HT.out.2.2.2
      · have hent := hown2.entries lawI
        have hbt : w.heap.size ≠ t := fun e1 => by
          have := (HI.out.1.lt t (mem_bids (e := e) (by rw [hE]; simp) (by simp [eids, htb])))
          omega
        have hkt : Bk ≠ t ∧ e.blk ≠ t := by
          have hap := hbs2.apart
          rw [bids_fE, hE, bids_mid, List.nodup_append, List.nodup_append] at hap
          refine ⟨fun e1 => hap.2.2 Bk (by simp) t (by simp [eids, htb]) e1, fun e1 => ?_⟩
          have := hap.2.1.1
          rw [eids, htb] at this
          simp [e1] at this
        obtain ⟨es, hes, hap, hkeys⟩ := hent
        injection hes with hes
        subst hes
        have hdel := del_any (nw := nw) hbx2 hbs2.c3 hbt hkt.1 hown2 hap hkeys
        rw [cut_D] at hdel
        have hlen2 := hown2.len Try.underlying61 3
        rw [size_D] at hlen2
        rw [htb] at c2
        obtain ⟨n0, hn0⟩ : ∃ n0, n0 = e.ts.length := ⟨_, rfl⟩
        obtain ⟨n1, hn1⟩ : ∃ n1, n1 = (e.ts.filter fun p => decide (nw ≤ p.2)).length := ⟨_, rfl⟩
        rw [← hn0] at hlen2 hdel
        have HD : Hid (Calls Try.prog 58 #[.map (some t), .func (.func 57) #[] #[.pointer (some ⟨w.heap.size, 0, none⟩)]] w2 fun e' w3 => e' = .returned (.tuple #[]) ∧ EJ B Bk M w.heap.size R a b c nw E w w3 u4 (fun z => left z && !z.sameKey (.string e.nm)) cnt2 ss ∧ w3.cell? ⟨e.blk, 2, none⟩ = some (.map (some t)) ∧ (Builtin.len_ #[61] 3 #[.map (some t)]).run Try.prog w3 = .ok (.int .i64 (n1 : Int)) w3) := by
          refine hdel.mono ?_
          rintro e' w3 ⟨rfl, hown3, hg3⟩
          have hlen3 := hown3.len Try.underlying61 3
          rw [size_D, ← hn1] at hlen3
          have hown4 := norm_own hown3
          rw [size_D] at hown4
          have hj3 : JobAt B w3 (cutE nw e) := ⟨hj2.lo, (hg3.block e.blk (hj2.lt _ (by simp [eids])).2 (by simp; exact hkt.2)).trans hj2.blk, .inr ⟨t, htb, htB, hown4⟩⟩
          refine ⟨rfl, HT.out.1 w3 (by rw [htb]; exact hg3) hj3, ?_, hlen3⟩
          have := hj3.c2
          rw [show (cutE nw e).tb = some t from htb] at this
          exact this
        have HN : Hid (frees nw e = (decide (0 < n0) && decide (n1 = 0))) := by unfold Hid frees; rw [hn0, hn1]
        have HC : Hid (ss.length ≤ 1000000) := by have := HI.out.2.cn; have := HL.out.2.1; unfold Hid; omega
        have HX : Hid (e.nm.length ≤ maxLen) := hxl
        clear hdel hap hkeys hn0 hn1 hst hbs2 hbx2 hrow2 hup2 hsz2 hj2 hlt hlk hg2 htb hxl hE hown2 hbt hkt htB hrg2
        by_cases h0 : 0 < n0
        · have k0 : 0 < (n0 : Int) := by omega
          by_cases h1 : n1 = 0
          · have hfr : frees nw e = true := by rw [HN.out]; simp [h0, h1]
            subst h1
            have HF : Hid (frees nw e = true) := hfr
            clear hfr HN h0
            go_wp2_with (first
              | (go_at_call 58; refine HD.out.mono ?_; rintro e' w3 ⟨rfl, hej, c3, hlen3⟩)
              | (at_builtin; refine wpList_append_own _ rfl _ _ 32 rfl (w.heap.size + 2) 9 i0 (.string ⟨#[]⟩) 1 16 Try.underlying32 hi hz0 hz1 hz2 rfl (by decide) _ _ _ rfl (hej.row.alloc _) ⟨w3.heap.size, 0, none⟩ 1 1 [encStr e.nm] rfl rfl (cell_one_new _ _ _) (by simp [Value.oneCell', encStr]) (by have := HC.out; unfold maxLen; omega) (by have := HC.out; omega) (by have := hej.sz; simp; omega) ?_; intro v' w4 hown' hg4 hnil4; go_frame)
              | go_in)
            have hej4 : EJ B Bk M w.heap.size R a b c nw E w w4 v' (fun z => left z && !z.sameKey (.string e.nm)) cnt2 (ss ++ [e.nm]) := hej.app hg4 (by simpa using hown')
            go_roundw
            case rel => exact ⟨_, cnt2, ss ++ [e.nm], hej4, HT.out.2.2.1 HF.out⟩
            case measure => rw [hej4.rg.left_eq, hrg.left_eq]; exact HT.out.2.2.2
          · have k1 : ¬ (n1 : Int) = 0 := by omega
            have HF : Hid (frees nw e = false) := by unfold Hid; rw [HN.out]; simp [h1]
            clear HN h0 h1
            go_wp2_with (first
              | (go_at_call 58; refine HD.out.mono ?_; rintro e' w3 ⟨rfl, hej, c3, hlen3⟩)
              | go_in)
            go_roundw
            case rel => exact ⟨_, cnt2, ss, hej, HT.out.2.1 HF.out⟩
            case measure => rw [hej.rg.left_eq, hrg.left_eq]; exact HT.out.2.2.2
        · have k0 : ¬ 0 < (n0 : Int) := by omega
          have HF : Hid (frees nw e = false) := by unfold Hid; rw [HN.out]; simp [h0]
          clear HN h0
          go_wp2_with (first
            | (go_at_call 58; refine HD.out.mono ?_; rintro e' w3 ⟨rfl, hej, c3, hlen3⟩)
            | go_in)
          go_roundw
          case rel => exact ⟨_, cnt2, ss, hej, HT.out.2.1 HF.out⟩
          case measure => rw [hej.rg.left_eq, hrg.left_eq]; exact HT.out.2.2.2
end Go.Proofs.Ytocahjnibdgmoaa
