/- The document's own depth, walked. -/
import Derived.Test.YtankaiopdbcndaaGreatDoorGd2M
namespace Go.Proofs.YtankaiopdbcndaaGreatDoor
open Go.RowKit Go.Shelf Go.Maps
/-- While depths are raised, in memory. -/
structure DR (L : List Tg) (x : ByteArray) (o : List ByteArray) (G : Nat) (w wr : World) (r i k t : Nat) (d : Nat → Int) : Prop where
  rx : Rx (nbE L) (nbC L x) (nbD L o) L.length r i k t d
  at_ : InAt wr G L.length d
  bel : Below w.heap.size w wr

set_option maxHeartbeats 8000000 in
set_option maxRecDepth 100000 in
theorem Deep_any (ao : Option Addr) (cap : Nat) (L : List Tg) (x : ByteArray) (o : List ByteArray) (a : Nat) (w : World) (hf : Fine w ao L) (hC : CoP L x o) (ha : a < L.length) (hax : tnm L[a] = tl x) :
    Calls Tryz.prog 26 #[.slice ao L.length cap, .int .i64 (a : Int)] w fun e w' => e = .returned (.int .i64 (dpF (nfL L) o (tl x))) ∧ Below w.heap.size w w' := by
  have HF : Hid (Fine w ao L) := hf
  obtain ⟨Q, hQ⟩ : ∃ Q : Nat, Q = 1048576 := ⟨_, rfl⟩
  have HQ : Hid (Q = 1048576) := hQ
  clear hQ
  have hD := nb_ok hC
  have HD : Hid (DpOk (nbE L) (nbC L x) (nbD L o) L.length) := hD
  have hn60 := hC.ok.len
  have hni : (L.length : Int) ≤ 60 := by omega
  have HL60 : Hid (L.length ≤ 60) := hn60
  have HN : Hid (NmOk L) := hC.ok
  have hai : (a : Int) < (L.length : Int) := by omega
  have HAl : Hid (a < L.length) := ha
  have HEnd : Hid (∀ (wr : World) (t : Nat) (d : Nat → Int) (G : Nat), DR L x o G w wr L.length 0 0 t d → d a = dpF (nfL L) o (tl x)) := fun wr t d G h => by
    obtain ⟨ks, hq, hl⟩ := hC.q
    rw [← hax, ← nbD_at (o := o) ha]
    refine h.rx.old a ha ⟨ha, by rw [hax]; exact Rs.base rfl⟩ ?_
    rw [nbD_at ha]
    have h1 := dpF_lt hq.kn hC.pos (tnm L[a])
    have h2 : o.length ≤ L.length := by
      rw [hl]
      have := hq.nod.length_le_of_subset (l₂ := L.map tnm) fun k hk => cn_in (ckW_ok.2 ⟨hC.ok, hC.mem⟩) k ((hq.mem k).1 hk)
      simpa using this
    omega
  obtain ⟨hmk1, hmk2⟩ := make_in w L.length hn60
  obtain ⟨G, hG⟩ : ∃ G, G = w.heap.size := ⟨_, rfl⟩
  have hbA : Below w.heap.size w (w.alloc (.cells (madeCells #[.int .i64 0] L.length) 3)) := (Below.refl _ w).alloc (Nat.le_refl _) _
  rw [← hG] at hmk1 hmk2
  have H0 : Hid (DR L x o G w (w.alloc (.cells (madeCells #[.int .i64 0] L.length) 3)) 0 0 0 (0 * Q) (fun _ => 0)) := ⟨Rx.first hD, hmk2, hbA⟩
  have HGl : Hid (w.heap.size ≤ G) := by show _ ≤ _; omega
  have HSm : Hid (∀ i, sfN L i ≤ 1048576) := fun i => sfN_le i hf.sum
  clear hf hC ha hax hn60 hD hmk2 hbA hG
  go_enter Tryz.func26, Tryz.ntmps26
  go_wp2
  generalize w.alloc (.cells (madeCells #[.int .i64 0] L.length) 3) = wa at *
  go_loopw [6] (fun u wr => ∃ r : Nat, r ≤ L.length ∧ u = .int .i64 (r : Int) ∧ Hid (∃ d, DR L x o G w wr r 0 0 (r * Q) d)) (fun u _ => L.length - (intOf u).toNat)
  case atStart => exact ⟨0, Nat.zero_le _, rfl, _, H0.out⟩
  case round =>
    obtain ⟨r, hr, rfl, HR⟩ := hrel
    by_cases hrl : r < L.length
    · have hri : (r : Int) < (L.length : Int) := by omega
      have H1 : Hid (∃ d, DR L x o G w wr r 0 0 (r * Q + sfN L 0) d) := HR
      clear HR H0
      go_wp2
      go_loopw [7] (fun u wr => ∃ i : Nat, i ≤ L.length ∧ u = .int .i64 (i : Int) ∧ Hid (∃ d, DR L x o G w wr r i 0 (r * Q + sfN L i) d)) (fun u _ => L.length - (intOf u).toNat)
      case atStart => exact ⟨0, Nat.zero_le _, rfl, H1⟩
      case round =>
        obtain ⟨i, hi, rfl, HI⟩ := hrel
        by_cases hil : i < L.length
        · have hii : (i : Int) < (L.length : Int) := by omega
          obtain ⟨g, og, rfl, hg, hat⟩ := HF.out.is.at_.resolve_left (fun e => by rw [e] at hil; exact absurd hil (by simp))
          have HC2 : Hid (∀ W, Below w.heap.size w W → W.cell? ⟨g, og + i * 5 + 2, none⟩ = some L[i].vn) := fun W hW => (hat.below hW hg i hil).2.2.1
          obtain ⟨_, hnl, na, nc, hnv, _⟩ := (HF.out.is.tx L[i] (List.getElem_mem hil)).2.1
          have HNt : Hid (∀ W, Below w.heap.size w W → TxIn W L[i].vn L[i].ns) := fun W hW => ((HF.out.below hW).is.tx L[i] (List.getElem_mem hil)).2.1
          rw [hnv] at HC2 HNt
          have HEl : Hid ((nbE L i) = L[i].ns.map fun y => (tgI L (tl y)).toNat) := by show _ = _; unfold nbE; rw [dif_pos hil]
          have HAt : Hid (∀ y ∈ L[i].ns, ∃ j, j < L.length ∧ tgI L (tl y) = (j : Int)) := fun y hy => HN.out.at (List.getElem_mem hil) hy
          have HSs : Hid (sfN L (i + 1) = sfN L i + L[i].ns.length) := sfN_succ hil
          generalize L[i].ns = nl at *
          have hnli : (nl.length : Int) ≤ 1048576 := by omega
          have H2 : Hid (∃ d, DR L x o G w wr r i 0 (r * Q + sfN L i + 0) d) := HI
          clear hat hnv hnl HI H1
          go_wp2
          go_loopw [8] (fun u wr => ∃ k : Nat, k ≤ nl.length ∧ u = .int .i64 (k : Int) ∧ Hid (∃ d, DR L x o G w wr r i k (r * Q + sfN L i + k) d)) (fun u _ => nl.length - (intOf u).toNat)
          case atStart => exact ⟨0, Nat.zero_le _, rfl, H2⟩
          case round =>
            obtain ⟨k, hk, rfl, HK⟩ := hrel
            obtain ⟨d, hDR⟩ := HK.out
            have cv := HC2.out wr hDR.bel
            by_cases hkl : k < nl.length
            · have hki : (k : Int) < (nl.length : Int) := by omega
              obtain ⟨_, _, na2, nc2, e, hmem⟩ := HNt.out wr hDR.bel
              injection e with e1 _ e3
              subst e1 e3
              rcases hmem with hz | ⟨ng, no, rfl, _, hcn⟩
              · exfalso; rw [hz] at hkl; exact absurd hkl (by simp)
              have cn := hcn k hkl
              obtain ⟨m, hm, hmi⟩ := HAt.out nl[k] (List.getElem_mem hkl)
              have hmI : (m : Int) < (L.length : Int) := by omega
              have hek : k < (nbE L i).length := by rw [HEl.out, List.length_map]; exact hkl
              have hem : (nbE L i)[k] = m := by
                have : (nbE L i)[k]? = some m := by rw [HEl.out, List.getElem?_map, List.getElem?_eq_getElem hkl]; simp [hmi]
                rw [List.getElem?_eq_getElem hek] at this
                exact Option.some.inj this
              obtain ⟨s1, s2⟩ := hDR.at_ i hil
              have s3 := (hDR.at_ m hm).1
              have HC : ∀ W : World, Below w.heap.size w W → Calls Tryz.prog 17 #[.slice (some ⟨g, og, none⟩) L.length cap, .string nl[k]] W fun e w' => e = .returned (.int .i64 (m : Int)) ∧ w' = W := fun W hW => by
                have := TargetAt_any (some ⟨g, og, none⟩) cap L nl[k] W (HF.out.below hW).is HF.out.len
                rw [hmi] at this
                exact this
              have HCd := HC wr.drew ⟨hDR.bel.os, hDR.bel.tape, hDR.bel.output, hDR.bel.size, hDR.bel.block⟩
              have hlo1 := hDR.rx.lo i hil
              have hlo2 := hDR.rx.lo m hm
              have hbd : r * Q + sfN L i + k ≤ 100000000 := by
                have h1 := HSm.out i
                have h2 := HL60.out
                have h3 : r * Q ≤ 60 * Q := Nat.mul_le_mul_right Q (by omega)
                have h4 := HQ.out
                have h5 : k ≤ 1048576 := by omega
                generalize r * Q = q at *
                omega
              have HE : Hid (∃ d2, DR L x o G w ((wr.setCell ⟨G, i, none⟩ (.int .i64 (max (d i) (1 + d m)))).drew) r i (k + 1) (r * Q + sfN L i + (k + 1)) d2) := by
                refine ⟨updD d i (max (d i) (1 + d m)), ?_, InAt.set (w := wr) hDR.at_ hil _, ?_⟩
                · have := hDR.rx.step HD.out hil hek (by rw [hem]; exact hm)
                  rw [hem] at this
                  rw [← Nat.add_assoc]
                  exact this
                · have hb : Below w.heap.size w (wr.setCell ⟨G, i, none⟩ (.int .i64 (max (d i) (1 + d m)))) := hDR.bel.setCell (by show w.heap.size ≤ G; exact HGl.out) _
                  exact ⟨hb.os, hb.tape, hb.output, hb.size, hb.block⟩
              generalize nl[k] = y at *
              have hb1 : 0 ≤ d m ∧ d m ≤ 100000000 := by
                generalize r * Q + sfN L i + k = tt at hbd hlo2
                omega
              have hw : IntKind.i64.wrap (1 + d m) = 1 + d m := by rw [IntKind.wrap_i64]; omega
              have hw2 : wrap64 (1 + d m) = 1 + d m := by unfold wrap64; omega
              generalize d i = di at *
              generalize d m = dm at *
              clear hcn hmi hem hek hDR HC hlo1 hlo2 hbd hb1 HK H2
              go_wp2
              go_region_with (go_at_call 17; refine HCd.mono ?_; rintro e w'' ⟨rfl, hwx⟩; subst w'')
              all_goals
                go_wp2
                exact ⟨⟨k + 1, by omega, by go_num, HE⟩, by simp [intOf]; omega⟩
            · obtain rfl : k = nl.length := by omega
              have HE : Hid (∃ d, DR L x o G w wr r (i + 1) 0 (r * Q + sfN L (i + 1)) d) := by
                have hlen : (nbE L i).length = nl.length := by rw [HEl.out, List.length_map]
                refine ⟨d, ?_, hDR.at_, hDR.bel⟩
                rw [HSs.out, ← Nat.add_assoc]
                have hrx := hDR.rx
                rw [← hlen] at hrx ⊢
                exact hrx.next HD.out hil
              clear hDR HK H2
              go_wp2
              exact ⟨⟨i + 1, by omega, by go_num, HE⟩, by simp [intOf]; omega⟩
        · obtain rfl : i = L.length := by omega
          have HE : Hid (∃ d, DR L x o G w wr (r + 1) 0 0 ((r + 1) * Q) d) := by
            obtain ⟨d, hDR⟩ := HI.out
            refine ⟨d, ?_, hDR.at_, hDR.bel⟩
            refine (hDR.rx.round).mono ?_
            rw [Nat.add_mul, Nat.one_mul]
            have h1 := HSm.out L.length
            have h2 := HQ.out
            omega
          clear HI H1
          go_wp2
          exact ⟨⟨r + 1, by omega, by go_num, HE⟩, by simp [intOf]; omega⟩
    · obtain rfl : r = L.length := by omega
      obtain ⟨d, hDR⟩ := HR.out
      have hfin := HEnd.out wr _ d G hDR
      have s1 := (hDR.at_ a HAl.out).1
      rw [hfin] at s1
      have HB : Hid (Below w.heap.size w wr) := hDR.bel
      clear HR H0 hDR hfin
      go_wp2
      go_ret
      exact ⟨rfl, HB.out⟩
end Go.Proofs.YtankaiopdbcndaaGreatDoor
