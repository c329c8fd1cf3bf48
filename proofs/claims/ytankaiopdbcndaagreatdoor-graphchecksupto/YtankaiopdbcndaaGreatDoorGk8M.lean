/- The document's check of targets among files. -/
import Derived.Test.YtankaiopdbcndaaGreatDoorGk7M
import Derived.Deep.RegionWith
import Derived.BigRegion
namespace Go.Proofs.YtankaiopdbcndaaGreatDoor
open Go.RowKit Go.Shelf Go.Maps Go.WideMaps

set_option maxHeartbeats 16000000 in
set_option maxRecDepth 100000 in
theorem RCheckGraph_any (ao : Option Addr) (cap : Nat) (L : List Tg) (fo : Option Addr) (fc : Nat) (FL : List Fl) (w : World) (h : Fine w ao L) (hf : IsFl w fo FL) :
    Calls Tryz.prog 28 #[.slice ao L.length cap, .slice fo FL.length fc] w (GkP FL L w) := by
  have HT : Hid (Calls Tryz.prog 43 #[.slice fo FL.length fc] w fun e w' => e = .returned (.int .i64 (chF FL)) ∧ Hid (Below w.heap.size w w')) := (RCheck_any fo fc FL w hf).mono fun e w' h => ⟨h.1, h.2⟩
  have HCk : Hid (∀ W, Below w.heap.size w W → Calls Tryz.prog 10 #[.slice ao L.length cap] W fun e w' => e = .returned (.int .i64 (ckN L)) ∧ w' = W) := fun W hb => CheckNames_any ao cap L W (h.below hb)
  by_cases c0 : chF FL = 0
  · by_cases k0 : ckN L = 0
    · have hN := ckN_ok.1 k0
      obtain ⟨hfl, hfs⟩ := chF_sz c0
      have HV : Hid (∀ b r, (gkF (FL.map pth) (FL.map (·.pa)) L).getD (⟨#[]⟩, if b = true then 10 else 0) = r → gcV FL L b = r) := fun b r hr => by
        unfold gcV
        rw [if_pos c0, if_pos k0]
        exact hr
      have HF : Hid (Fine w ao L) := h
      have HFl : Hid (IsFl w fo FL) := hf
      have hn60 := hN.len
      have hli : (L.length : Int) ≤ 60 := by omega
      have hfi : (FL.length : Int) ≤ 60 := by omega
      have HEv : Hid (∀ W, Calls Tryz.prog 12 #[.slice ao L.length cap] W fun e w' => ∃ v, e = .returned v ∧ BlIn w' v L.length (fun _ => true) ∧ Below W.heap.size W w') := fun W => Everyone_any ao cap L W hn60
      obtain ⟨b, hb⟩ : ∃ b : Bool, b = true ↔ Crc L (fun _ => true) := ⟨@decide (Crc L (fun _ => true)) (Classical.propDecidable _), by simp⟩
      have HB : Hid (b = true ↔ ∃ k, k ∈ L.map tnm ∧ Rp (ndT (nfL L)) k k) := by
        show _ ↔ _
        rw [hb]
        exact crc_iff hN fun k => by simp [ksH_all]
      have HCr : Hid (∀ v W, Below w.heap.size w W → BlIn W v L.length (fun _ => true) → Calls Tryz.prog 11 #[.slice ao L.length cap, v] W fun e w' => e = .returned (.bool b) ∧ Hid (Below W.heap.size W w')) := fun v W h1 h2 => HasCircle_any ao cap L v _ W (HF.out.below h1) hN h2 b hb
      have HFA : Hid (∀ s W, Below w.heap.size w W → Calls Tryz.prog 44 #[.slice fo FL.length fc, .string s] W fun e w' => ∃ i : Int, e = .returned (.int .i64 i) ∧ FaN FL s i ∧ w' = W) := fun s W hb => RFileAt_any fo fc FL s W (hf.below hb (Nat.le_refl _)) hfl
      have HI : Hid (gkF (FL.map pth) (FL.map (·.pa)) L = gkF (FL.map pth) (FL.map (·.pa) ++ (L.take 0).flatMap (·.os)) (L.drop 0)) := by show _ = _; simp
      rw [c0] at HT
      rw [k0] at HCk
      clear h hf hN hfs c0 hb
      go_enter Tryz.func28, Tryz.ntmps28
      go_wp2_with fail
      refine HT.out.mono ?_
      rintro e w1 ⟨rfl, G1⟩
      have HN := HCk.out w1 G1.out
      clear HT HCk
      go_wp2_with fail
      refine HN.mono ?_
      rintro e w2 ⟨rfl, rfl⟩
      clear HN
      go_wp2
      go_loopw [7] (fun i wr => ∃ k : Nat, k ≤ L.length ∧ i = .int .i64 (k : Int) ∧ Hid (gkF (FL.map pth) (FL.map (·.pa)) L = gkF (FL.map pth) (FL.map (·.pa) ++ (L.take k).flatMap (·.os)) (L.drop k)) ∧ Hid (Below w.heap.size w wr)) (fun i _ => L.length - (intOf i).toNat)
      case atStart => exact ⟨0, Nat.zero_le _, rfl, HI, G1⟩
      case round =>
        clear HI G1
        obtain ⟨i, hi, rfl, HI, HBr⟩ := hrel
        by_cases hlt : i < L.length
        · have hii : (i : Int) < (L.length : Int) := by omega
          rcases HF.out.is.at_ with h | ⟨g, o, rfl, hg, hcc⟩
          · exfalso; rw [h] at hlt; exact absurd hlt (by simp)
          obtain ⟨z0, z1, z2, z3, z4⟩ := hcc.below HBr.out hg i hlt
          have HTg : Hid (∀ W, Below w.heap.size w W → TgAt g o L W) := fun W hb => hcc.below hb hg
          have hmem : L[i] ∈ L := List.getElem_mem hlt
          have hsl := HF.out.is.tx _ hmem
          obtain ⟨T, hTd⟩ : ∃ T, T = FL.map (·.pa) ++ (L.take i).flatMap (·.os) := ⟨_, rfl⟩
          have HTd : Hid (T = FL.map (·.pa) ++ (L.take i).flatMap (·.os)) := hTd
          have HBd : Hid (∀ e : Int, e ≠ 0 → teF (FL.map pth) T L[i] = e → ∀ w', Below w.heap.size w w' → GkP FL L w (.returned (.tuple #[.string L[i].nm, .int .i64 e])) w') := fun e he0 he w' hw' => gk_any FL L (r := (L[i].nm, e)) hw' fun b => HV.out b _ (by
            have hg2 := gk_stop hlt HI.out (by rw [← hTd, he]; exact he0)
            rw [← hTd, he] at hg2
            rw [hg2]
            rfl)
          have HNx : Hid (teF (FL.map pth) T L[i] = 0 → tkF T L[i].os = (true, T ++ L[i].os) → gkF (FL.map pth) (FL.map (·.pa)) L = gkF (FL.map pth) (FL.map (·.pa) ++ (L.take (i + 1)).flatMap (·.os)) (L.drop (i + 1))) := fun h1 h2 => by
            refine gk_next hlt HI.out ?_ ?_
            · rw [← hTd]; exact h1
            · rw [← hTd]; exact h2
          have HMt : Hid (∀ k y, y ∈ T ++ (L[i].os).take k ↔ MtA FL L i k y) := fun k y => by
            rw [hTd]
            exact mtA_iff hlt y
          clear hTd HI
          have HTI : Hid (∃ t, L[i] = t) := ⟨_, rfl⟩
          generalize hx : L[i] = t at z0 z1 z2 z3 z4 hmem hsl HBd HNx HMt
          have HLi : Hid (∀ hh : i < L.length, L[i] = t) := fun _ => hx
          obtain ⟨W, hW⟩ : ∃ W, W = wr.alloc (.cells #[.string t.nm, t.vs, t.vn, t.vo, t.vc] 38) := ⟨_, rfl⟩
          have hWb : Below wr.heap.size wr W := by rw [hW]; exact (Below.refl _ wr).alloc (Nat.le_refl _) _
          have hWc : W.heap[wr.heap.size]? = some (.cells #[.string t.nm, t.vs, t.vn, t.vo, t.vc] 38 (0, 0)) := by rw [hW]; exact heap_alloc_new wr _
          have HX : Hid (∀ W2, Below W.heap.size W W2 → Below w.heap.size w W2 ∧ W2.cell? ⟨wr.heap.size, 0, none⟩ = some (.string t.nm) ∧ W2.cell? ⟨wr.heap.size, 1, none⟩ = some t.vs ∧ W2.cell? ⟨wr.heap.size, 3, none⟩ = some t.vo ∧ W2.cell? ⟨wr.heap.size, 4, none⟩ = some t.vc) := fun W2 hb => by
            have e := (hb.block _ (blk_lt hWc)).trans hWc
            refine ⟨(HBr.out.trans (hWb.mono HBr.out.size)).trans (hb.mono (HBr.out.trans (hWb.mono HBr.out.size)).size), ?_, ?_, ?_, ?_⟩ <;> (rw [Lib.cell_of_heap e]; try rfl)
          have HSx : Hid (∀ W2, Below w.heap.size w W2 → TxIn W2 t.vs t.ss ∧ TxIn W2 t.vo t.os) := fun W2 hb => ⟨hsl.1.below hb (Nat.le_refl _), hsl.2.2.1.below hb (Nat.le_refl _)⟩
          obtain ⟨s1, s2, s3, s4⟩ := hsl
          obtain ⟨-, l1, a1, q1, e1, -⟩ := s1
          obtain ⟨a2, n2, q2, e2⟩ := s2.1
          obtain ⟨-, l3, a3, q3, e3, -⟩ := s3
          obtain ⟨-, l4, a4, q4, e4, -⟩ := s4
          have l1i : (t.ss.length : Int) ≤ 1048576 := by omega
          have l3i : (t.os.length : Int) ≤ 1048576 := by omega
          have l4i : (t.cs.length : Int) ≤ 1048576 := by omega
          rw [e1] at z1 HX HSx
          rw [e2] at z2
          rw [e3] at z3 HX HSx
          rw [e4] at z4 HX
          rw [e1, e2, e3, e4] at hW
          have HW0 : Hid (Below W.heap.size W (wr.alloc (.cells #[.string t.nm, .slice a1 t.ss.length q1, .slice a2 n2 q2, .slice a3 t.os.length q3, .slice a4 t.cs.length q4] 38))) := by
            rw [← hW]
            exact Below.refl _ _
          clear hWb hWc hmem hx s2 hcc hg e1 e2 e3 e4 l1 l3 l4 HV HCr HEv HTI HB hW
          go_wp2
          go_loopw [9] (fun i wr9 => ∃ k : Nat, k ≤ t.ss.length ∧ i = .int .i64 (k : Int) ∧ Hid (∀ j (hj : j < t.ss.length), j < k → tl t.ss[j] ∈ FL.map pth) ∧ Hid (Below W.heap.size W wr9)) (fun i _ => t.ss.length - (intOf i).toNat)
          case atStart => exact ⟨0, Nat.zero_le _, rfl, (fun j _ h => absurd h (Nat.not_lt_zero _) : ∀ j (hj : j < t.ss.length), j < 0 → tl t.ss[j] ∈ FL.map pth), HW0⟩
          case round =>
            clear z0 z1 z2 z3 z4 HBr HW0
            obtain ⟨k, hk, rfl, HQ, HBk⟩ := hrel
            obtain ⟨hbw, x0, x1, x3, x4⟩ := HX.out wr HBk.out
            by_cases hk1 : k < t.ss.length
            · have hki : (k : Int) < (t.ss.length : Int) := by omega
              obtain ⟨⟨-, -, va, vc, e, hmem⟩, -⟩ := HSx.out wr hbw
              injection e with e1 _ e3
              subst e1 e3
              rcases hmem with hz | ⟨sg, so, rfl, _, hcn⟩
              · exfalso; rw [hz] at hk1; exact absurd hk1 (by simp)
              have cn := hcn k hk1
              have HFa := HFA.out t.ss[k] wr hbw
              have HBw : Hid (Below w.heap.size w wr) := hbw
              clear hcn hbw
              by_cases hin : tl t.ss[k] ∈ FL.map pth
              · have HE : Hid (∀ j (hj : j < t.ss.length), j < k + 1 → tl t.ss[j] ∈ FL.map pth) := fun j hj h => by
                  by_cases e : j < k
                  · exact HQ.out j hj e
                  · have e2 : j = k := by omega
                    subst e2
                    exact hin
                have HN : Hid (∀ i : Int, FaN FL t.ss[k] i → ¬ i < 0) := fun i hi h => hi.1 h hin
                clear hin HQ
                generalize t.ss[k] = y at *
                go_wp2_with fail
                refine HFa.mono ?_
                rintro e w3 ⟨fi, rfl, hfa, rfl⟩
                have hfn := HN.out fi hfa
                clear HFa HN hfa
                go_wp2
                exact ⟨⟨k + 1, by omega, by go_num, HE, HBk⟩, by simp [intOf]; omega⟩
              · have HE : Hid (GkP FL L w (.returned (.tuple #[.string t.nm, .int .i64 5])) wr) := HBd.out 5 (by decide) (te_5 k hk1 hin) wr HBw.out
                have HN : Hid (∀ i : Int, FaN FL t.ss[k] i → i < 0) := fun i hi => hi.2 hin
                clear hin HQ
                generalize t.ss[k] = y at *
                go_wp2_with fail
                refine HFa.mono ?_
                rintro e w3 ⟨fi, rfl, hfa, rfl⟩
                have hfn := HN.out fi hfa
                clear HFa HN hfa
                go_wp2
                go_ret2
                exact HE.out
            · obtain rfl : k = t.ss.length := by omega
              have hki : ¬ (t.ss.length : Int) < (t.ss.length : Int) := by omega
              have H5 : Hid (¬ t.ss.any (fun x => !decide (tl x ∈ FL.map pth)) = true) := te_n5 fun j hj => HQ.out j hj hj
              clear HQ hbw
              go_wp2
              go_loopw [10] (fun i wr9 => ∃ k : Nat, k ≤ t.os.length ∧ i = .int .i64 (k : Int) ∧ Hid (∀ j (hj : j < t.os.length), j < k → pathOk t.os[j] = true) ∧ Hid (Below W.heap.size W wr9)) (fun i _ => t.os.length - (intOf i).toNat)
              case atStart => exact ⟨0, Nat.zero_le _, rfl, (fun j _ h => absurd h (Nat.not_lt_zero _) : ∀ j (hj : j < t.os.length), j < 0 → pathOk t.os[j] = true), HBk⟩
              case round =>
                clear x0 x1 x3 x4 HBk
                obtain ⟨k, hk, rfl, HQ, HBk⟩ := hrel
                obtain ⟨hbw, x0, x1, x3, x4⟩ := HX.out wr HBk.out
                by_cases hk1 : k < t.os.length
                · have hki : (k : Int) < (t.os.length : Int) := by omega
                  obtain ⟨-, ⟨-, -, va, vc, e, hmem⟩⟩ := HSx.out wr hbw
                  injection e with e1 _ e3
                  subst e1 e3
                  rcases hmem with hz | ⟨sg, so, rfl, _, hcn⟩
                  · exfalso; rw [hz] at hk1; exact absurd hk1 (by simp)
                  have cn := hcn k hk1
                  have HPa := RIsPath_any t.os[k] wr
                  clear hcn hbw
                  cases hpo : pathOk t.os[k] with
                  | true =>
                    have HE : Hid (∀ j (hj : j < t.os.length), j < k + 1 → pathOk t.os[j] = true) := fun j hj h => by
                      by_cases e : j < k
                      · exact HQ.out j hj e
                      · have e2 : j = k := by omega
                        subst e2
                        exact hpo
                    rw [hpo] at HPa
                    clear HQ hpo
                    generalize t.os[k] = y at *
                    go_wp2_with fail
                    refine HPa.mono ?_
                    rintro e w3 ⟨rfl, hb3⟩
                    have HB3 : Hid (Below W.heap.size W w3) := HBk.out.trans (hb3.mono HBk.out.size)
                    clear HPa hb3
                    go_wp2
                    exact ⟨⟨k + 1, by omega, by go_num, HE, HB3⟩, by simp [intOf]; omega⟩
                  | false =>
                    have HE : Hid (∀ w', Below W.heap.size W w' → w'.cell? _ = some (.string t.nm) ∧ Hid (GkP FL L w (.returned (.tuple #[.string t.nm, .int .i64 1])) w')) := fun w' hb => ⟨(HX.out w' hb).2.1, HBd.out 1 (by decide) (te_1 H5.out k hk1 hpo) w' (HX.out w' hb).1⟩
                    rw [hpo] at HPa
                    clear HQ hpo
                    generalize t.os[k] = y at *
                    go_wp2_with fail
                    refine HPa.mono ?_
                    rintro e w3 ⟨rfl, hb3⟩
                    obtain ⟨x0b, HE2⟩ := HE.out w3 (HBk.out.trans (hb3.mono HBk.out.size))
                    clear HPa hb3 HE
                    go_wp2
                    go_ret2
                    exact HE2.out
                · obtain rfl : k = t.os.length := by omega
                  have hki : ¬ (t.os.length : Int) < (t.os.length : Int) := by omega
                  have H1 : Hid (¬ t.os.any (fun x => !pathOk x) = true) := te_n1 fun j hj => HQ.out j hj hj
                  clear HQ
                  by_cases hmany : 60 < t.ss.length ∨ 60 < t.os.length ∨ 60 < t.cs.length
                  · have HE : Hid (GkP FL L w (.returned (.tuple #[.string t.nm, .int .i64 2])) wr) := HBd.out 2 (by decide) (te_2 H5.out H1.out hmany) wr hbw
                    clear hbw
                    by_cases y1 : (60 : Int) < (t.ss.length : Int)
                    · go_wp2
                      go_ret2
                      exact HE.out
                    · by_cases y3 : (60 : Int) < (t.os.length : Int)
                      · go_wp2
                        go_ret2
                        exact HE.out
                      · have y4 : (60 : Int) < (t.cs.length : Int) := by omega
                        go_wp2
                        go_ret2
                        exact HE.out
                  · have HM : Hid (¬ (60 < t.ss.length ∨ 60 < t.os.length ∨ 60 < t.cs.length)) := hmany
                    have y1 : ¬ (60 : Int) < (t.ss.length : Int) := by omega
                    have y3 : ¬ (60 : Int) < (t.os.length : Int) := by omega
                    have y4 : ¬ (60 : Int) < (t.cs.length : Int) := by omega
                    have HK0 : Hid (tkF T t.os = tkF (T ++ t.os.take 0) (t.os.drop 0)) := by show _ = _; simp
                    clear hbw hmany
                    go_wp2
                    go_loopw [11] (fun i wr9 => ∃ k : Nat, k ≤ t.os.length ∧ i = .int .i64 (k : Int) ∧ Hid (tkF T t.os = tkF (T ++ t.os.take k) (t.os.drop k)) ∧ Hid (Below W.heap.size W wr9)) (fun i _ => t.os.length - (intOf i).toNat)
                    case atStart => exact ⟨0, Nat.zero_le _, rfl, HK0, HBk⟩
                    case round =>
                      clear x0 x1 x3 x4 HBk HK0 y1 y3 y4
                      obtain ⟨k, hk, rfl, HK, HBk⟩ := hrel
                      obtain ⟨hbw, x0, x1, x3, x4⟩ := HX.out wr HBk.out
                      by_cases hk1 : k < t.os.length
                      · have hki : (k : Int) < (t.os.length : Int) := by omega
                        have hmt := HSx.out wr hbw
                        obtain ⟨-, ⟨-, -, va, vc, e, hmem⟩⟩ := hmt
                        injection e with e1 _ e3
                        subst e1 e3
                        rcases hmem with hz | ⟨sg, so, rfl, -, hcn⟩
                        · exfalso; rw [hz] at hk1; exact absurd hk1 (by simp)
                        clear hcn
                        have HOk : Hid (∀ W2, Below w.heap.size w W2 → W2.cell? ⟨sg, so + k, none⟩ = some (.string t.os[k])) := fun W2 hb => by
                          obtain ⟨-, ⟨-, -, va, vc, e, hmem⟩⟩ := HSx.out W2 hb
                          injection e with e1 _ e3
                          rcases hmem with hz | ⟨g2, o2, e4, -, hcn⟩
                          · exfalso; rw [hz] at hk1; exact absurd hk1 (by simp)
                          · have e5 := e1.trans e4
                            injection e5 with e5
                            injection e5 with e6 e7
                            subst e6 e7
                            exact hcn k hk1
                        have HFd : Hid (∀ y, MtA FL L i k y → meetB y t.os[k] = true → ∀ w', Below W.heap.size W w' → GkP FL L w (.returned (.tuple #[.string t.nm, .int .i64 6])) w') := fun y hy hm w' hb => HBd.out 6 (by decide) (te_6 H5.out H1.out HM.out (tk_bad hk1 HK.out y ((HMt.out k y).2 hy) hm)) w' (HX.out w' hb).1
                        have HNk : Hid ((∀ y, MtA FL L i k y → meetB y t.os[k] = false) → tkF T t.os = tkF (T ++ t.os.take (k + 1)) (t.os.drop (k + 1))) := fun ha => tk_step hk1 HK.out fun y hy => ha y ((HMt.out k y).1 hy)
                        clear HK hbw
                        generalize t.os[k] = x at HOk HFd HNk
                        go_wp2
                        go_loopw [12] (fun ii wr9 => ∃ j : Nat, j ≤ FL.length ∧ ii = .int .i64 (j : Int) ∧ Hid (∀ j' (hj : j' < FL.length), j' < j → meetB FL[j'].pa x = false) ∧ Hid (Below W.heap.size W wr9)) (fun i _ => FL.length - (intOf i).toNat)
                        case atStart => exact ⟨0, Nat.zero_le _, rfl, (fun j _ h => absurd h (Nat.not_lt_zero _) : ∀ j' (hj : j' < FL.length), j' < 0 → meetB FL[j'].pa x = false), HBk⟩
                        case round =>
                          clear x0 x1 x3 x4 HBk
                          obtain ⟨j, hj, rfl, HJ, HBj⟩ := hrel
                          have HBd2 : Hid (Below W.heap.size W wr.drew) := drew_below HBj.out
                          obtain ⟨hbw, x0, x1, x3, x4⟩ := HX.out wr.drew HBd2.out
                          by_cases hj1 : j < FL.length
                          · have hji : (j : Int) < (FL.length : Int) := by omega
                            rcases HFl.out with h | ⟨fg, fq, rfl, hfg, hfc⟩
                            · exfalso; rw [h] at hj1; exact absurd hj1 (by simp)
                            have f0 := (hfc.below hbw hfg j hj1).1
                            have c0 := HOk.out wr.drew hbw
                            have HMe := RMeets_any FL[j].pa x wr.drew
                            clear hfc hfg
                            have x0w : wr.cell? _ = _ := x0
                            have x3w : wr.cell? _ = _ := x3
                            have f0w : wr.cell? _ = _ := f0
                            have c0w : wr.cell? _ = _ := c0
                            cases hme : meetB FL[j].pa x with
                            | true =>
                              have HE : Hid (GkP FL L w (.returned (.tuple #[.string t.nm, .int .i64 6])) wr.drew) := HFd.out _ (.inl ⟨j, hj1, rfl⟩) hme _ HBd2.out
                              rw [hme] at HMe
                              clear hme HJ hbw
                              generalize FL[j].pa = y at *
                              go_wp2
                              go_region_with (go_at_call 46; refine HMe.mono ?_; rintro e w'' ⟨rfl, hwx⟩; subst w'')
                              all_goals
                                go_wp2
                                go_ret2
                                exact HE.out
                            | false =>
                              have HE : Hid (∀ j' (hj : j' < FL.length), j' < j + 1 → meetB FL[j'].pa x = false) := fun j' hj' h => by
                                by_cases e : j' < j
                                · exact HJ.out j' hj' e
                                · have e2 : j' = j := by omega
                                  subst e2
                                  exact hme
                              rw [hme] at HMe
                              clear hme HJ hbw
                              generalize FL[j].pa = y at *
                              go_wp2
                              go_region_with (go_at_call 46; refine HMe.mono ?_; rintro e w'' ⟨rfl, hwx⟩; subst w'')
                              all_goals
                                go_wp2
                                exact ⟨⟨j + 1, by omega, by go_num, HE, HBd2⟩, by simp [intOf]; omega⟩
                          · obtain rfl : j = FL.length := by omega
                            have hji : ¬ (FL.length : Int) < (FL.length : Int) := by omega
                            have HJ2 : Hid (∀ j' (hj : j' < FL.length), meetB FL[j'].pa x = false) := fun j' hj => HJ.out j' hj hj
                            clear HJ hbw HBd2 x0 x1 x3 x4
                            go_wp2
                            go_loopw [13] (fun ii wr9 => ∃ jj : Nat, jj ≤ i + 1 ∧ ii = .int .i64 (jj : Int) ∧ Hid (∀ j' (hj : j' < L.length), j' < jj → ∀ n' (hn : n' < L[j'].os.length), (j' < i ∨ n' < k) → meetB L[j'].os[n'] x = false) ∧ Hid (Below W.heap.size W wr9)) (fun ii _ => (i + 1) - (intOf ii).toNat)
                            case atStart => exact ⟨0, Nat.zero_le _, rfl, (fun j _ h => absurd h (Nat.not_lt_zero _) : ∀ j' (hj : j' < L.length), j' < 0 → ∀ n' (hn : n' < L[j'].os.length), (j' < i ∨ n' < k) → meetB L[j'].os[n'] x = false), HBj⟩
                            case round =>
                              clear HBj
                              obtain ⟨jj, hjj, rfl, HJJ, HBj⟩ := hrel
                              by_cases hj1 : jj ≤ i
                              · have hji : (jj : Int) ≤ (i : Int) := by omega
                                have hjl : jj < L.length := by omega
                                have hjlI : (jj : Int) < (L.length : Int) := by omega
                                go_wp2
                                go_loopw [14] (fun ii wr9 => ∃ n : Nat, n ≤ L[jj].os.length ∧ ii = .int .i64 (n : Int) ∧ Hid (∀ n' (hn : n' < L[jj].os.length), n' < n → meetB L[jj].os[n'] x = false) ∧ Hid (Below W.heap.size W wr9)) (fun ii _ => L[jj].os.length - (intOf ii).toNat)
                                case atStart => exact ⟨0, Nat.zero_le _, rfl, (fun j _ h => absurd h (Nat.not_lt_zero _) : ∀ n' (hn : n' < L[jj].os.length), n' < 0 → meetB L[jj].os[n'] x = false), HBj⟩
                                case round =>
                                  clear HBj
                                  obtain ⟨n, hn, rfl, HQn, HBn⟩ := hrel
                                  have HBd2 : Hid (Below W.heap.size W wr.drew) := drew_below HBn.out
                                  obtain ⟨hbw, x0, x1, x3, x4⟩ := HX.out wr.drew HBd2.out
                                  obtain ⟨-, -, -, z3, -⟩ := HTg.out wr.drew hbw jj hjl
                                  have c0 := HOk.out wr.drew hbw
                                  have hu := (HF.out.is.tx L[jj] (List.getElem_mem hjl)).2.2.1.below hbw (Nat.le_refl _)
                                  obtain ⟨-, lu, va, vq, eu, hmem⟩ := hu
                                  rw [eu] at z3
                                  have x0w : wr.cell? _ = _ := x0
                                  have x3w : wr.cell? _ = _ := x3
                                  have z3w : wr.cell? _ = _ := z3
                                  have c0w : wr.cell? _ = _ := c0
                                  have lui : (L[jj].os.length : Int) ≤ 1048576 := by omega
                                  have HXt : Hid ((∀ n' (hn : n' < L[jj].os.length), (jj < i ∨ n' < k) → n' < n) → ∀ j' (hj : j' < L.length), j' < jj + 1 → ∀ n' (hn : n' < L[j'].os.length), (j' < i ∨ n' < k) → meetB L[j'].os[n'] x = false) := fun hlast j' hj' h n' hn' hc => by
                                    by_cases e : j' < jj
                                    · exact HJJ.out j' hj' e n' hn' hc
                                    · have e2 : j' = jj := by omega
                                      subst e2
                                      exact HQn.out n' hn' (hlast n' hn' hc)
                                  by_cases hn1 : n < L[jj].os.length
                                  · have hni : (n : Int) < (L[jj].os.length : Int) := by omega
                                    rcases hmem with hz | ⟨ug, uo, rfl, -, hcn⟩
                                    · exfalso; rw [hz] at hn1; exact absurd hn1 (by simp)
                                    have d0 := hcn n hn1
                                    have d0w : wr.cell? _ = _ := d0
                                    clear hcn eu
                                    by_cases hA : jj < i ∨ n < k
                                    · have HMe := RMeets_any L[jj].os[n] x wr.drew
                                      cases hme : meetB L[jj].os[n] x with
                                      | true =>
                                        have HE : Hid (GkP FL L w (.returned (.tuple #[.string t.nm, .int .i64 6])) wr.drew) := HFd.out _ (.inr ⟨jj, hjl, n, hn1, hj1, hA, rfl⟩) hme _ HBd2.out
                                        rw [hme] at HMe
                                        clear hme HQn hbw HXt
                                        generalize L[jj].os[n] = y at *
                                        by_cases hjI : (jj : Int) < (i : Int)
                                        · go_wp2
                                          go_region_with (go_at_call 46; refine HMe.mono ?_; rintro e w'' ⟨rfl, hwx⟩; subst w'')
                                          all_goals
                                            go_wp2
                                            go_ret2
                                            exact HE.out
                                        · have hnk : (n : Int) < (k : Int) := by omega
                                          go_wp2
                                          go_region_with (go_at_call 46; refine HMe.mono ?_; rintro e w'' ⟨rfl, hwx⟩; subst w'')
                                          all_goals
                                            go_wp2
                                            go_ret2
                                            exact HE.out
                                      | false =>
                                        have HE : Hid (∀ n' (hn : n' < L[jj].os.length), n' < n + 1 → meetB L[jj].os[n'] x = false) := fun n' hn' h => by
                                          by_cases e : n' < n
                                          · exact HQn.out n' hn' e
                                          · have e2 : n' = n := by omega
                                            subst e2
                                            exact hme
                                        rw [hme] at HMe
                                        clear hme HQn hbw HXt
                                        generalize L[jj].os[n] = y at HMe d0 d0w
                                        by_cases hjI : (jj : Int) < (i : Int)
                                        · go_wp2
                                          go_region_with (go_at_call 46; refine HMe.mono ?_; rintro e w'' ⟨rfl, hwx⟩; subst w'')
                                          all_goals
                                            go_wp2
                                            exact ⟨⟨n + 1, by omega, by go_num, HE, HBd2⟩, by simp [intOf]; omega⟩
                                        · have hnk : (n : Int) < (k : Int) := by omega
                                          go_wp2
                                          go_region_with (go_at_call 46; refine HMe.mono ?_; rintro e w'' ⟨rfl, hwx⟩; subst w'')
                                          all_goals
                                            go_wp2
                                            exact ⟨⟨n + 1, by omega, by go_num, HE, HBd2⟩, by simp [intOf]; omega⟩
                                    · have hjI : ¬ (jj : Int) < (i : Int) := by omega
                                      have hnk : ¬ (n : Int) < (k : Int) := by omega
                                      have HE : Hid (∀ j' (hj : j' < L.length), j' < jj + 1 → ∀ n' (hn : n' < L[j'].os.length), (j' < i ∨ n' < k) → meetB L[j'].os[n'] x = false) := HXt.out fun n' hn' hc => by omega
                                      clear HQn HXt hbw hA HJJ
                                      go_wp2
                                      exact ⟨⟨jj + 1, by omega, by go_num, HE, HBn⟩, by simp [intOf]; omega⟩
                                  · have hni : ¬ (n : Int) < (L[jj].os.length : Int) := by omega
                                    have HE : Hid (∀ j' (hj : j' < L.length), j' < jj + 1 → ∀ n' (hn : n' < L[j'].os.length), (j' < i ∨ n' < k) → meetB L[j'].os[n'] x = false) := HXt.out fun n' hn' hc => by omega
                                    clear HQn HXt hbw HJJ hmem eu
                                    go_wp2
                                    exact ⟨⟨jj + 1, by omega, by go_num, HE, HBn⟩, by simp [intOf]; omega⟩
                              · obtain rfl : jj = i + 1 := by omega
                                have hji : ¬ ((i + 1 : Nat) : Int) ≤ (i : Int) := by omega
                                have HE : Hid (tkF T t.os = tkF (T ++ t.os.take (k + 1)) (t.os.drop (k + 1))) := HNk.out fun y hy => by
                                  rcases hy with ⟨j', hj', rfl⟩ | ⟨j', hj', n', hn', h1, h2, rfl⟩
                                  · exact HJ2.out j' hj'
                                  · exact HJJ.out j' hj' (by omega) n' hn' h2
                                clear HNk HJJ HJ2 HFd HOk
                                generalize hip : i + 1 = ip at hji
                                go_wp2
                                exact ⟨⟨k + 1, by omega, by go_num, HE, HBj⟩, by simp [intOf]; omega⟩
                      · obtain rfl : k = t.os.length := by omega
                        have hki : ¬ (t.os.length : Int) < (t.os.length : Int) := by omega
                        have hte := tk_end HK.out
                        have HE : Hid (gkF (FL.map pth) (FL.map (·.pa)) L = gkF (FL.map pth) (FL.map (·.pa) ++ (L.take (i + 1)).flatMap (·.os)) (L.drop (i + 1))) := HNx.out (te_0 H5.out H1.out HM.out (by rw [hte])) hte
                        have HBo : Hid (Below w.heap.size w wr) := hbw
                        clear HK hte hbw HNx HBd HMt
                        go_wp2
                        exact ⟨⟨i + 1, by omega, by go_num, HE, HBo⟩, by simp [intOf]; omega⟩
        · obtain rfl : i = L.length := by omega
          have hii : ¬ (L.length : Int) < (L.length : Int) := by omega
          have HV2 : Hid (∀ b, gcV FL L b = (⟨#[]⟩, if b = true then 10 else 0)) := fun b => HV.out b _ (by rw [HI.out, List.drop_length, gkF]; rfl)
          clear HI HV
          go_wp2_with fail
          refine (HEv.out wr).mono ?_
          rintro e w3 ⟨ve, rfl, hve, hb3⟩
          have HB3 : Hid (Below w.heap.size w w3) := HBr.out.trans (hb3.mono HBr.out.size)
          have HCC := HCr.out ve w3 HB3.out hve
          clear hve hb3 HCr HBr HEv
          go_wp2_with fail
          refine HCC.mono ?_
          rintro e w4 ⟨rfl, G4⟩
          have HE : Hid (∀ c : Int, (if b = true then 10 else 0) = c → GkP FL L w (.returned (.tuple #[.string ⟨#[]⟩, .int .i64 c])) w4) := fun c hc => ⟨b, fun _ => HB.out, by rw [HV2.out, hc], HB3.out.trans (G4.out.mono HB3.out.size)⟩
          clear HCC G4 HB3 HV2 HB
          cases b with
          | true =>
            have HE2 : Hid _ := HE.out 10 rfl
            clear HE
            go_wp2
            go_ret2
            exact HE2.out
          | false =>
            have HE2 : Hid _ := HE.out 0 rfl
            clear HE
            go_wp2
            go_ret2
            exact HE2.out
    · have HE : Hid (∀ w', Below w.heap.size w w' → GkP FL L w (.returned (.tuple #[.string ⟨#[]⟩, .int .i64 (ckN L)])) w') := fun w' hb => gk_any FL L hb (r := (⟨#[]⟩, ckN L)) fun b => by
        unfold gcV
        rw [if_pos c0, if_neg k0]
      rw [c0] at HT
      clear h hf
      generalize L.length = ln at *
      generalize FL.length = fln at *
      generalize ckN L = c at *
      have hc1 : ¬(c : Int) = 0 := k0
      clear c0 k0
      go_enter Tryz.func28, Tryz.ntmps28
      go_wp2_with fail
      refine HT.out.mono ?_
      rintro e w1 ⟨rfl, G1⟩
      have HN := HCk.out w1 G1.out
      have HE2 : Hid _ := HE.out w1 G1.out
      clear HT HCk HE
      go_wp2_with fail
      refine HN.mono ?_
      rintro e w2 ⟨rfl, rfl⟩
      clear HN
      go_wp2
      go_ret2
      exact HE2.out
  · have HE : Hid (∀ w', Below w.heap.size w w' → GkP FL L w (.returned (.tuple #[.string ⟨#[]⟩, .int .i64 (chF FL)])) w') := fun w' hb => gk_any FL L hb (r := (⟨#[]⟩, chF FL)) fun b => by
      unfold gcV
      rw [if_neg c0]
    clear h hf HCk
    generalize L.length = ln at *
    generalize FL.length = fln at *
    generalize chF FL = c at *
    have hc1 : ¬(c : Int) = 0 := c0
    clear c0
    go_enter Tryz.func28, Tryz.ntmps28
    go_wp2_with fail
    refine HT.out.mono ?_
    rintro e w1 ⟨rfl, G1⟩
    have HE2 : Hid _ := HE.out w1 G1.out
    clear HT HE
    go_wp2
    go_ret2
    exact HE2.out
end Go.Proofs.YtankaiopdbcndaaGreatDoor
