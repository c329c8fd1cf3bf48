/- The document's own Sum. -/
import Derived.Test.YtagelkaenbdlaaaDoorRSumP
namespace Go.Proofs.YtagelkaenbdlaaaDoor
open Go.RowKit

theorem cu_lt : ∀ x ∈ cuN, x < 2 ^ 32 := by
  have h : cuN.all (fun x => decide (x < 2 ^ 32)) = true := by kernel_rfl
  intro x hx
  exact of_decide_eq_true (List.all_eq_true.1 h x hx)
theorem cu_len : cuN.length = 64 := by kernel_rfl
theorem sq_l : q0.l = sqN := by kernel_rfl
def lenV : Value → Nat
  | .slice _ n _ => n
  | _ => 0
/-- What is there ahead of the length: the text, 128, and so many noughts. -/
def padZ (s : ByteArray) (k : Nat) : List UInt8 := s.data.toList ++ 128 :: List.replicate k 0
theorem padZ_len (s : ByteArray) (k : Nat) : (padZ s k).length = s.size + 1 + k := by
  unfold padZ
  rw [List.length_append, s_len, List.length_cons, List.length_replicate]
  omega
theorem padZ_next (s : ByteArray) (k : Nat) : padZ s (k + 1) = padZ s k ++ [0] := by
  unfold padZ
  rw [List.append_assoc, List.replicate_succ']
  rfl
theorem padZ_pad (s : ByteArray) : padZ s (endQ s.size - 1) ++ lenBs s.size 8 = padL s := by
  unfold padZ padL endB
  rw [List.append_assoc]
  rfl
theorem lenBs_next (n j : Nat) : lenBs n (j + 1) = lenBs n j ++ [lenB n j] := by
  unfold lenBs
  rw [List.range_succ, List.map_append]
  rfl
theorem lenBs_len (n j : Nat) : (lenBs n j).length = j := by simp [lenBs]
theorem pad_64 (s : ByteArray) : (padL s).length = 64 * ((padL s).length / 64) := by
  obtain ⟨h1, h2⟩ := pad_len s
  omega
theorem pad_lt (s : ByteArray) (hs : s.size ≤ 140737488351300) : (padL s).length < 2 ^ 50 := by
  rw [← padZ_pad, List.length_append, padZ_len, lenBs_len]
  unfold endQ
  omega
theorem len_facts (n jn p d r : Nat) (hn : n ≤ 140737488351300) (hp : p = 2 ^ (8 * jn)) (hd : d = 8 * n / p) (hr : r = d % 256) :
    ((p : Int) == 0) = false ∧ ¬ (p : Int) = 0 ∧ ¬ p = 0 ∧ ((8 * n : Nat) : Int) / (p : Int) = (d : Int) ∧ ((8 * n : Nat) : Int).tdiv (p : Int) = (d : Int) ∧ IntKind.i64.wrap (d : Int) = (d : Int) ∧ (d : Int) % 256 = (r : Int) ∧ (d : Int).tmod 256 = (r : Int) ∧ IntKind.i64.wrap (r : Int) = (r : Int) ∧ IntKind.u8.wrap (r : Int) = (r : Int) := by
  have hp0 : 0 < p := by rw [hp]; exact Nat.two_pow_pos _
  have hdl : d < 2 ^ 62 := by rw [hd]; exact Nat.lt_of_le_of_lt (Nat.div_le_self _ _) (by omega)
  exact ⟨beq_eq_false_iff_ne.2 (by omega), by omega, by omega, by rw [hd]; push_cast; rfl, by rw [hd]; exact tdivN _ p, wr61 d hdl, by omega, by rw [hr]; exact tmodN d 256, wr61 r (by omega), by rw [IntKind.wrap_u8]; omega⟩

/-- What lies where the blocks begin. -/
theorem sum_mem {w W : World} {P : List UInt8} {g : Nat} {KC FC : Array Value} {ks : List Nat} {q : N8} (hbl : Below w.heap.size w W) (hP : PAt W g P) (hg : g < W.heap.size) (hK : KC = intCells ks) (hF : FC = intCells q.l) :
    Hid (PAt ((W.alloc (.cells KC 3)).alloc (.cells FC 3)) g P ∧ LAt ((W.alloc (.cells KC 3)).alloc (.cells FC 3)) W.heap.size ks ∧ HAt ((W.alloc (.cells KC 3)).alloc (.cells FC 3)) (W.heap.size + 1) q.l ∧ g < W.heap.size + 1 ∧ Below w.heap.size w ((W.alloc (.cells KC 3)).alloc (.cells FC 3))) := by
  have b1 := bl_al (Below.refl W.heap.size W) (.cells KC 3)
  have b2 := bl_al b1 (.cells FC 3)
  have hk : HAt (W.alloc (.cells KC 3)) W.heap.size ks := by unfold HAt; rw [← hK]; exact heap_alloc_new W _
  have hf : HAt ((W.alloc (.cells KC 3)).alloc (.cells FC 3)) (W.alloc (.cells KC 3)).heap.size q.l := by unfold HAt; rw [← hF]; exact heap_alloc_new _ _
  rw [World.size_alloc] at hf
  refine ⟨hP.up b2 hg, ?_, hf, Nat.lt_succ_of_lt hg, bl_tr hbl b2⟩
  exact (hk.up2 (bl_al (Below.refl _ _) (.cells FC 3))).lat

set_option maxHeartbeats 40000000 in
set_option maxRecDepth 100000 in
theorem Sum_doc (s : ByteArray) (w : World) (hs : s.size ≤ 140737488351300) :
    Calls Tryd.prog 11 #[.string s] w fun e w' => e = .returned (.string ⟨(digsN (stF (padL s) cuN 0 q0 ((padL s).length / 64))).toArray⟩) ∧ Below w.heap.size w w' := by
  obtain ⟨v0, W0, hcv, hbs, hbl⟩ := bs_of_string w s
  obtain ⟨P, hPe⟩ : ∃ P, P = padL s := ⟨_, rfl⟩
  rw [← hPe]
  obtain ⟨q9, hq9⟩ : ∃ q9, q9 = stF P cuN 0 q0 (P.length / 64) := ⟨_, rfl⟩
  rw [← hq9]
  have HPE : Hid (P = padL s ∧ P.length < 2 ^ 50 ∧ P.length = 64 * (P.length / 64)) := ⟨hPe, by rw [hPe]; exact pad_lt s hs, by rw [hPe]; exact pad_64 s⟩
  have HQ9 : Hid (q9 = stF P cuN 0 q0 (P.length / 64) ∧ q9.ok) := ⟨hq9, by rw [hq9]; exact stF_ok P cuN 0 q0 q0_ok _⟩
  clear hPe hq9
  have HS : Hid (s.size ≤ 140737488351300) := hs
  have H0 : Hid (Bs w.heap.size W0 v0 s.data.toList ∧ Below w.heap.size w W0) := ⟨hbs, hbl⟩
  have hsi : (s.size : Int) ≤ 140737488351300 := by omega
  clear hs hbs hbl
  go_enter Tryd.func11, Tryd.ntmps11
  go_wp2_with (at_builtin; refine wpList_append_bs _ w rfl _ _ rfl w.heap.size _ _ rfl (H0.out.1.al _) (H0.out.2.alloc H0.out.2.size _) ⟨_, 0, none⟩ 1 128 rfl ?c1 ?c2 ?_)
  case c1 => exact al_at _ _ _ _ 0 _ rfl rfl
  case c2 => rw [s_len]; have := HS.out; omega
  intro v1 w1 hb1 hbl1
  have HZ : Hid (∃ z, z = endQ s.size - 1) := ⟨_, rfl⟩
  obtain ⟨z, hz⟩ := HZ.out
  have HZ2 : Hid (z = endQ s.size - 1) := hz
  have hz64 : z ≤ 63 := by rw [hz]; unfold endQ; omega
  have H1 : Hid (Bs w.heap.size w1 v1 (padZ s 0) ∧ Below w.heap.size w w1) := ⟨hb1, hbl1⟩
  clear hb1 hbl1 H0 hcv hz HZ
  go_wp2
  go_loopw [3] (fun v wr => ∃ k n g cap : Nat, k ≤ z ∧ n = s.size + 1 + k ∧ v = .slice (some ⟨g, 0, none⟩) n cap ∧ Bs w.heap.size wr v (padZ s k) ∧ Below w.heap.size w wr) (fun v _ => s.size + 1 + z - lenV v)
  case atStart =>
    obtain ⟨g, cap, hv, _⟩ := H1.out.1
    rw [padZ_len] at hv
    exact ⟨0, _, g, cap, by omega, rfl, hv, H1.out⟩
  case round =>
    clear H1
    obtain ⟨k, n, g, cap, hk, hn, rfl, hbs, hbl⟩ := hrel
    have HV : Hid (Bs w.heap.size wr (.slice (some ⟨g, 0, none⟩) n cap) (padZ s k) ∧ Below w.heap.size w wr) := ⟨hbs, hbl⟩
    have HNN : Hid (n = s.size + 1 + k) := hn
    have hni : (n : Int) ≤ 140737488351400 := by omega
    obtain ⟨r, hr⟩ : ∃ r, r = n % 64 := ⟨_, rfl⟩
    have e1 : (n : Int) % 64 = (r : Int) := by omega
    have HR : Hid (r = n % 64) := hr
    clear hbs hbl hn hr
    by_cases hlt : k < z
    · have hr56 : ¬ (r : Int) = 56 := by
        have := HR.out; have := HNN.out; have hz := HZ2.out
        unfold endQ at hz
        omega
      go_wp2_with (at_builtin; refine wpList_append_bs _ w rfl _ _ rfl w.heap.size _ _ rfl (HV.out.1.al _) (HV.out.2.alloc HV.out.2.size _) ⟨_, 0, none⟩ 1 0 rfl ?c1 ?c2 ?_)
      case c1 => exact al_at _ _ _ _ 0 _ rfl rfl
      case c2 => rw [padZ_len]; omega
      intro v2 w2 hb2 hbl2
      have H2 : Hid (Bs w.heap.size w2 v2 (padZ s (k + 1)) ∧ Below w.heap.size w w2) := ⟨by rw [padZ_next]; exact hb2, hbl2⟩
      clear hb2 hbl2
      obtain ⟨g2, cap2, hv2, -⟩ := H2.out.1
      rw [padZ_len] at hv2
      subst hv2
      go_wp2
      refine ⟨⟨k + 1, _, g2, cap2, by omega, rfl, rfl, H2.out⟩, ?_⟩
      have := HNN.out
      simp only [lenV]
      omega
    · obtain rfl : k = z := by omega
      obtain rfl : r = 56 := by
        have := HR.out; have := HNN.out; have hz := HZ2.out
        unfold endQ at hz
        omega
      obtain ⟨ln, hln⟩ : ∃ ln, ln = 8 * s.size := ⟨_, rfl⟩
      have e2 : 8 * (s.size : Int) = (ln : Int) := by omega
      have HLN : Hid (ln = 8 * s.size) := hln
      have f1 := wr61 ln (by omega)
      clear hln
      have H3 : Hid (Bs w.heap.size wr (.slice (some ⟨g, 0, none⟩) n cap) (padZ s k ++ lenBs s.size 0) ∧ Below w.heap.size w wr ∧ n = s.size + 1 + k + 0) := ⟨by simpa [lenBs] using HV.out.1, HV.out.2, HNN.out⟩
      clear HV HNN HR hlt hk
      go_wp2
      clear f1 e1 hni
      go_loopw [3, 5] (fun v i wy => ∃ m n g cap : Nat, m ≤ 8 ∧ i = .int .i64 (7 - (m : Int)) ∧ n = s.size + 1 + k + m ∧ v = .slice (some ⟨g, 0, none⟩) n cap ∧ Bs w.heap.size wy v (padZ s k ++ lenBs s.size m) ∧ Below w.heap.size w wy) (fun _ i _ => (intOf i + 1).toNat)
      case atStart => exact ⟨0, _, g, cap, by omega, rfl, H3.out.2.2, rfl, H3.out.1, H3.out.2.1⟩
      case round =>
        clear H3 e2
        obtain ⟨m, n, g, cap, hm, rfl, hn, rfl, hbs, hbl⟩ := hrel
        have HV : Hid (Bs w.heap.size _ (.slice (some ⟨g, 0, none⟩) n cap) (padZ s k ++ lenBs s.size m) ∧ Below w.heap.size w _) := ⟨hbs, hbl⟩
        have HNN : Hid (n = s.size + 1 + k + m) := hn
        clear hbs hbl hn
        by_cases hm8 : m < 8
        · obtain ⟨jn, hjn⟩ : ∃ jn : Nat, jn = 7 - m := ⟨_, rfl⟩
          have e1 : (7 : Int) - (m : Int) = (jn : Int) := by omega
          have HJ : Hid ((jn : Int) - 1 = 7 - ((m + 1 : Nat) : Int)) := by show _ = _; omega
          obtain ⟨p, hp⟩ : ∃ p, p = 2 ^ (8 * jn) := ⟨_, rfl⟩
          obtain ⟨d, hd⟩ : ∃ d, d = 8 * s.size / p := ⟨_, rfl⟩
          obtain ⟨r, hr⟩ : ∃ r, r = d % 256 := ⟨_, rfl⟩
          obtain ⟨z8, hz8⟩ : ∃ z8, z8 = 8 * jn := ⟨_, rfl⟩
          have hLB : lenB s.size m = UInt8.ofNat r := by
            unfold lenB
            rw [hr, hd, hp, show 56 - 8 * m = 8 * jn from by omega]
          have HRB : Hid ((lenB s.size m).toNat = r) := by
            show _ = _
            rw [hLB]
            have : r < 256 := by omega
            simp [UInt8.toNat_ofNat']
            omega
          have HP : Hid (∀ W : World, Calls Tryd.prog 33 #[.int .i64 z8] W fun e w' => e = .returned (.int .i64 (p : Nat)) ∧ w' = W) := fun W => by rw [hp, ← hz8]; exact Pow2_any z8 W (by omega)
          have e3 : 8 * (jn : Int) = (z8 : Int) := by omega
          have hji : (0 : Int) ≤ (jn : Int) := by omega
          have hr0 : (r : Int) < 256 := by omega
          have hlen : (padZ s k ++ lenBs s.size m).length + 1 ≤ 140737488355328 := by
            rw [List.length_append, padZ_len, lenBs_len]
            have := HS.out
            omega
          obtain ⟨d1, d2, d3, d4, d5, d6, d7, d8, d9, d10⟩ := len_facts s.size jn p d r HS.out hp hd hr
          rw [← HLN.out] at d4 d5
          have f0 := wr61 z8 (by omega)
          clear hp hd hr hz8 hjn hLB
          rw [e1]
          go_wp2_with fail
          refine (HP.out _).mono ?_
          rintro e w' ⟨rfl, rfl⟩
          go_wp2_with (at_builtin; refine wpList_append_bs _ w rfl _ _ rfl w.heap.size _ _ rfl (HV.out.1.al _) (HV.out.2.alloc HV.out.2.size _) ⟨_, 0, none⟩ 1 (lenB s.size m) rfl ?c1 hlen ?_)
          case c1 => exact al_at _ _ _ _ 0 _ rfl (congrArg (fun z : Nat => some (Value.int .u8 (z : Int))) HRB.out.symm)
          intro v2 w2 hb2 hbl2
          have H2 : Hid (Bs w.heap.size w2 v2 (padZ s k ++ lenBs s.size (m + 1)) ∧ Below w.heap.size w w2) := ⟨by rw [lenBs_next]; first | exact hb2 | (rw [← List.append_assoc]; exact hb2), hbl2⟩
          clear hb2 hbl2 d1 d2 d3 d4 d5 d6 d7 d8 d9 d10 f0
          obtain ⟨g2, cap2, hv2, -⟩ := H2.out.1
          rw [List.length_append, padZ_len, lenBs_len] at hv2
          subst hv2
          go_wp2
          refine ⟨⟨m + 1, _, g2, cap2, by omega, congrArg (Value.int .i64) HJ.out, rfl, rfl, H2.out⟩, ?_⟩
          simp only [intOf]
          omega
        · obtain rfl : m = 8 := by omega
          obtain ⟨KC, hKC⟩ : ∃ KC, KC = intCells cuN := ⟨_, rfl⟩
          obtain ⟨FC, hFC⟩ : ∃ FC, FC = intCells q0.l := ⟨_, rfl⟩
          have HCo : Hid (∀ W : World, Calls Tryd.prog 34 #[] W fun e w' => e = .returned (.slice (some ⟨W.heap.size, 0, none⟩) 64 64) ∧ w' = W.alloc (.cells KC 3)) := fun W => by rw [hKC]; exact Constants_any W
          have HFi : Hid (∀ W : World, Calls Tryd.prog 35 #[] W fun e w' => e = .returned (.slice (some ⟨W.heap.size, 0, none⟩) 8 8) ∧ w' = W.alloc (.cells FC 3)) := fun W => by rw [hFC, sq_l]; exact Firsts_any W
          have HPP : Hid (padZ s k ++ lenBs s.size 8 = P) := by show _ = _; rw [HPE.out.1, HZ2.out]; exact padZ_pad s
          have HNP : Hid (n = P.length) := by
            have := HNN.out
            show _ = _
            rw [← HPP.out, List.length_append, padZ_len, lenBs_len]
            exact this
          have HKC : Hid (KC = intCells cuN ∧ FC = intCells q0.l) := ⟨hKC, hFC⟩
          clear hKC hFC
          go_wp2_with fail
          refine (HCo.out _).mono ?_
          rintro e w' ⟨rfl, rfl⟩
          go_wp2_with fail
          refine (HFi.out _).mono ?_
          rintro e w' ⟨rfl, rfl⟩
          obtain ⟨g', cap', hv', hg1, hg2, -, hPA, -⟩ := HV.out.1
          rw [HPP.out] at hv' hPA
          injection hv' with e1 e2 e3
          injection e1 with e1
          injection e1 with e1 _ _
          subst e1 e3
          have HPA := sum_mem HV.out.2 hPA hg2 HKC.out.1 HKC.out.2
          clear hg1 hg2 hPA
          rw [HNP.out]
          go_wp2
          refine loop3 _ _ _ _ _ _ _ _ _ _ _ _ _ _ _ _ _ _ _ _ _ _ _ _ _ _ _ _ _ _ _ _ _ _ _ _ _ _ _ _ _ _ _ _ _ _ _ _ _ _ _ _ _ _ _ _ _ _ _ _ _ _ _ _ _ _ _ _ _ _ _ _ _ _ _ _ _ _ _ _ _ _ _ _ _ _ _ _ _ _ _ _ _ _ _ _ _ _ _ _ _ _ _ _ _ _ _ _ _ _ _ _ _ _ _ _ _ _ _ _ _ _ _ _ _ _ _ _ _ _ _ _ _ _ _ _ _ _ _ _ _ _ _ _ _ _ _ _ _ _ _ _ _ _ _ _ _ _ _ _ _ _ _ _ _ _ _ _ _ _ _ _ _ _ _ _ _ _ _ _ _ _ _ _ _ _ _ _ _ _ _ _ _ _ _ _ _ _ _ _ _ _ _ _ _ _ _ _ _ _ _ _ _ _ _ _ _ _ _ _ _ _ _ _ _ _ _ _ _ _ _ _ _ _ _ _ _ _ _ _ _ _ _ _ _ _ _ _ _ _ _ _ _ _ _ _ _ _ _ _ _ _ _ _ _ _ _ _ _ _ _ _ _ _ _ _ _ _ _ _ _ P cuN q0 (P.length / 64) g cap _ 64 _ 8 q0_ok cu_lt cu_len HPA.out.1 HPA.out.2.1 HPA.out.2.2.1 HPA.out.2.2.2.1 (Nat.lt_succ_self _) HPE.out.2.1 HPE.out.2.2 _ ?_
          intro _ _ _ _ _ _ _ _ _ _ _ _ _ _ _ _ _ _ _ _ _ _ _ _ _ _ _ _ _ _ _ _ _ _ _ _ _ _ _ _ _ _ _ _ _ _ _ _ _ _ _ _ _ _ _ _ _ _ _ _ _ _ _ _ _ _ _ _ _ _ _ _ _ _ _ _ _ _ _ _ _ _ _ _ _ _ _ _ _ _ _ _ _ _ _ _ _ _ _ _ _ _ _ _ _ _ _ _ _ _ _ _ _ _ _ _ _ _ _ _ _ _ _ _ _ _ _ _ _ _ _ _ _ _ _ _ _ _ _ _ _ _ _ _ _ _ _ _ _ _ _ _ _ _ _ _ _ _ _ _ _ _ _ _ _ _ _ _ _ _ _ _ _ _ _ _ _ _ _ _ _ _ _ _ _ _ _ _ _ _ _ _ _ _ _ _ _ _ _ _ _ _ _ _ _ _ _ _ _ _ _ _ _ _ _ _ _ _ _ _ _ _ w4 hh4 hb4
          rw [← HQ9.out.1] at hh4
          have H4 : Hid (Below w.heap.size w w4) := HPA.out.2.2.2.2.trans (hb4.mono (Nat.le_succ_of_le HV.out.2.size))
          have H5 : Hid _ := hh4
          clear hh4 hb4 HPA HPP HNP HKC HCo HFi
          go_wp2
          refine loop8 _ _ _ _ _ _ _ _ _ _ _ _ _ _ _ _ _ _ _ _ _ _ _ _ _ _ _ _ _ _ _ _ _ _ _ _ _ _ _ _ _ _ _ _ _ _ _ _ _ _ _ _ _ _ _ _ _ _ _ _ _ _ _ _ _ _ _ _ _ _ _ _ _ _ _ _ _ _ _ _ _ _ _ _ _ _ _ _ _ _ _ _ _ _ _ _ _ _ _ _ _ _ _ _ _ _ _ _ _ _ _ _ _ _ _ _ _ _ _ _ _ _ _ _ _ _ _ _ _ _ _ _ _ _ _ _ _ _ _ _ _ _ _ _ _ _ _ _ _ _ _ _ _ _ _ _ _ _ _ _ _ _ _ _ _ _ _ _ _ _ _ _ _ _ _ _ _ _ _ _ _ _ _ _ _ _ _ _ _ _ _ _ _ _ _ _ _ _ _ _ _ _ _ _ _ _ _ _ _ _ _ _ _ _ _ _ _ _ _ _ _ _ _ _ _ _ _ _ _ _ _ _ _ _ _ _ _ _ _ _ _ _ _ _ _ _ _ _ _ _ _ _ _ _ _ _ _ _ _ _ _ _ _ _ _ _ _ _ _ _ _ _ _ _ _ _ _ _ _ _ _ w4 q9 HQ9.out.2 _ _ H5.out _ ?_
          intro _ _ _ _ _ _ _ _ _ _ _ _ _ _ _ _ _ _ _ _ _ _ w5 hb5
          have H6 : Hid (Below w.heap.size w w5) := bl_tr H4.out hb5
          clear hb5
          go_wp2
          go_ret
          exact ⟨rfl, H6.out⟩
end Go.Proofs.YtagelkaenbdlaaaDoor
