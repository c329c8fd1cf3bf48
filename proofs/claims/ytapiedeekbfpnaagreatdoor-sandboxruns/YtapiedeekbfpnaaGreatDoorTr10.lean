/- The document's own Sum. -/
import Derived.Deep.QuietTactic
import Derived.BigQuiet
import Derived.BigRegion
import Derived.Test.YtapiedeekbfpnaaGreatDoorTr9
namespace Go.Proofs.YtapiedeekbfpnaaGreatDoor
open Go.RowKit

theorem cu_lt : ∀ x ∈ cuN, x < 2 ^ 32 := by
  have h : cuN.all (fun x => decide (x < 2 ^ 32)) = true := by kernel_rfl
  intro x hx
  exact of_decide_eq_true (List.all_eq_true.1 h x hx)
theorem cu_len : cuN.length = 64 := by kernel_rfl
theorem sq_l : q0.l = sqN := by kernel_rfl
def lenV : Value → Nat
  | .slice _ n _ => n
  | _ => 0
/-- What is there ahead of the length: the text, 128, and so many noughts. -/
def padZ (s : ByteArray) (k : Nat) : List UInt8 := s.data.toList ++ 128 :: List.replicate k 0
theorem padZ_len (s : ByteArray) (k : Nat) : (padZ s k).length = s.size + 1 + k := by
  unfold padZ
  rw [List.length_append, s_len, List.length_cons, List.length_replicate]
  omega
theorem padZ_next (s : ByteArray) (k : Nat) : padZ s (k + 1) = padZ s k ++ [0] := by
  unfold padZ
  rw [List.append_assoc, List.replicate_succ']
  rfl
theorem padZ_pad (s : ByteArray) : padZ s (endQ s.size - 1) ++ lenBs s.size 8 = padL s := by
  unfold padZ padL endB
  rw [List.append_assoc]
  rfl
theorem lenBs_next (n j : Nat) : lenBs n (j + 1) = lenBs n j ++ [lenB n j] := by
  unfold lenBs
  rw [List.range_succ, List.map_append]
  rfl
theorem lenBs_len (n j : Nat) : (lenBs n j).length = j := by simp [lenBs]
theorem pad_64 (s : ByteArray) : (padL s).length = 64 * ((padL s).length / 64) := by
  obtain ⟨h1, h2⟩ := pad_len s
  omega
theorem pad_lt (s : ByteArray) (hs : s.size ≤ 140737488351300) : (padL s).length < 2 ^ 50 := by
  rw [← padZ_pad, List.length_append, padZ_len, lenBs_len]
  unfold endQ
  omega
theorem len_facts (n jn p d r : Nat) (hn : n ≤ 140737488351300) (hp : p = 2 ^ (8 * jn)) (hd : d = 8 * n / p) (hr : r = d % 256) :
    ((p : Int) == 0) = false ∧ ¬ (p : Int) = 0 ∧ ¬ p = 0 ∧ ((8 * n : Nat) : Int) / (p : Int) = (d : Int) ∧ ((8 * n : Nat) : Int).tdiv (p : Int) = (d : Int) ∧ IntKind.i64.wrap (d : Int) = (d : Int) ∧ (d : Int) % 256 = (r : Int) ∧ (d : Int).tmod 256 = (r : Int) ∧ IntKind.i64.wrap (r : Int) = (r : Int) ∧ IntKind.u8.wrap (r : Int) = (r : Int) := by
  have hp0 : 0 < p := by rw [hp]; exact Nat.two_pow_pos _
  have hdl : d < 2 ^ 62 := by rw [hd]; exact Nat.lt_of_le_of_lt (Nat.div_le_self _ _) (by omega)
  exact ⟨beq_eq_false_iff_ne.2 (by omega), by omega, by omega, by rw [hd]; push_cast; rfl, by rw [hd]; exact tdivN _ p, wr61 d hdl, by omega, by rw [hr]; exact tmodN d 256, wr61 r (by omega), by rw [IntKind.wrap_u8]; omega⟩

/-- What lies where the blocks begin. -/
theorem sum_mem {w W : World} {P : List UInt8} {g : Nat} {KC FC : Array Value} {ks : List Nat} {q : N8} (hbl : Below w.heap.size w W) (hP : PAt W g P) (hg : g < W.heap.size) (hK : KC = intCells ks) (hF : FC = intCells q.l) :
    Hid (PAt ((W.alloc (.cells KC 3)).alloc (.cells FC 3)) g P ∧ LAt ((W.alloc (.cells KC 3)).alloc (.cells FC 3)) W.heap.size ks ∧ HAt ((W.alloc (.cells KC 3)).alloc (.cells FC 3)) (W.heap.size + 1) q.l ∧ g < W.heap.size + 1 ∧ Below w.heap.size w ((W.alloc (.cells KC 3)).alloc (.cells FC 3))) := by
  have b1 := bl_al (Below.refl W.heap.size W) (.cells KC 3)
  have b2 := bl_al b1 (.cells FC 3)
  have hk : HAt (W.alloc (.cells KC 3)) W.heap.size ks := by unfold HAt; rw [← hK]; exact heap_alloc_new W _
  have hf : HAt ((W.alloc (.cells KC 3)).alloc (.cells FC 3)) (W.alloc (.cells KC 3)).heap.size q.l := by unfold HAt; rw [← hF]; exact heap_alloc_new _ _
  rw [World.size_alloc] at hf
  refine ⟨hP.up b2 hg, ?_, hf, Nat.lt_succ_of_lt hg, bl_tr hbl b2⟩
  exact (hk.up2 (bl_al (Below.refl _ _) (.cells FC 3))).lat

set_option maxHeartbeats 40000000 in
set_option maxRecDepth 100000 in
theorem Sum_doc (s : ByteArray) (w : World) (hs : s.size ≤ 140737488351300) :
    Calls Tryz.prog 48 #[.string s] w fun e w' => e = .returned (.string ⟨(digsN (stF (padL s) cuN 0 q0 ((padL s).length / 64))).toArray⟩) ∧ Below w.heap.size w w' := by
  obtain ⟨v0, W0, hcv, hbs, hbl⟩ := bs_of_string w s
  obtain ⟨P, hPe⟩ : ∃ P, P = padL s := ⟨_, rfl⟩
  rw [← hPe]
  obtain ⟨q9, hq9⟩ : ∃ q9, q9 = stF P cuN 0 q0 (P.length / 64) := ⟨_, rfl⟩
  rw [← hq9]
  have HPE : Hid (P = padL s ∧ P.length < 2 ^ 50 ∧ P.length = 64 * (P.length / 64)) := ⟨hPe, by rw [hPe]; exact pad_lt s hs, by rw [hPe]; exact pad_64 s⟩
  have HQ9 : Hid (q9 = stF P cuN 0 q0 (P.length / 64) ∧ q9.ok) := ⟨hq9, by rw [hq9]; exact stF_ok P cuN 0 q0 q0_ok _⟩
  clear hPe hq9
  have HS : Hid (s.size ≤ 140737488351300) := hs
  have H0 : Hid (Bs w.heap.size W0 v0 s.data.toList ∧ Below w.heap.size w W0) := ⟨hbs, hbl⟩
  have hsi : (s.size : Int) ≤ 140737488351300 := by omega
  clear hs hbs hbl
  go_enter Tryz.func48, Tryz.ntmps48
  go_wp2_with (at_builtin; refine wpList_append_bs _ w rfl _ _ rfl w.heap.size _ _ rfl (H0.out.1.al _) (H0.out.2.alloc H0.out.2.size _) ⟨_, 0, none⟩ 1 128 rfl ?c1 ?c2 ?_)
  case c1 => exact al_atC _ _ _ _ 0 _ rfl rfl
  case c2 => rw [s_len]; have := HS.out; omega
  intro v1 w1 hb1 hbl1
  have HZ : Hid (∃ z, z = endQ s.size - 1) := ⟨_, rfl⟩
  obtain ⟨z, hz⟩ := HZ.out
  have HZ2 : Hid (z = endQ s.size - 1) := hz
  have hz64 : z ≤ 63 := by rw [hz]; unfold endQ; omega
  have H1 : Hid (Bs w.heap.size w1 v1 (padZ s 0) ∧ Below w.heap.size w w1) := ⟨hb1, hbl1⟩
  clear hb1 hbl1 H0 hcv hz HZ
  go_wp2
  go_loopw [3] (fun v wr => ∃ k n g cap : Nat, k ≤ z ∧ n = s.size + 1 + k ∧ v = .slice (some ⟨g, 0, none⟩) n cap ∧ Bs w.heap.size wr v (padZ s k) ∧ Below w.heap.size w wr) (fun v _ => s.size + 1 + z - lenV v)
  case atStart =>
    obtain ⟨g, cap, hv, _⟩ := H1.out.1
    rw [padZ_len] at hv
    exact ⟨0, _, g, cap, by omega, rfl, hv, H1.out⟩
  case round =>
    clear H1
    obtain ⟨k, n, g, cap, hk, hn, rfl, hbs, hbl⟩ := hrel
    have HV : Hid (Bs w.heap.size wr (.slice (some ⟨g, 0, none⟩) n cap) (padZ s k) ∧ Below w.heap.size w wr) := ⟨hbs, hbl⟩
    have HNN : Hid (n = s.size + 1 + k) := hn
    have hni : (n : Int) ≤ 140737488351400 := by omega
    obtain ⟨r, hr⟩ : ∃ r, r = n % 64 := ⟨_, rfl⟩
    have e1 : (n : Int) % 64 = (r : Int) := by omega
    have HR : Hid (r = n % 64) := hr
    clear hbs hbl hn hr
    by_cases hlt : k < z
    · have hr56 : ¬ (r : Int) = 56 := by
        have := HR.out; have := HNN.out; have hz := HZ2.out
        unfold endQ at hz
        omega
      go_wp2_with (at_builtin; refine wpList_append_bs _ w rfl _ _ rfl w.heap.size _ _ rfl (HV.out.1.al _) (HV.out.2.alloc HV.out.2.size _) ⟨_, 0, none⟩ 1 0 rfl ?c1 ?c2 ?_)
      case c1 => exact al_atC _ _ _ _ 0 _ rfl rfl
      case c2 => rw [padZ_len]; omega
      intro v2 w2 hb2 hbl2
      have H2 : Hid (Bs w.heap.size w2 v2 (padZ s (k + 1)) ∧ Below w.heap.size w w2) := ⟨by rw [padZ_next]; exact hb2, hbl2⟩
      clear hb2 hbl2
      obtain ⟨g2, cap2, hv2, -⟩ := H2.out.1
      rw [padZ_len] at hv2
      subst hv2
      go_wp2
      refine ⟨⟨k + 1, _, g2, cap2, by omega, rfl, rfl, H2.out⟩, ?_⟩
      have := HNN.out
      simp only [lenV]
      omega
    · obtain rfl : k = z := by omega
      obtain rfl : r = 56 := by
        have := HR.out; have := HNN.out; have hz := HZ2.out
        unfold endQ at hz
        omega
      obtain ⟨ln, hln⟩ : ∃ ln, ln = 8 * s.size := ⟨_, rfl⟩
      have e2 : 8 * (s.size : Int) = (ln : Int) := by omega
      have HLN : Hid (ln = 8 * s.size) := hln
      have f1 := wr61 ln (by omega)
      clear hln
      have H3 : Hid (Bs w.heap.size wr (.slice (some ⟨g, 0, none⟩) n cap) (padZ s k ++ lenBs s.size 0) ∧ Below w.heap.size w wr ∧ n = s.size + 1 + k + 0) := ⟨by simpa [lenBs] using HV.out.1, HV.out.2, HNN.out⟩
      clear HV HNN HR hlt hk
      go_wp2
      clear f1 e1 hni
      go_loopw [3, 5] (fun v i wy => ∃ m n g cap : Nat, m ≤ 8 ∧ i = .int .i64 (7 - (m : Int)) ∧ n = s.size + 1 + k + m ∧ v = .slice (some ⟨g, 0, none⟩) n cap ∧ Bs w.heap.size wy v (padZ s k ++ lenBs s.size m) ∧ Below w.heap.size w wy) (fun _ i _ => (intOf i + 1).toNat)
      case atStart => exact ⟨0, _, g, cap, by omega, rfl, H3.out.2.2, rfl, H3.out.1, H3.out.2.1⟩
      case round =>
        clear H3 e2
        obtain ⟨m, n, g, cap, hm, rfl, hn, rfl, hbs, hbl⟩ := hrel
        have HV : Hid (Bs w.heap.size _ (.slice (some ⟨g, 0, none⟩) n cap) (padZ s k ++ lenBs s.size m) ∧ Below w.heap.size w _) := ⟨hbs, hbl⟩
        have HNN : Hid (n = s.size + 1 + k + m) := hn
        clear hbs hbl hn
        by_cases hm8 : m < 8
        · obtain ⟨jn, hjn⟩ : ∃ jn : Nat, jn = 7 - m := ⟨_, rfl⟩
          have e1 : (7 : Int) - (m : Int) = (jn : Int) := by omega
          have HJ : Hid ((jn : Int) - 1 = 7 - ((m + 1 : Nat) : Int)) := by show _ = _; omega
          obtain ⟨p, hp⟩ : ∃ p, p = 2 ^ (8 * jn) := ⟨_, rfl⟩
          obtain ⟨d, hd⟩ : ∃ d, d = 8 * s.size / p := ⟨_, rfl⟩
          obtain ⟨r, hr⟩ : ∃ r, r = d % 256 := ⟨_, rfl⟩
          obtain ⟨z8, hz8⟩ : ∃ z8, z8 = 8 * jn := ⟨_, rfl⟩
          have hLB : lenB s.size m = UInt8.ofNat r := by
            unfold lenB
            rw [hr, hd, hp, show 56 - 8 * m = 8 * jn from by omega]
          have HRB : Hid ((lenB s.size m).toNat = r) := by
            show _ = _
            rw [hLB]
            have : r < 256 := by omega
            simp [UInt8.toNat_ofNat']
            omega
          have HP : Hid (∀ W : World, Calls Tryz.prog 98 #[.int .i64 z8] W fun e w' => e = .returned (.int .i64 (p : Nat)) ∧ w' = W) := fun W => by rw [hp, ← hz8]; exact Pow2_any z8 W (by omega)
          have e3 : 8 * (jn : Int) = (z8 : Int) := by omega
          have hji : (0 : Int) ≤ (jn : Int) := by omega
          have hr0 : (r : Int) < 256 := by omega
          have hlen : (padZ s k ++ lenBs s.size m).length + 1 ≤ 140737488355328 := by
            rw [List.length_append, padZ_len, lenBs_len]
            have := HS.out
            omega
          obtain ⟨d1, d2, d3, d4, d5, d6, d7, d8, d9, d10⟩ := len_facts s.size jn p d r HS.out hp hd hr
          rw [← HLN.out] at d4 d5
          have f0 := wr61 z8 (by omega)
          clear hp hd hr hz8 hjn hLB
          rw [e1]
          go_wp2_with fail
          refine (HP.out _).mono ?_
          rintro e w' ⟨rfl, rfl⟩
          go_wp2_with (at_builtin; refine wpList_append_bs _ w rfl _ _ rfl w.heap.size _ _ rfl (HV.out.1.al _) (HV.out.2.alloc HV.out.2.size _) ⟨_, 0, none⟩ 1 (lenB s.size m) rfl ?c1 hlen ?_)
          case c1 => exact al_atC _ _ _ _ 0 _ rfl (congrArg (fun z : Nat => some (Value.int .u8 (z : Int))) HRB.out.symm)
          intro v2 w2 hb2 hbl2
          have H2 : Hid (Bs w.heap.size w2 v2 (padZ s k ++ lenBs s.size (m + 1)) ∧ Below w.heap.size w w2) := ⟨by rw [lenBs_next]; first | exact hb2 | (rw [← List.append_assoc]; exact hb2), hbl2⟩
          clear hb2 hbl2 d1 d2 d3 d4 d5 d6 d7 d8 d9 d10 f0
          obtain ⟨g2, cap2, hv2, -⟩ := H2.out.1
          rw [List.length_append, padZ_len, lenBs_len] at hv2
          subst hv2
          go_wp2
          refine ⟨⟨m + 1, _, g2, cap2, by omega, congrArg (Value.int .i64) HJ.out, rfl, rfl, H2.out⟩, ?_⟩
          simp only [intOf]
          omega
        · obtain rfl : m = 8 := by omega
          obtain ⟨KC, hKC⟩ : ∃ KC, KC = intCells cuN := ⟨_, rfl⟩
          obtain ⟨FC, hFC⟩ : ∃ FC, FC = intCells q0.l := ⟨_, rfl⟩
          have HCo : Hid (∀ W : World, Calls Tryz.prog 99 #[] W fun e w' => e = .returned (.slice (some ⟨W.heap.size, 0, none⟩) 64 64) ∧ w' = W.alloc (.cells KC 3)) := fun W => by rw [hKC]; exact Constants_any W
          have HFi : Hid (∀ W : World, Calls Tryz.prog 100 #[] W fun e w' => e = .returned (.slice (some ⟨W.heap.size, 0, none⟩) 8 8) ∧ w' = W.alloc (.cells FC 3)) := fun W => by rw [hFC, sq_l]; exact Firsts_any W
          have HPP : Hid (padZ s k ++ lenBs s.size 8 = P) := by show _ = _; rw [HPE.out.1, HZ2.out]; exact padZ_pad s
          have HNP : Hid (n = P.length) := by
            have := HNN.out
            show _ = _
            rw [← HPP.out, List.length_append, padZ_len, lenBs_len]
            exact this
          have HKC : Hid (KC = intCells cuN ∧ FC = intCells q0.l) := ⟨hKC, hFC⟩
          clear hKC hFC
          go_wp2_with fail
          refine (HCo.out _).mono ?_
          rintro e w' ⟨rfl, rfl⟩
          go_wp2_with fail
          refine (HFi.out _).mono ?_
          rintro e w' ⟨rfl, rfl⟩
          obtain ⟨g', cap', hv', hg1, hg2, -, hPA, -⟩ := HV.out.1
          rw [HPP.out] at hv' hPA
          injection hv' with e1 e2 e3
          injection e1 with e1
          injection e1 with e1 _ _
          subst e1 e3
          have HPA := sum_mem HV.out.2 hPA hg2 HKC.out.1 HKC.out.2
          clear hg1 hg2 hPA
          rw [HNP.out]
          go_wp2
          refine loop3 _ _ _ _ _ _ _ _ _ _ _ _ _ _ _ _ _ _ _ _ _ _ _ _ _ _ _ _ _ _ _ _ _ _ _ _ _ _ _ _ _ _ _ _ _ _ _ _ _ _ _ _ _ _ _ _ _ _ _ _ _ _ _ _ _ _ _ _ _ _ _ _ _ _ _ _ _ _ _ _ _ _ _ _ _ _ _ _ _ _ _ _ _ _ _ _ _ _ _ _ _ _ _ _ _ _ _ _ _ _ _ _ _ _ _ _ _ _ _ _ _ _ _ _ _ _ _ _ _ _ _ _ _ _ _ _ _ _ _ _ _ _ _ _ _ _ _ _ _ _ _ _ _ _ _ _ _ _ _ _ _ _ _ _ _ _ _ _ _ _ _ _ _ _ _ _ _ _ _ _ _ _ _ _ _ _ _ _ _ _ _ _ _ _ _ _ _ _ _ _ _ _ _ _ _ _ _ _ _ _ _ _ _ _ _ _ _ _ _ _ _ _ _ _ _ _ _ _ _ _ _ _ _ _ _ _ _ _ _ _ _ _ _ _ _ _ _ _ _ _ _ _ _ _ _ _ _ _ _ _ _ _ _ _ _ _ _ _ _ _ _ _ _ _ _ _ _ _ _ _ _ P cuN q0 (P.length / 64) g cap _ 64 _ 8 q0_ok cu_lt cu_len HPA.out.1 HPA.out.2.1 HPA.out.2.2.1 HPA.out.2.2.2.1 (Nat.lt_succ_self _) HPE.out.2.1 HPE.out.2.2 _ ?_
          intro _ _ _ _ _ _ _ _ _ _ _ _ _ _ _ _ _ _ _ _ _ _ _ _ _ _ _ _ _ _ _ _ _ _ _ _ _ _ _ _ _ _ _ _ _ _ _ _ _ _ _ _ _ _ _ _ _ _ _ _ _ _ _ _ _ _ _ _ _ _ _ _ _ _ _ _ _ _ _ _ _ _ _ _ _ _ _ _ _ _ _ _ _ _ _ _ _ _ _ _ _ _ _ _ _ _ _ _ _ _ _ _ _ _ _ _ _ _ _ _ _ _ _ _ _ _ _ _ _ _ _ _ _ _ _ _ _ _ _ _ _ _ _ _ _ _ _ _ _ _ _ _ _ _ _ _ _ _ _ _ _ _ _ _ _ _ _ _ _ _ _ _ _ _ _ _ _ _ _ _ _ _ _ _ _ _ _ _ _ _ _ _ _ _ _ _ _ _ _ _ _ _ _ _ _ _ _ _ _ _ _ _ _ _ _ _ _ _ _ _ _ _ w4 hh4 hb4
          rw [← HQ9.out.1] at hh4
          have H4 : Hid (Below w.heap.size w w4) := HPA.out.2.2.2.2.trans (hb4.mono (Nat.le_succ_of_le HV.out.2.size))
          have H5 : Hid _ := hh4
          clear hh4 hb4 HPA HPP HNP HKC HCo HFi
          go_wp2
          refine loop8 _ _ _ _ _ _ _ _ _ _ _ _ _ _ _ _ _ _ _ _ _ _ _ _ _ _ _ _ _ _ _ _ _ _ _ _ _ _ _ _ _ _ _ _ _ _ _ _ _ _ _ _ _ _ _ _ _ _ _ _ _ _ _ _ _ _ _ _ _ _ _ _ _ _ _ _ _ _ _ _ _ _ _ _ _ _ _ _ _ _ _ _ _ _ _ _ _ _ _ _ _ _ _ _ _ _ _ _ _ _ _ _ _ _ _ _ _ _ _ _ _ _ _ _ _ _ _ _ _ _ _ _ _ _ _ _ _ _ _ _ _ _ _ _ _ _ _ _ _ _ _ _ _ _ _ _ _ _ _ _ _ _ _ _ _ _ _ _ _ _ _ _ _ _ _ _ _ _ _ _ _ _ _ _ _ _ _ _ _ _ _ _ _ _ _ _ _ _ _ _ _ _ _ _ _ _ _ _ _ _ _ _ _ _ _ _ _ _ _ _ _ _ _ _ _ _ _ _ _ _ _ _ _ _ _ _ _ _ _ _ _ _ _ _ _ _ _ _ _ _ _ _ _ _ _ _ _ _ _ _ _ _ _ _ _ _ _ _ _ _ _ _ _ _ _ _ _ _ _ _ _ w4 q9 HQ9.out.2 _ _ H5.out _ ?_
          intro _ _ _ _ _ _ _ _ _ _ _ _ _ _ _ _ _ _ _ _ _ _ w5 hb5
          have H6 : Hid (Below w.heap.size w w5) := bl_tr H4.out hb5
          clear hb5
          go_wp2
          go_ret
          exact ⟨rfl, H6.out⟩
end Go.Proofs.YtapiedeekbfpnaaGreatDoor

/- The document's RunCommand: what it does at 'join', at 'sum'. -/
namespace Go.Proofs.YtapiedeekbfpnaaGreatDoor
open Go.RowKit Go.Shelf Go.Maps Go.WideMaps Go.Sort
variable {A0 A1 A2 A3 A4 A5 A6 A7 A8 A9 B0 B1 B2 B3 B4 B5 B6 B7 B8 B9 C0 C1 C2 C3 C4 C5 C6 C7 C8 C9 D0 D1 D2 D3 D4 D5 D6 D7 D8 D9 E0 E1 E2 E3 E4 E5 E6 E7 E8 E9 G0 G1 G2 G3 G4 G5 G6 G7 G8 G9 H0 H1 H2 H3 H4 H5 H6 H7 H8 H9 I0 I1 I2 I3 I4 I5 I6 I7 I8 I9 J0 J1 J2 J3 J4 J5 J6 J7 J8 J9 K0 K1 K2 K3 K4 K5 K6 K7 K8 K9 M0 M1 M2 M3 M4 M5 M6 M7 M8 M9 N0 N1 N2 N3 N4 N5 N6 N7 N8 N9 O0 O1 O2 O3 O4 O5 O6 O7 O8 O9 P0 P1 P2 P3 P4 P5 P6 P7 P8 P9 R0 R1 R2 R3 R4 R5 R6 R7 R8 R9 S0 S1 S2 S3 S4 S5 S6 S7 S8 S9 T0 T1 T2 T3 T4 T5 T6 T7 T8 T9 U0 U1 U2 U3 U4 U5 U6 U7 U8 U9 V0 V1 V2 V3 V4 V5 V6 V7 V8 V9 W0 W1 W2 W3 W4 W5 W6 W7 W8 W9 X0 X1 X2 X3 X4 X5 X6 X7 X8 X9 Y0 Y1 Y2 Y3 Y4 Y5 Y6 Y7 Y8 Y9 Z0 Z1 Z2 Z3 Z4 Z5 Z6 Z7 Z8 Z9 j0 j1 j2 j3 j4 j5 j6 j7 j8 j9 o0 o1 o2 o3 o4 o5 o6 o7 o8 o9 y0 y1 y2 y3 y4 y5 y6 y7 y8 y9 z0 z1 z2 z3 z4 z5 z6 z7 z8 z9 x0 x1 x2 x3 x4 x5 x6 x7 x8 x9 i0 i1 i2 i3 i4 i5 i6 i7 i8 i9 d0 d1 d2 d3 d4 d5 d6 d7 d8 d9 e0 e1 e2 e3 e4 e5 e6 e7 e8 e9 f0 f1 f2 f3 f4 f5 f6 f7 f8 f9 p0 p1 p2 p3 p4 p5 p6 p7 p8 p9 v0 v1 v2 v3 v4 v5 v6 v7 v8 : Value}

set_option maxHeartbeats 8000000 in
set_option maxRecDepth 100000 in
theorem joinW (pw g n cap rg : Nat) (r v : Nat) (s1 s2 t1 t2 : ByteArray) (w : World) (hpw : w.cell? ⟨pw, 0, none⟩ = some (.slice (some ⟨g, 0, none⟩) n cap)) (h0 : w.cell? ⟨g, 0, none⟩ = some (.string ⟨#[106, 111, 105, 110]⟩)) (hn : 2 < n) (h1 : w.cell? ⟨g, 1, none⟩ = some (.string s1)) (hs1 : 0 < s1.size) (hr1 : s1[0].toNat = 97 + r) (h2 : w.cell? ⟨g, 2, none⟩ = some (.string s2)) (hs2 : 0 < s2.size) (hr2 : s2[0].toNat = 97 + v) (hr : r < 8) (hv : v < 8) (ht1 : w.cell? ⟨rg, r, none⟩ = some (.string t1)) (ht2 : w.cell? ⟨rg, v, none⟩ = some (.string t2)) (hz1 : t1.size ≤ 1000000) (hz2 : t2.size ≤ 1000000) (Q0 : Exit → Act → World → Prop)
    (HX : Hid (∀ (Bk Bm Bq Bt Cx Cy Cz Db Dc Df Dg Dh Dj Dk Dm Dq Dt Dv Dw Dx Dy Dz Eb Ec Ef Eg Eh Ej Ek Em Eq Et Ev Ew Ex Ey Ez Gb Gc Gf Gg Gh Gj Gk Gm Gq Gt Gv Gw Gx Gy Gz Hb Hc Hf Hg Hh Hj Hk Hm Hq Ht Hv Hw Hx Hy Hz Ib Ic If Ig Ih Ij Ik Im Iq It Iv Iw Ix Iy Iz Jb Jc Jf Jg Jh Jj Jk Jm Jq Jt Jv Jw Jx Jy Jz Kb Kc Kf Kg Kh Kj Kk Km Kq Kt Kv Kw Kx Ky Kz Mb Mc Mf Mg Mh Mj Mk Mm Mq Mt Mv Mw Mx My Mz Nb Nc Nf Ng Nh Nj Nk Nm Nq Nt Nv Nw Nx Ny Nz Ob Oc Of Og Oh Oj Ok Om Oq Ot Ov Ow Ox Oy Oz Pb Pc Pf Pg Ph Pj Pk Pm Pq Pt Pv Pw Px Py Pz Rb Rc Rf Rg Rh : Value) (w' : World), Hid (Below w.heap.size w w') → Q0 .normal ⟨#[A0,A1,A2,A3,A4,A5,A6,A7,A8,.slice (some ⟨rg, 0, none⟩) 8 8,B0,B1,B2,B3,.pointer (some ⟨pw, 0, none⟩),.func (.func 45) #[] #[.pointer (some ⟨pw, 0, none⟩)],B6,.int .i64 0,.int .i64 (r : Int),.string (jnF t1 t2),.string ⟨#[]⟩,Bk,Bm,Bq,Bt,C5,C6,C7,C8,C9,D0,D1,D2,D3,D4,D5,D6,D7,D8,D9,E0,E1,Cx,Cy,Cz,Db,Dc,Df,Dg,Dh,Dj,Dk,Dm,Dq,Dt,Dv,Dw,Dx,Dy,Dz,Eb,Ec,Ef,Eg,Eh,Ej,Ek,Em,Eq,Et,Ev,Ew,Ex,Ey,Ez,Gb,Gc,Gf,Gg,Gh,Gj,Gk,Gm,Gq,Gt,Gv,Gw,Gx,Gy,Gz,Hb,Hc,Hf,Hg,Hh,Hj,Hk,Hm,Hq,Ht,Hv,Hw,Hx,Hy,Hz,Ib,Ic,If,Ig,Ih,Ij,Ik,Im,Iq,It,Iv,Iw,Ix,Iy,Iz,Jb,Jc,Jf,Jg,Jh,Jj,Jk,Jm,Jq,Jt,Jv,Jw,Jx,Jy,Jz,Kb,Kc,Kf,Kg,Kh,Kj,Kk,Km,Kq,Kt,Kv,Kw,Kx,Ky,Kz,Mb,Mc,Mf,Mg,Mh,Mj,Mk,Mm,Mq,Mt,Mv,Mw,Mx,My,Mz,Nb,Nc,Nf,Ng,Nh,Nj,Nk,Nm,Nq,Nt,Nv,Nw,Nx,Ny,Nz,Ob,Oc,Of,Og,Oh,Oj,Ok,Om,Oq,Ot,Ov,Ow,Ox,Oy,Oz,Pb,Pc,Pf,Pg,Ph,Pj,Pk,Pm,Pq,Pt,Pv,Pw,Px,Py,Pz,Rb,Rc,Rf,Rg,Rh,Y5,Y6,Y7,Y8,Y9,Z0,Z1,Z2,Z3,Z4,Z5,Z6,Z7,Z8,Z9,j0,j1,j2,j3,j4,j5,j6,j7,j8,j9,o0,o1,o2,o3,o4,o5,o6,o7,o8,o9,y0,y1,y2,y3,y4,y5,y6,y7,y8,y9,z0,z1,z2,z3,z4,z5,z6,z7,z8,z9,x0,x1,x2,x3,x4,x5,x6,x7,x8,x9,i0,i1,i2,i3,i4,i5,i6,i7,i8,i9,d0,d1,d2,d3,d4,d5,d6,d7,d8,d9,e0,e1,e2,e3,e4,e5,e6,e7,e8,e9,f0,f1,f2,f3,f4,f5,f6,f7,f8,f9,p0,p1,p2,p3,p4,p5,p6,p7,p8,p9,v0,v1,v2,v3,v4,v5,v6,v7,v8], []⟩ w')) :
    Code.wp Tryz.prog (subC [true, true, true, true, false, true, false, false, true, false, true, true, true, true, true, true, true, false] (Tryz.f25.body.getD .skip)) Q0 ⟨#[A0,A1,A2,A3,A4,A5,A6,A7,A8,.slice (some ⟨rg, 0, none⟩) 8 8,B0,B1,B2,B3,.pointer (some ⟨pw, 0, none⟩),.func (.func 45) #[] #[.pointer (some ⟨pw, 0, none⟩)],B6,.int .i64 0,.int .i64 (-1),.string ⟨#[]⟩,.string ⟨#[]⟩,C1,C2,C3,C4,C5,C6,C7,C8,C9,D0,D1,D2,D3,D4,D5,D6,D7,D8,D9,E0,E1,E2,E3,E4,E5,E6,E7,E8,E9,G0,G1,G2,G3,G4,G5,G6,G7,G8,G9,H0,H1,H2,H3,H4,H5,H6,H7,H8,H9,I0,I1,I2,I3,I4,I5,I6,I7,I8,I9,J0,J1,J2,J3,J4,J5,J6,J7,J8,J9,K0,K1,K2,K3,K4,K5,K6,K7,K8,K9,M0,M1,M2,M3,M4,M5,M6,M7,M8,M9,N0,N1,N2,N3,N4,N5,N6,N7,N8,N9,O0,O1,O2,O3,O4,O5,O6,O7,O8,O9,P0,P1,P2,P3,P4,P5,P6,P7,P8,P9,R0,R1,R2,R3,R4,R5,R6,R7,R8,R9,S0,S1,S2,S3,S4,S5,S6,S7,S8,S9,T0,T1,T2,T3,T4,T5,T6,T7,T8,T9,U0,U1,U2,U3,U4,U5,U6,U7,U8,U9,V0,V1,V2,V3,V4,V5,V6,V7,V8,V9,W0,W1,W2,W3,W4,W5,W6,W7,W8,W9,X0,X1,X2,X3,X4,X5,X6,X7,X8,X9,Y0,Y1,Y2,Y3,Y4,Y5,Y6,Y7,Y8,Y9,Z0,Z1,Z2,Z3,Z4,Z5,Z6,Z7,Z8,Z9,j0,j1,j2,j3,j4,j5,j6,j7,j8,j9,o0,o1,o2,o3,o4,o5,o6,o7,o8,o9,y0,y1,y2,y3,y4,y5,y6,y7,y8,y9,z0,z1,z2,z3,z4,z5,z6,z7,z8,z9,x0,x1,x2,x3,x4,x5,x6,x7,x8,x9,i0,i1,i2,i3,i4,i5,i6,i7,i8,i9,d0,d1,d2,d3,d4,d5,d6,d7,d8,d9,e0,e1,e2,e3,e4,e5,e6,e7,e8,e9,f0,f1,f2,f3,f4,f5,f6,f7,f8,f9,p0,p1,p2,p3,p4,p5,p6,p7,p8,p9,v0,v1,v2,v3,v4,v5,v6,v7,v8], []⟩ w := by
  obtain ⟨rf, hrf1, hrf2⟩ : ∃ rf : Int → Int, rf 1 = (r : Int) ∧ rf 2 = (v : Int) := ⟨fun i => if i = 1 then (r : Int) else (v : Int), rfl, rfl⟩
  have HR : Hid (∀ (i : Int) (W : World), W.heap = w.heap → (i = 1 ∨ i = 2) → Calls Tryz.prog 45 #[.int .i64 i, .pointer (some ⟨pw, 0, none⟩)] W fun e w' => e = .returned (.int .i64 (rf i)) ∧ w' = W) := by
    rintro i W hW (rfl | rfl)
    · rw [hrf1]; exact reg_call pw g 1 n cap s1 r W (by rw [cell_heap hW]; exact hpw) (by omega) (by rw [cell_heap hW]; exact h1) hs1 hr1
    · rw [hrf2]; exact reg_call pw g 2 n cap s2 v W (by rw [cell_heap hW]; exact hpw) (by omega) (by rw [cell_heap hW]; exact h2) hs2 hr2
  have hni : (0 : Int) < (n : Int) := by omega
  have hri : (r : Int) < 8 := by omega
  have hvi : (v : Int) < 8 := by omega
  have hcat : ∀ W, (Op.stringOp .add t1 t2).run Tryz.prog W = .ok (.string (jnF t1 t2)) W := catB t1 t2 _ (by simp [jnF, bA]) (by omega)
  clear hn hs1 hr1 h1 hs2 hr2 h2 hr hv hz1 hz2
  generalize jnF t1 t2 = tx at *
  conv => arg 2; whnf
  dsimp only
  go_wp2
  go_quiet ((go_at_call 45; refine Calls.quiet_of_same (HR.out _ _ rfl (by decide))))
  go_wp2
  rw [hrf1]
  apply HX.out; exact (below_dn w _)

set_option maxHeartbeats 8000000 in
set_option maxRecDepth 100000 in
theorem sumW (pw g n cap rg : Nat) (r : Nat) (s1 t1 : ByteArray) (w : World) (hpw : w.cell? ⟨pw, 0, none⟩ = some (.slice (some ⟨g, 0, none⟩) n cap)) (h0 : w.cell? ⟨g, 0, none⟩ = some (.string ⟨#[115, 117, 109]⟩)) (hn : 1 < n) (h1 : w.cell? ⟨g, 1, none⟩ = some (.string s1)) (hs1 : 0 < s1.size) (hr1 : s1[0].toNat = 97 + r) (hr : r < 8) (ht1 : w.cell? ⟨rg, r, none⟩ = some (.string t1)) (hz1 : t1.size ≤ 1000000) (Q0 : Exit → Act → World → Prop)
    (HX : Hid (∀ (Bk Bm Bq Bt Cx Cy Cz Db Dc Df Dg Dh Dj Dk Dm Dq Dt Dv Dw Dx Dy Dz Eb Ec Ef Eg Eh Ej Ek Em Eq Et Ev Ew Ex Ey Ez Gb Gc Gf Gg Gh Gj Gk Gm Gq Gt Gv Gw Gx Gy Gz Hb Hc Hf Hg Hh Hj Hk Hm Hq Ht Hv Hw Hx Hy Hz Ib Ic If Ig Ih Ij Ik Im Iq It Iv Iw Ix Iy Iz Jb Jc Jf Jg Jh Jj Jk Jm Jq Jt Jv Jw Jx Jy Jz Kb Kc Kf Kg Kh Kj Kk Km Kq Kt Kv Kw Kx Ky Kz Mb Mc Mf Mg Mh Mj Mk Mm Mq Mt Mv Mw Mx My Mz Nb Nc Nf Ng Nh Nj Nk Nm Nq Nt Nv Nw Nx Ny Nz Ob Oc Of Og Oh Oj Ok Om Oq Ot Ov Ow Ox Oy Oz Pb Pc Pf Pg Ph Pj Pk Pm Pq Pt Pv Pw Px Py Pz Rb Rc Rf Rg Rh : Value) (w' : World), Hid (Below w.heap.size w w') → Q0 .normal ⟨#[A0,A1,A2,A3,A4,A5,A6,A7,A8,.slice (some ⟨rg, 0, none⟩) 8 8,B0,B1,B2,B3,.pointer (some ⟨pw, 0, none⟩),.func (.func 45) #[] #[.pointer (some ⟨pw, 0, none⟩)],B6,.int .i64 0,.int .i64 (r : Int),.string (smD t1),.string ⟨#[]⟩,Bk,Bm,Bq,Bt,C5,C6,C7,C8,C9,D0,D1,D2,D3,D4,D5,D6,D7,D8,D9,E0,E1,Cx,Cy,Cz,Db,Dc,Df,Dg,Dh,Dj,Dk,Dm,Dq,Dt,Dv,Dw,Dx,Dy,Dz,Eb,Ec,Ef,Eg,Eh,Ej,Ek,Em,Eq,Et,Ev,Ew,Ex,Ey,Ez,Gb,Gc,Gf,Gg,Gh,Gj,Gk,Gm,Gq,Gt,Gv,Gw,Gx,Gy,Gz,Hb,Hc,Hf,Hg,Hh,Hj,Hk,Hm,Hq,Ht,Hv,Hw,Hx,Hy,Hz,Ib,Ic,If,Ig,Ih,Ij,Ik,Im,Iq,It,Iv,Iw,Ix,Iy,Iz,Jb,Jc,Jf,Jg,Jh,Jj,Jk,Jm,Jq,Jt,Jv,Jw,Jx,Jy,Jz,Kb,Kc,Kf,Kg,Kh,Kj,Kk,Km,Kq,Kt,Kv,Kw,Kx,Ky,Kz,Mb,Mc,Mf,Mg,Mh,Mj,Mk,Mm,Mq,Mt,Mv,Mw,Mx,My,Mz,Nb,Nc,Nf,Ng,Nh,Nj,Nk,Nm,Nq,Nt,Nv,Nw,Nx,Ny,Nz,Ob,Oc,Of,Og,Oh,Oj,Ok,Om,Oq,Ot,Ov,Ow,Ox,Oy,Oz,Pb,Pc,Pf,Pg,Ph,Pj,Pk,Pm,Pq,Pt,Pv,Pw,Px,Py,Pz,Rb,Rc,Rf,Rg,Rh,Y5,Y6,Y7,Y8,Y9,Z0,Z1,Z2,Z3,Z4,Z5,Z6,Z7,Z8,Z9,j0,j1,j2,j3,j4,j5,j6,j7,j8,j9,o0,o1,o2,o3,o4,o5,o6,o7,o8,o9,y0,y1,y2,y3,y4,y5,y6,y7,y8,y9,z0,z1,z2,z3,z4,z5,z6,z7,z8,z9,x0,x1,x2,x3,x4,x5,x6,x7,x8,x9,i0,i1,i2,i3,i4,i5,i6,i7,i8,i9,d0,d1,d2,d3,d4,d5,d6,d7,d8,d9,e0,e1,e2,e3,e4,e5,e6,e7,e8,e9,f0,f1,f2,f3,f4,f5,f6,f7,f8,f9,p0,p1,p2,p3,p4,p5,p6,p7,p8,p9,v0,v1,v2,v3,v4,v5,v6,v7,v8], []⟩ w')) :
    Code.wp Tryz.prog (subC [true, true, true, true, false, true, false, false, true, false, true, true, true, true, true, true, true, false] (Tryz.f25.body.getD .skip)) Q0 ⟨#[A0,A1,A2,A3,A4,A5,A6,A7,A8,.slice (some ⟨rg, 0, none⟩) 8 8,B0,B1,B2,B3,.pointer (some ⟨pw, 0, none⟩),.func (.func 45) #[] #[.pointer (some ⟨pw, 0, none⟩)],B6,.int .i64 0,.int .i64 (-1),.string ⟨#[]⟩,.string ⟨#[]⟩,C1,C2,C3,C4,C5,C6,C7,C8,C9,D0,D1,D2,D3,D4,D5,D6,D7,D8,D9,E0,E1,E2,E3,E4,E5,E6,E7,E8,E9,G0,G1,G2,G3,G4,G5,G6,G7,G8,G9,H0,H1,H2,H3,H4,H5,H6,H7,H8,H9,I0,I1,I2,I3,I4,I5,I6,I7,I8,I9,J0,J1,J2,J3,J4,J5,J6,J7,J8,J9,K0,K1,K2,K3,K4,K5,K6,K7,K8,K9,M0,M1,M2,M3,M4,M5,M6,M7,M8,M9,N0,N1,N2,N3,N4,N5,N6,N7,N8,N9,O0,O1,O2,O3,O4,O5,O6,O7,O8,O9,P0,P1,P2,P3,P4,P5,P6,P7,P8,P9,R0,R1,R2,R3,R4,R5,R6,R7,R8,R9,S0,S1,S2,S3,S4,S5,S6,S7,S8,S9,T0,T1,T2,T3,T4,T5,T6,T7,T8,T9,U0,U1,U2,U3,U4,U5,U6,U7,U8,U9,V0,V1,V2,V3,V4,V5,V6,V7,V8,V9,W0,W1,W2,W3,W4,W5,W6,W7,W8,W9,X0,X1,X2,X3,X4,X5,X6,X7,X8,X9,Y0,Y1,Y2,Y3,Y4,Y5,Y6,Y7,Y8,Y9,Z0,Z1,Z2,Z3,Z4,Z5,Z6,Z7,Z8,Z9,j0,j1,j2,j3,j4,j5,j6,j7,j8,j9,o0,o1,o2,o3,o4,o5,o6,o7,o8,o9,y0,y1,y2,y3,y4,y5,y6,y7,y8,y9,z0,z1,z2,z3,z4,z5,z6,z7,z8,z9,x0,x1,x2,x3,x4,x5,x6,x7,x8,x9,i0,i1,i2,i3,i4,i5,i6,i7,i8,i9,d0,d1,d2,d3,d4,d5,d6,d7,d8,d9,e0,e1,e2,e3,e4,e5,e6,e7,e8,e9,f0,f1,f2,f3,f4,f5,f6,f7,f8,f9,p0,p1,p2,p3,p4,p5,p6,p7,p8,p9,v0,v1,v2,v3,v4,v5,v6,v7,v8], []⟩ w := by
  have HR1 : Hid (∀ W : World, W.heap = w.heap → Calls Tryz.prog 45 #[.int .i64 1, .pointer (some ⟨pw, 0, none⟩)] W fun e w' => e = .returned (.int .i64 (r : Int)) ∧ w' = W) := fun W hW => reg_call pw g 1 n cap s1 r W (by rw [cell_heap hW]; exact hpw) (by omega) (by rw [cell_heap hW]; exact h1) hs1 hr1
  have HD : Hid (Calls Tryz.prog 48 #[.string t1] w fun e w' => e = .returned (.string (smD t1)) ∧ Hid (Below w.heap.size w w')) := by
    unfold smD
    rw [sum_plain]
    exact Sum_doc t1 w (by omega)
  have hni : (0 : Int) < (n : Int) := by omega
  have hri : (r : Int) < 8 := by omega
  clear hn hs1 hr1 h1 hr hz1
  generalize smD t1 = tx at *
  conv => arg 2; whnf
  dsimp only
  go_wp2_with (first
    | (go_at_call 45; with_reducible refine (HR1.out _ rfl).mono ?_; rintro e w1 ⟨rfl, hw⟩; subst w1)
    | (go_at_call 48; refine HD.out.mono ?_; rintro e w1 ⟨rfl, HB⟩)
    | go_in)
  apply HX.out; exact HB
end Go.Proofs.YtapiedeekbfpnaaGreatDoor

/- The document's RunCommand: the paths of a directory: its loop. -/
namespace Go.Proofs.YtapiedeekbfpnaaGreatDoor
open Go.RowKit Go.Shelf Go.Maps Go.WideMaps Go.Sort
variable {A0 A1 A2 A3 A4 A5 A6 A7 A8 A9 B0 B1 B2 B3 B4 B5 B6 B7 B8 B9 C0 C1 C2 C3 C4 C5 C6 C7 C8 C9 D0 D1 D2 D3 D4 D5 D6 D7 D8 D9 E0 E1 E2 E3 E4 E5 E6 E7 E8 E9 G0 G1 G2 G3 G4 G5 G6 G7 G8 G9 H0 H1 H2 H3 H4 H5 H6 H7 H8 H9 I0 I1 I2 I3 I4 I5 I6 I7 I8 I9 J0 J1 J2 J3 J4 J5 J6 J7 J8 J9 K0 K1 K2 K3 K4 K5 K6 K7 K8 K9 M0 M1 M2 M3 M4 M5 M6 M7 M8 M9 N0 N1 N2 N3 N4 N5 N6 N7 N8 N9 O0 O1 O2 O3 O4 O5 O6 O7 O8 O9 P0 P1 P2 P3 P4 P5 P6 P7 P8 P9 R0 R1 R2 R3 R4 R5 R6 R7 R8 R9 S0 S1 S2 S3 S4 S5 S6 S7 S8 S9 T0 T1 T2 T3 T4 T5 T6 T7 T8 T9 U0 U1 U2 U3 U4 U5 U6 U7 U8 U9 V0 V1 V2 V3 V4 V5 V6 V7 V8 V9 W0 W1 W2 W3 W4 W5 W6 W7 W8 W9 X0 X1 X2 X3 X4 X5 X6 X7 X8 X9 Y0 Y1 Y2 Y3 Y4 Y5 Y6 Y7 Y8 Y9 Z0 Z1 Z2 Z3 Z4 Z5 Z6 Z7 Z8 Z9 j0 j1 j2 j3 j4 j5 j6 j7 j8 j9 o0 o1 o2 o3 o4 o5 o6 o7 o8 o9 y0 y1 y2 y3 y4 y5 y6 y7 y8 y9 z0 z1 z2 z3 z4 z5 z6 z7 z8 z9 x0 x1 x2 x3 x4 x5 x6 x7 x8 x9 i0 i1 i2 i3 i4 i5 i6 i7 i8 i9 d0 d1 d2 d3 d4 d5 d6 d7 d8 d9 e0 e1 e2 e3 e4 e5 e6 e7 e8 e9 f0 f1 f2 f3 f4 f5 f6 f7 f8 f9 p0 p1 p2 p3 p4 p5 p6 p7 p8 p9 v0 v1 v2 v3 v4 v5 v6 v7 v8 : Value}

theorem nl_conv (W : World) : (convert 82 9 (.slice (some ⟨W.heap.size, 0, none⟩) 1 1)).run Tryz.prog (W.alloc (.cells #[.int .u8 10] 5)) = .ok (.string ⟨#[10]⟩) (W.alloc (.cells #[.int .u8 10] 5)) :=
  run_convert_bytes_back (W.alloc (.cells #[.int .u8 10] 5)) 82 9 5 ⟨W.heap.size, 0, none⟩ 1 [10] Tryz.underlying82 Tryz.underlying5 Tryz.underlying9 fun j hj => by
    have : j = 0 := by simp at hj; omega
    subst this
    show (W.alloc (.cells #[.int .u8 10] 5)).cell? ⟨W.heap.size, 0, none⟩ = some (.int .u8 10)
    rw [Lib.cell_of_heap (heap_alloc_new W _)]
    rfl
theorem lst_take (F : List Fl) (d : ByteArray) (k : Nat) (h : ∀ f ∈ F, f.pa.size ≤ 100) (hl : F.length ≤ 1000) : (lstF (F.take k) d).size ≤ 101000 := by
  have h1 := lstL_len (F.take k) d fun f hf => h f (List.mem_of_mem_take hf)
  have h2 : (lstF (F.take k) d).size = (lstL (F.take k) d).length := by simp [lstF, bA, ByteArray.size]
  have h3 : (F.take k).length ≤ F.length := by rw [List.length_take]; omega
  omega
theorem bA_list (l : List UInt8) : (bA l).data.toList = l := rfl
theorem lst_yes (F : List Fl) (d : ByteArray) (k : Nat) (hk : k < F.length) (h : d.data.toList = [46] ∨ inB F[k].pa d = true) : (lstF (F.take k) d).data.toList ++ (bA (F[k].pa.data.toList ++ [10])).data.toList = (lstF (F.take (k + 1)) d).data.toList := by
  unfold lstF
  rw [lstL_snoc F d k hk]
  unfold lst1
  rw [if_pos h]
  simp [bA, pth]
theorem lst_no (F : List Fl) (d : ByteArray) (k : Nat) (hk : k < F.length) (h : ¬ (d.data.toList = [46] ∨ inB F[k].pa d = true)) : lstF (F.take (k + 1)) d = lstF (F.take k) d := by
  unfold lstF
  rw [lstL_snoc F d k hk]
  unfold lst1
  rw [if_neg h, List.append_nil]

set_option maxHeartbeats 8000000 in
set_option maxRecDepth 100000 in
theorem listL (ao : Option Addr) (ac : Nat) (F : List Fl) (pw g n cap : Nat) (s2 : ByteArray) (w : World) (hpw : w.cell? ⟨pw, 0, none⟩ = some (.slice (some ⟨g, 0, none⟩) n cap)) (hn : 2 < n) (h2 : w.cell? ⟨g, 2, none⟩ = some (.string s2)) (hF : IsFl w ao F) (hl : F.length ≤ 1000) (hpa : ∀ f ∈ F, f.pa.size ≤ 100) (Q0 : Exit → Act → World → Prop)
    (HX : Hid (∀ (Bm Ew Ex Ey Ez Gb Gc Gf Gg Gh Gj Gk Gm Gq Gt Gv Gw Gx Gy Gz Hb Hc Hf Hg Hh Hj Hk Hm Hq Ht Hv Hw : Value) (w' : World), Hid (Below w.heap.size w w') → Q0 (.exit 3) ⟨#[.slice ao F.length ac,A1,A2,A3,A4,A5,A6,A7,A8,A9,B0,B1,B2,B3,.pointer (some ⟨pw, 0, none⟩),B5,B6,B7,B8,.string (lstF F s2),C0,C1,Bm,C3,C4,C5,C6,C7,C8,C9,D0,D1,D2,D3,D4,D5,D6,D7,D8,D9,E0,E1,E2,E3,E4,E5,E6,E7,E8,E9,G0,G1,G2,G3,G4,G5,G6,G7,G8,G9,H0,H1,H2,H3,H4,H5,H6,H7,H8,H9,I0,Ew,Ex,Ey,Ez,Gb,Gc,Gf,Gg,Gh,Gj,Gk,Gm,Gq,Gt,Gv,Gw,Gx,Gy,Gz,Hb,Hc,Hf,Hg,Hh,Hj,Hk,Hm,Hq,Ht,Hv,Hw,M2,M3,M4,M5,M6,M7,M8,M9,N0,N1,N2,N3,N4,N5,N6,N7,N8,N9,O0,O1,O2,O3,O4,O5,O6,O7,O8,O9,P0,P1,P2,P3,P4,P5,P6,P7,P8,P9,R0,R1,R2,R3,R4,R5,R6,R7,R8,R9,S0,S1,S2,S3,S4,S5,S6,S7,S8,S9,T0,T1,T2,T3,T4,T5,T6,T7,T8,T9,U0,U1,U2,U3,U4,U5,U6,U7,U8,U9,V0,V1,V2,V3,V4,V5,V6,V7,V8,V9,W0,W1,W2,W3,W4,W5,W6,W7,W8,W9,X0,X1,X2,X3,X4,X5,X6,X7,X8,X9,Y0,Y1,Y2,Y3,Y4,Y5,Y6,Y7,Y8,Y9,Z0,Z1,Z2,Z3,Z4,Z5,Z6,Z7,Z8,Z9,j0,j1,j2,j3,j4,j5,j6,j7,j8,j9,o0,o1,o2,o3,o4,o5,o6,o7,o8,o9,y0,y1,y2,y3,y4,y5,y6,y7,y8,y9,z0,z1,z2,z3,z4,z5,z6,z7,z8,z9,x0,x1,x2,x3,x4,x5,x6,x7,x8,x9,i0,i1,i2,i3,i4,i5,i6,i7,i8,i9,d0,d1,d2,d3,d4,d5,d6,d7,d8,d9,e0,e1,e2,e3,e4,e5,e6,e7,e8,e9,f0,f1,f2,f3,f4,f5,f6,f7,f8,f9,p0,p1,p2,p3,p4,p5,p6,p7,p8,p9,v0,v1,v2,v3,v4,v5,v6,v7,v8], []⟩ w')) :
    Code.wp Tryz.prog (subC [true, true, true, true, false, true, false, false, true, false, true, true, true, true, true, true, true, false, true, false, true, true, true, true, true, false, true, true, false] (Tryz.f25.body.getD .skip)) Q0 ⟨#[.slice ao F.length ac,A1,A2,A3,A4,A5,A6,A7,A8,A9,B0,B1,B2,B3,.pointer (some ⟨pw, 0, none⟩),B5,B6,B7,B8,.string ⟨#[]⟩,C0,C1,.int .i64 0,C3,C4,C5,C6,C7,C8,C9,D0,D1,D2,D3,D4,D5,D6,D7,D8,D9,E0,E1,E2,E3,E4,E5,E6,E7,E8,E9,G0,G1,G2,G3,G4,G5,G6,G7,G8,G9,H0,H1,H2,H3,H4,H5,H6,H7,H8,H9,I0,I1,I2,I3,I4,I5,I6,I7,I8,I9,J0,J1,J2,J3,J4,J5,J6,J7,J8,J9,K0,K1,K2,K3,K4,K5,K6,K7,K8,K9,M0,M1,M2,M3,M4,M5,M6,M7,M8,M9,N0,N1,N2,N3,N4,N5,N6,N7,N8,N9,O0,O1,O2,O3,O4,O5,O6,O7,O8,O9,P0,P1,P2,P3,P4,P5,P6,P7,P8,P9,R0,R1,R2,R3,R4,R5,R6,R7,R8,R9,S0,S1,S2,S3,S4,S5,S6,S7,S8,S9,T0,T1,T2,T3,T4,T5,T6,T7,T8,T9,U0,U1,U2,U3,U4,U5,U6,U7,U8,U9,V0,V1,V2,V3,V4,V5,V6,V7,V8,V9,W0,W1,W2,W3,W4,W5,W6,W7,W8,W9,X0,X1,X2,X3,X4,X5,X6,X7,X8,X9,Y0,Y1,Y2,Y3,Y4,Y5,Y6,Y7,Y8,Y9,Z0,Z1,Z2,Z3,Z4,Z5,Z6,Z7,Z8,Z9,j0,j1,j2,j3,j4,j5,j6,j7,j8,j9,o0,o1,o2,o3,o4,o5,o6,o7,o8,o9,y0,y1,y2,y3,y4,y5,y6,y7,y8,y9,z0,z1,z2,z3,z4,z5,z6,z7,z8,z9,x0,x1,x2,x3,x4,x5,x6,x7,x8,x9,i0,i1,i2,i3,i4,i5,i6,i7,i8,i9,d0,d1,d2,d3,d4,d5,d6,d7,d8,d9,e0,e1,e2,e3,e4,e5,e6,e7,e8,e9,f0,f1,f2,f3,f4,f5,f6,f7,f8,f9,p0,p1,p2,p3,p4,p5,p6,p7,p8,p9,v0,v1,v2,v3,v4,v5,v6,v7,v8], []⟩ w := by
  have HC : Hid (∀ W, Below w.heap.size w W → W.cell? ⟨pw, 0, none⟩ = some (.slice (some ⟨g, 0, none⟩) n cap) ∧ W.cell? ⟨g, 2, none⟩ = some (.string s2) ∧ IsFl W ao F) := fun W hW =>
    ⟨(World.cell?_of_block (hW.block pw (World.block_lt_of_cell? w _ hpw))).trans hpw, (World.cell?_of_block (hW.block g (World.block_lt_of_cell? w _ h2))).trans h2, hF.below hW (Nat.le_refl _)⟩
  have HP : Hid ((∀ f ∈ F, f.pa.size ≤ 100) ∧ F.length ≤ 1000) := ⟨hpa, hl⟩
  have HI : Hid (∀ (W : World) (p : ByteArray), Calls Tryz.prog 42 #[.string s2, .string p] W fun e w' => e = .returned (.bool (inB p s2)) ∧ w' = W) := fun W p => RIsInside_any p s2 W
  have hn2 : (2 : Int) < (n : Int) := by omega
  have hl2 : (F.length : Int) ≤ 1000 := by omega
  have hb1 : (s2.toList == [46]) = decide (s2.data.toList = [46]) := by rw [Lib.toList_data, Bool.eq_iff_iff]; simp
  clear hpw h2 hF hpa hn
  conv => arg 2; whnf
  dsimp only
  go_loopw [19, 22] (fun c i wr => ∃ k : Nat, k ≤ F.length ∧ i = .int .i64 (k : Int) ∧ Hid (c = .string (lstF (F.take k) s2)) ∧ Hid (Below w.heap.size w wr)) (fun _ i _ => F.length - (RowKit.intOf i).toNat)
  case atStart => exact ⟨0, Nat.zero_le _, rfl, (rfl : Value.string (lstF (F.take 0) s2) = _), Below.refl _ w⟩
  case round =>
    obtain ⟨k, hk, rfl, HT, HB⟩ := hrel
    by_cases hlt : k < F.length
    · have hki : (k : Int) < (F.length : Int) := by omega
      obtain ⟨c1, c2, hfl⟩ := HC.out wr HB.out
      rcases hfl with h | ⟨fg, fo, rfl, hfg, hfc⟩
      · exfalso; rw [h] at hlt; exact absurd hlt (by simp)
      obtain ⟨c3, _, _⟩ := hfc k hlt
      have c4 : ∀ m : Nat, ((wr.drewN m).alloc (.cells #[.int .u8 10] 5)).cell? ⟨fg, fo + k * 3, none⟩ = some (.string F[k].pa) := fun m => by
        rw [World.cell?_alloc_some (wr.drewN m) _ _ (by rw [show (wr.drewN m).cell? ⟨fg, fo + k * 3, none⟩ = some (.string F[k].pa) from c3]; rfl)]
        exact c3
      have HI2 : Hid (∀ W : World, Calls Tryz.prog 42 #[.string s2, .string F[k].pa] W fun e w' => e = .returned (.bool (inB F[k].pa s2)) ∧ w' = W) := fun W => HI.out W _
      have HYE := lst_yes F s2 k hlt
      have HNO := lst_no F s2 k hlt
      have hz1 := lst_take F s2 k HP.out.1 HP.out.2
      have hz2 : F[k].pa.size ≤ 100 := HP.out.1 _ (List.getElem_mem hlt)
      have ht := HT.out
      subst ht
      have ek1 : (k : Int) + 1 = ((k + 1 : Nat) : Int) := by omega
      have cat1 : ∀ W, (Op.stringOp .add F[k].pa ⟨#[10]⟩).run Tryz.prog W = .ok (.string (bA (F[k].pa.data.toList ++ [10]))) W := catB _ _ _ (bA_list _).symm (by have : (⟨#[10]⟩ : ByteArray).size = 1 := rfl; omega)
      have hz3 : (bA (F[k].pa.data.toList ++ [10])).size = F[k].pa.size + 1 := (bA_size _).trans (by rw [List.length_append, Array.length_toList]; rfl)
      have CAT : Hid (s2.data.toList = [46] ∨ inB F[k].pa s2 = true → ∀ W, (Op.stringOp .add (lstF (F.take k) s2) (bA (F[k].pa.data.toList ++ [10]))).run Tryz.prog W = .ok (.string (lstF (F.take (k + 1)) s2)) W) := fun h => catB _ _ _ (HYE h) (by omega)
      have HNO2 : Hid (¬ (s2.data.toList = [46] ∨ inB F[k].pa s2 = true) → lstF (F.take (k + 1)) s2 = lstF (F.take k) s2) := HNO
      have hcv : ∀ m : Nat, (convert 82 9 (.slice (some ⟨wr.heap.size, 0, none⟩) 1 1)).run Tryz.prog ((wr.drewN m).alloc (.cells #[.int .u8 10] 5)) = .ok (.string ⟨#[10]⟩) ((wr.drewN m).alloc (.cells #[.int .u8 10] 5)) := fun m => nl_conv (wr.drewN m)
      have HBD : Hid (∀ m : Nat, Below w.heap.size w ((wr.drewN m).alloc (.cells #[.int .u8 10] 5))) := fun m => (below_low HB.out (below_dn wr m) HB.out.size).alloc (by show w.heap.size ≤ (wr.drewN m).heap.size; exact HB.out.size) _
      clear hfc HT HYE HNO hz1 hz2 hz3 HI ek1
      generalize F[k].pa = pa at *
      generalize bA (pa.data.toList ++ [10]) = pb at *
      generalize lstF (F.take k) s2 = tx at *
      obtain ⟨tx2, htx2⟩ : ∃ tx2, lstF (F.take (k + 1)) s2 = tx2 := ⟨_, rfl⟩
      rw [htx2] at CAT HNO2
      have HT2 : Hid (lstF (F.take (k + 1)) s2 = tx2) := htx2
      clear htx2
      by_cases hd : s2.data.toList = [46]
      · have cat2 := CAT.out (.inl hd)
        rw [decide_eq_true hd] at hb1
        clear CAT hd HNO2
        go_wp2
        go_quiet (fail)
        go_wp2
        go_region
        all_goals
          go_wp2
          refine ⟨⟨k + 1, hlt, by go_num, by rw [HT2.out]; rfl, HBD.out _⟩, ?_⟩
          simp [RowKit.intOf]; omega
      · rw [decide_eq_false hd] at hb1
        cases hb2 : inB pa s2 with
        | true =>
          have cat2 := CAT.out (.inr hb2)
          rw [hb2] at HI2
          clear CAT hd HNO2 hb2
          go_wp2
          go_quiet (first
            | (go_at_call 42; refine Calls.quiet_of_same (HI2.out _))
            | fail)
          go_wp2
          go_region
          all_goals
            go_wp2
            refine ⟨⟨k + 1, hlt, by go_num, by rw [HT2.out]; rfl, HBD.out _⟩, ?_⟩
            simp [RowKit.intOf]; omega
        | false =>
          have HE : Hid (tx2 = tx) := HNO2.out (by rintro (h | h); exact hd h; rw [hb2] at h; cases h)
          rw [hb2] at HI2
          clear CAT hd HNO2 hb2 cat1
          go_wp2
          go_quiet (first
            | (go_at_call 42; refine Calls.quiet_of_same (HI2.out _))
            | fail)
          go_wp2
          refine ⟨⟨k + 1, hlt, by go_num, by rw [HT2.out, HE.out]; rfl, below_low HB.out (below_dn wr _) HB.out.size⟩, ?_⟩
          simp [RowKit.intOf]; omega
    · obtain rfl : k = F.length := by omega
      have ht := HT.out
      rw [List.take_length] at ht
      subst ht
      clear HI HC hlt
      go_wp2
      apply HX.out; exact HB
end Go.Proofs.YtapiedeekbfpnaaGreatDoor

/- The document's RunCommand: what it does at 'size'. -/
namespace Go.Proofs.YtapiedeekbfpnaaGreatDoor
open Go.RowKit Go.Shelf Go.Maps Go.WideMaps Go.Sort
variable {A0 A1 A2 A3 A4 A5 A6 A7 A8 A9 B0 B1 B2 B3 B4 B5 B6 B7 B8 B9 C0 C1 C2 C3 C4 C5 C6 C7 C8 C9 D0 D1 D2 D3 D4 D5 D6 D7 D8 D9 E0 E1 E2 E3 E4 E5 E6 E7 E8 E9 G0 G1 G2 G3 G4 G5 G6 G7 G8 G9 H0 H1 H2 H3 H4 H5 H6 H7 H8 H9 I0 I1 I2 I3 I4 I5 I6 I7 I8 I9 J0 J1 J2 J3 J4 J5 J6 J7 J8 J9 K0 K1 K2 K3 K4 K5 K6 K7 K8 K9 M0 M1 M2 M3 M4 M5 M6 M7 M8 M9 N0 N1 N2 N3 N4 N5 N6 N7 N8 N9 O0 O1 O2 O3 O4 O5 O6 O7 O8 O9 P0 P1 P2 P3 P4 P5 P6 P7 P8 P9 R0 R1 R2 R3 R4 R5 R6 R7 R8 R9 S0 S1 S2 S3 S4 S5 S6 S7 S8 S9 T0 T1 T2 T3 T4 T5 T6 T7 T8 T9 U0 U1 U2 U3 U4 U5 U6 U7 U8 U9 V0 V1 V2 V3 V4 V5 V6 V7 V8 V9 W0 W1 W2 W3 W4 W5 W6 W7 W8 W9 X0 X1 X2 X3 X4 X5 X6 X7 X8 X9 Y0 Y1 Y2 Y3 Y4 Y5 Y6 Y7 Y8 Y9 Z0 Z1 Z2 Z3 Z4 Z5 Z6 Z7 Z8 Z9 j0 j1 j2 j3 j4 j5 j6 j7 j8 j9 o0 o1 o2 o3 o4 o5 o6 o7 o8 o9 y0 y1 y2 y3 y4 y5 y6 y7 y8 y9 z0 z1 z2 z3 z4 z5 z6 z7 z8 z9 x0 x1 x2 x3 x4 x5 x6 x7 x8 x9 i0 i1 i2 i3 i4 i5 i6 i7 i8 i9 d0 d1 d2 d3 d4 d5 d6 d7 d8 d9 e0 e1 e2 e3 e4 e5 e6 e7 e8 e9 f0 f1 f2 f3 f4 f5 f6 f7 f8 f9 p0 p1 p2 p3 p4 p5 p6 p7 p8 p9 v0 v1 v2 v3 v4 v5 v6 v7 v8 : Value}

set_option maxHeartbeats 8000000 in
set_option maxRecDepth 100000 in
theorem sizeW (pw g n cap rg r q : Nat) (s1 s2 t : ByteArray) (w : World) (hpw : w.cell? ⟨pw, 0, none⟩ = some (.slice (some ⟨g, 0, none⟩) n cap)) (hn : 2 < n) (h0 : w.cell? ⟨g, 0, none⟩ = some (.string ⟨#[115, 105, 122, 101]⟩)) (h1 : w.cell? ⟨g, 1, none⟩ = some (.string s1)) (h2 : w.cell? ⟨g, 2, none⟩ = some (.string s2))
    (hs1 : 0 < s1.size) (hr1 : s1[0].toNat = 97 + r) (hs2 : 0 < s2.size) (hr2 : s2[0].toNat = 97 + q) (hq : q < 8) (ht : w.cell? ⟨rg, q, none⟩ = some (.string t)) (htz : t.size ≤ 1000000) (Q0 : Exit → Act → World → Prop)
    (HX : Hid (∀ (Cx Cy Cz Db Dc Dk Dm Em Eq Hx Hy Ix Iy Mf Mg Mh Mj Mk Mm Mq Mt Mv Mw Mx : Value) (w' : World), Hid (Below w.heap.size w w') → Q0 .normal ⟨#[A0,A1,A2,A3,A4,A5,A6,A7,A8,.slice (some ⟨rg, 0, none⟩) 8 8,B0,B1,B2,B3,.pointer (some ⟨pw, 0, none⟩),.func (.func 45) #[] #[.pointer (some ⟨pw, 0, none⟩)],B6,B7,.int .i64 (r : Int),.string (szF t),C0,C1,C2,C3,C4,C5,C6,C7,C8,C9,D0,D1,D2,D3,D4,D5,D6,D7,D8,D9,E0,E1,Cx,Cy,Cz,Db,Dc,E7,E8,E9,G0,Dk,Dm,G3,G4,G5,G6,G7,G8,G9,H0,H1,H2,H3,H4,H5,H6,Em,Eq,H9,I0,I1,I2,I3,I4,I5,I6,I7,I8,I9,J0,J1,J2,J3,J4,J5,J6,J7,J8,J9,K0,K1,K2,K3,K4,K5,K6,K7,K8,K9,M0,M1,Hx,Hy,M4,M5,M6,M7,M8,M9,N0,N1,N2,N3,N4,N5,N6,Ix,Iy,N9,O0,O1,O2,O3,O4,O5,O6,O7,O8,O9,P0,P1,P2,P3,P4,P5,P6,P7,P8,P9,R0,R1,R2,R3,R4,R5,R6,R7,R8,R9,S0,S1,Mf,Mg,Mh,Mj,Mk,Mm,Mq,Mt,Mv,Mw,Mx,T3,T4,T5,T6,T7,T8,T9,U0,U1,U2,U3,U4,U5,U6,U7,U8,U9,V0,V1,V2,V3,V4,V5,V6,V7,V8,V9,W0,W1,W2,W3,W4,W5,W6,W7,W8,W9,X0,X1,X2,X3,X4,X5,X6,X7,X8,X9,Y0,Y1,Y2,Y3,Y4,Y5,Y6,Y7,Y8,Y9,Z0,Z1,Z2,Z3,Z4,Z5,Z6,Z7,Z8,Z9,j0,j1,j2,j3,j4,j5,j6,j7,j8,j9,o0,o1,o2,o3,o4,o5,o6,o7,o8,o9,y0,y1,y2,y3,y4,y5,y6,y7,y8,y9,z0,z1,z2,z3,z4,z5,z6,z7,z8,z9,x0,x1,x2,x3,x4,x5,x6,x7,x8,x9,i0,i1,i2,i3,i4,i5,i6,i7,i8,i9,d0,d1,d2,d3,d4,d5,d6,d7,d8,d9,e0,e1,e2,e3,e4,e5,e6,e7,e8,e9,f0,f1,f2,f3,f4,f5,f6,f7,f8,f9,p0,p1,p2,p3,p4,p5,p6,p7,p8,p9,v0,v1,v2,v3,v4,v5,v6,v7,v8], []⟩ w')) :
    Code.wp Tryz.prog (subC [true, true, true, true, false, true, false, false, true, false, true, true, true, true, true, true, true, false] (Tryz.f25.body.getD .skip)) Q0 ⟨#[A0,A1,A2,A3,A4,A5,A6,A7,A8,.slice (some ⟨rg, 0, none⟩) 8 8,B0,B1,B2,B3,.pointer (some ⟨pw, 0, none⟩),.func (.func 45) #[] #[.pointer (some ⟨pw, 0, none⟩)],B6,B7,.int .i64 (-1),.string ⟨#[]⟩,C0,C1,C2,C3,C4,C5,C6,C7,C8,C9,D0,D1,D2,D3,D4,D5,D6,D7,D8,D9,E0,E1,E2,E3,E4,E5,E6,E7,E8,E9,G0,G1,G2,G3,G4,G5,G6,G7,G8,G9,H0,H1,H2,H3,H4,H5,H6,H7,H8,H9,I0,I1,I2,I3,I4,I5,I6,I7,I8,I9,J0,J1,J2,J3,J4,J5,J6,J7,J8,J9,K0,K1,K2,K3,K4,K5,K6,K7,K8,K9,M0,M1,M2,M3,M4,M5,M6,M7,M8,M9,N0,N1,N2,N3,N4,N5,N6,N7,N8,N9,O0,O1,O2,O3,O4,O5,O6,O7,O8,O9,P0,P1,P2,P3,P4,P5,P6,P7,P8,P9,R0,R1,R2,R3,R4,R5,R6,R7,R8,R9,S0,S1,S2,S3,S4,S5,S6,S7,S8,S9,T0,T1,T2,T3,T4,T5,T6,T7,T8,T9,U0,U1,U2,U3,U4,U5,U6,U7,U8,U9,V0,V1,V2,V3,V4,V5,V6,V7,V8,V9,W0,W1,W2,W3,W4,W5,W6,W7,W8,W9,X0,X1,X2,X3,X4,X5,X6,X7,X8,X9,Y0,Y1,Y2,Y3,Y4,Y5,Y6,Y7,Y8,Y9,Z0,Z1,Z2,Z3,Z4,Z5,Z6,Z7,Z8,Z9,j0,j1,j2,j3,j4,j5,j6,j7,j8,j9,o0,o1,o2,o3,o4,o5,o6,o7,o8,o9,y0,y1,y2,y3,y4,y5,y6,y7,y8,y9,z0,z1,z2,z3,z4,z5,z6,z7,z8,z9,x0,x1,x2,x3,x4,x5,x6,x7,x8,x9,i0,i1,i2,i3,i4,i5,i6,i7,i8,i9,d0,d1,d2,d3,d4,d5,d6,d7,d8,d9,e0,e1,e2,e3,e4,e5,e6,e7,e8,e9,f0,f1,f2,f3,f4,f5,f6,f7,f8,f9,p0,p1,p2,p3,p4,p5,p6,p7,p8,p9,v0,v1,v2,v3,v4,v5,v6,v7,v8], []⟩ w := by
  have HR1 : Hid (Calls Tryz.prog 45 #[.int .i64 1, .pointer (some ⟨pw, 0, none⟩)] w fun e w' => e = .returned (.int .i64 (r : Int)) ∧ w' = w) := reg_call pw g 1 n cap s1 r w hpw (by omega) h1 hs1 hr1
  have HR2 : Hid (Calls Tryz.prog 45 #[.int .i64 2, .pointer (some ⟨pw, 0, none⟩)] w fun e w' => e = .returned (.int .i64 (q : Int)) ∧ w' = w) := reg_call pw g 2 n cap s2 q w hpw (by omega) h2 hs2 hr2
  have HD : Hid (Calls Tryz.prog 47 #[.int .i64 (t.size : Int)] w fun e w' => e = .returned (.string (szF t)) ∧ Hid (Below w.heap.size w w')) := DigitsOf_any t.size htz w
  have hni : (0 : Int) < (n : Int) := by omega
  have hqi : (q : Int) < 8 := by omega
  clear hn hs1 hr1 hs2 hr2 h1 h2
  generalize szF t = z at *
  conv => arg 2; whnf
  dsimp only
  go_wp2_with (first
    | (go_at_call 45; with_reducible refine HR1.out.mono ?_; rintro e w1 ⟨rfl, hw⟩; subst hw)
    | (go_at_call 45; with_reducible refine HR2.out.mono ?_; rintro e w1 ⟨rfl, hw⟩; subst hw)
    | (go_at_call 47; refine HD.out.mono ?_; rintro e w1 ⟨rfl, HB⟩)
    | go_in)
  apply HX.out; exact HB
end Go.Proofs.YtapiedeekbfpnaaGreatDoor

/- The document's RunCommand: words that its first switch does not name. -/
namespace Go.Proofs.YtapiedeekbfpnaaGreatDoor
open Go.RowKit Go.Shelf Go.Maps Go.WideMaps Go.Sort
variable {A0 A1 A2 A3 A4 A5 A6 A7 A8 A9 B0 B1 B2 B3 B4 B5 B6 B7 B8 B9 C0 C1 C2 C3 C4 C5 C6 C7 C8 C9 D0 D1 D2 D3 D4 D5 D6 D7 D8 D9 E0 E1 E2 E3 E4 E5 E6 E7 E8 E9 G0 G1 G2 G3 G4 G5 G6 G7 G8 G9 H0 H1 H2 H3 H4 H5 H6 H7 H8 H9 I0 I1 I2 I3 I4 I5 I6 I7 I8 I9 J0 J1 J2 J3 J4 J5 J6 J7 J8 J9 K0 K1 K2 K3 K4 K5 K6 K7 K8 K9 M0 M1 M2 M3 M4 M5 M6 M7 M8 M9 N0 N1 N2 N3 N4 N5 N6 N7 N8 N9 O0 O1 O2 O3 O4 O5 O6 O7 O8 O9 P0 P1 P2 P3 P4 P5 P6 P7 P8 P9 R0 R1 R2 R3 R4 R5 R6 R7 R8 R9 S0 S1 S2 S3 S4 S5 S6 S7 S8 S9 T0 T1 T2 T3 T4 T5 T6 T7 T8 T9 U0 U1 U2 U3 U4 U5 U6 U7 U8 U9 V0 V1 V2 V3 V4 V5 V6 V7 V8 V9 W0 W1 W2 W3 W4 W5 W6 W7 W8 W9 X0 X1 X2 X3 X4 X5 X6 X7 X8 X9 Y0 Y1 Y2 Y3 Y4 Y5 Y6 Y7 Y8 Y9 Z0 Z1 Z2 Z3 Z4 Z5 Z6 Z7 Z8 Z9 j0 j1 j2 j3 j4 j5 j6 j7 j8 j9 o0 o1 o2 o3 o4 o5 o6 o7 o8 o9 y0 y1 y2 y3 y4 y5 y6 y7 y8 y9 z0 z1 z2 z3 z4 z5 z6 z7 z8 z9 x0 x1 x2 x3 x4 x5 x6 x7 x8 x9 i0 i1 i2 i3 i4 i5 i6 i7 i8 i9 d0 d1 d2 d3 d4 d5 d6 d7 d8 d9 e0 e1 e2 e3 e4 e5 e6 e7 e8 e9 f0 f1 f2 f3 f4 f5 f6 f7 f8 f9 p0 p1 p2 p3 p4 p5 p6 p7 p8 p9 v0 v1 v2 v3 v4 v5 v6 v7 v8 : Value}

set_option maxHeartbeats 8000000 in
set_option maxRecDepth 100000 in
theorem gotoW (pw g n cap : Nat) (w : World) (hpw : w.cell? ⟨pw, 0, none⟩ = some (.slice (some ⟨g, 0, none⟩) n cap)) (hn : 0 < n) (h0 : w.cell? ⟨g, 0, none⟩ = some (.string ⟨#[103, 111, 116, 111]⟩)) (Q0 : Exit → Act → World → Prop)
    (HX : Hid (∀ (Cx Cy Cz Db Dc Dk Dm Em Eq Hx Hy Ix Iy Mf Mg My Mz Nq Nt Nv : Value), Q0 .normal ⟨#[A0,A1,A2,A3,A4,A5,A6,A7,A8,A9,B0,B1,B2,B3,.pointer (some ⟨pw, 0, none⟩),B5,B6,B7,B8,B9,C0,C1,C2,C3,C4,C5,C6,C7,C8,C9,D0,D1,D2,D3,D4,D5,D6,D7,D8,D9,E0,E1,Cx,Cy,Cz,Db,Dc,E7,E8,E9,G0,Dk,Dm,G3,G4,G5,G6,G7,G8,G9,H0,H1,H2,H3,H4,H5,H6,Em,Eq,H9,I0,I1,I2,I3,I4,I5,I6,I7,I8,I9,J0,J1,J2,J3,J4,J5,J6,J7,J8,J9,K0,K1,K2,K3,K4,K5,K6,K7,K8,K9,M0,M1,Hx,Hy,M4,M5,M6,M7,M8,M9,N0,N1,N2,N3,N4,N5,N6,Ix,Iy,N9,O0,O1,O2,O3,O4,O5,O6,O7,O8,O9,P0,P1,P2,P3,P4,P5,P6,P7,P8,P9,R0,R1,R2,R3,R4,R5,R6,R7,R8,R9,S0,S1,Mf,Mg,S4,S5,S6,S7,S8,S9,T0,T1,T2,My,Mz,T5,T6,T7,T8,T9,U0,U1,U2,Nq,Nt,Nv,U6,U7,U8,U9,V0,V1,V2,V3,V4,V5,V6,V7,V8,V9,W0,W1,W2,W3,W4,W5,W6,W7,W8,W9,X0,X1,X2,X3,X4,X5,X6,X7,X8,X9,Y0,Y1,Y2,Y3,Y4,Y5,Y6,Y7,Y8,Y9,Z0,Z1,Z2,Z3,Z4,Z5,Z6,Z7,Z8,Z9,j0,j1,j2,j3,j4,j5,j6,j7,j8,j9,o0,o1,o2,o3,o4,o5,o6,o7,o8,o9,y0,y1,y2,y3,y4,y5,y6,y7,y8,y9,z0,z1,z2,z3,z4,z5,z6,z7,z8,z9,x0,x1,x2,x3,x4,x5,x6,x7,x8,x9,i0,i1,i2,i3,i4,i5,i6,i7,i8,i9,d0,d1,d2,d3,d4,d5,d6,d7,d8,d9,e0,e1,e2,e3,e4,e5,e6,e7,e8,e9,f0,f1,f2,f3,f4,f5,f6,f7,f8,f9,p0,p1,p2,p3,p4,p5,p6,p7,p8,p9,v0,v1,v2,v3,v4,v5,v6,v7,v8], []⟩ w)) :
    Code.wp Tryz.prog (subC [true, true, true, true, false, true, false, false, true, false, true, true, true, true, true, true, true, false] (Tryz.f25.body.getD .skip)) Q0 ⟨#[A0,A1,A2,A3,A4,A5,A6,A7,A8,A9,B0,B1,B2,B3,.pointer (some ⟨pw, 0, none⟩),B5,B6,B7,B8,B9,C0,C1,C2,C3,C4,C5,C6,C7,C8,C9,D0,D1,D2,D3,D4,D5,D6,D7,D8,D9,E0,E1,E2,E3,E4,E5,E6,E7,E8,E9,G0,G1,G2,G3,G4,G5,G6,G7,G8,G9,H0,H1,H2,H3,H4,H5,H6,H7,H8,H9,I0,I1,I2,I3,I4,I5,I6,I7,I8,I9,J0,J1,J2,J3,J4,J5,J6,J7,J8,J9,K0,K1,K2,K3,K4,K5,K6,K7,K8,K9,M0,M1,M2,M3,M4,M5,M6,M7,M8,M9,N0,N1,N2,N3,N4,N5,N6,N7,N8,N9,O0,O1,O2,O3,O4,O5,O6,O7,O8,O9,P0,P1,P2,P3,P4,P5,P6,P7,P8,P9,R0,R1,R2,R3,R4,R5,R6,R7,R8,R9,S0,S1,S2,S3,S4,S5,S6,S7,S8,S9,T0,T1,T2,T3,T4,T5,T6,T7,T8,T9,U0,U1,U2,U3,U4,U5,U6,U7,U8,U9,V0,V1,V2,V3,V4,V5,V6,V7,V8,V9,W0,W1,W2,W3,W4,W5,W6,W7,W8,W9,X0,X1,X2,X3,X4,X5,X6,X7,X8,X9,Y0,Y1,Y2,Y3,Y4,Y5,Y6,Y7,Y8,Y9,Z0,Z1,Z2,Z3,Z4,Z5,Z6,Z7,Z8,Z9,j0,j1,j2,j3,j4,j5,j6,j7,j8,j9,o0,o1,o2,o3,o4,o5,o6,o7,o8,o9,y0,y1,y2,y3,y4,y5,y6,y7,y8,y9,z0,z1,z2,z3,z4,z5,z6,z7,z8,z9,x0,x1,x2,x3,x4,x5,x6,x7,x8,x9,i0,i1,i2,i3,i4,i5,i6,i7,i8,i9,d0,d1,d2,d3,d4,d5,d6,d7,d8,d9,e0,e1,e2,e3,e4,e5,e6,e7,e8,e9,f0,f1,f2,f3,f4,f5,f6,f7,f8,f9,p0,p1,p2,p3,p4,p5,p6,p7,p8,p9,v0,v1,v2,v3,v4,v5,v6,v7,v8], []⟩ w := by
  have hni : (0 : Int) < (n : Int) := by omega
  clear hn
  conv => arg 2; whnf
  dsimp only
  go_wp2
  apply HX.out

set_option maxHeartbeats 8000000 in
set_option maxRecDepth 100000 in
theorem sameW (pw g n cap : Nat) (w : World) (hpw : w.cell? ⟨pw, 0, none⟩ = some (.slice (some ⟨g, 0, none⟩) n cap)) (hn : 0 < n) (h0 : w.cell? ⟨g, 0, none⟩ = some (.string ⟨#[115, 97, 109, 101]⟩)) (Q0 : Exit → Act → World → Prop)
    (HX : Hid (∀ (Cx Cy Cz Db Dc Dk Dm Em Eq Hx Hy Ix Iy Mf Mg My Mz Nq Nt Nv : Value), Q0 .normal ⟨#[A0,A1,A2,A3,A4,A5,A6,A7,A8,A9,B0,B1,B2,B3,.pointer (some ⟨pw, 0, none⟩),B5,B6,B7,B8,B9,C0,C1,C2,C3,C4,C5,C6,C7,C8,C9,D0,D1,D2,D3,D4,D5,D6,D7,D8,D9,E0,E1,Cx,Cy,Cz,Db,Dc,E7,E8,E9,G0,Dk,Dm,G3,G4,G5,G6,G7,G8,G9,H0,H1,H2,H3,H4,H5,H6,Em,Eq,H9,I0,I1,I2,I3,I4,I5,I6,I7,I8,I9,J0,J1,J2,J3,J4,J5,J6,J7,J8,J9,K0,K1,K2,K3,K4,K5,K6,K7,K8,K9,M0,M1,Hx,Hy,M4,M5,M6,M7,M8,M9,N0,N1,N2,N3,N4,N5,N6,Ix,Iy,N9,O0,O1,O2,O3,O4,O5,O6,O7,O8,O9,P0,P1,P2,P3,P4,P5,P6,P7,P8,P9,R0,R1,R2,R3,R4,R5,R6,R7,R8,R9,S0,S1,Mf,Mg,S4,S5,S6,S7,S8,S9,T0,T1,T2,My,Mz,T5,T6,T7,T8,T9,U0,U1,U2,Nq,Nt,Nv,U6,U7,U8,U9,V0,V1,V2,V3,V4,V5,V6,V7,V8,V9,W0,W1,W2,W3,W4,W5,W6,W7,W8,W9,X0,X1,X2,X3,X4,X5,X6,X7,X8,X9,Y0,Y1,Y2,Y3,Y4,Y5,Y6,Y7,Y8,Y9,Z0,Z1,Z2,Z3,Z4,Z5,Z6,Z7,Z8,Z9,j0,j1,j2,j3,j4,j5,j6,j7,j8,j9,o0,o1,o2,o3,o4,o5,o6,o7,o8,o9,y0,y1,y2,y3,y4,y5,y6,y7,y8,y9,z0,z1,z2,z3,z4,z5,z6,z7,z8,z9,x0,x1,x2,x3,x4,x5,x6,x7,x8,x9,i0,i1,i2,i3,i4,i5,i6,i7,i8,i9,d0,d1,d2,d3,d4,d5,d6,d7,d8,d9,e0,e1,e2,e3,e4,e5,e6,e7,e8,e9,f0,f1,f2,f3,f4,f5,f6,f7,f8,f9,p0,p1,p2,p3,p4,p5,p6,p7,p8,p9,v0,v1,v2,v3,v4,v5,v6,v7,v8], []⟩ w)) :
    Code.wp Tryz.prog (subC [true, true, true, true, false, true, false, false, true, false, true, true, true, true, true, true, true, false] (Tryz.f25.body.getD .skip)) Q0 ⟨#[A0,A1,A2,A3,A4,A5,A6,A7,A8,A9,B0,B1,B2,B3,.pointer (some ⟨pw, 0, none⟩),B5,B6,B7,B8,B9,C0,C1,C2,C3,C4,C5,C6,C7,C8,C9,D0,D1,D2,D3,D4,D5,D6,D7,D8,D9,E0,E1,E2,E3,E4,E5,E6,E7,E8,E9,G0,G1,G2,G3,G4,G5,G6,G7,G8,G9,H0,H1,H2,H3,H4,H5,H6,H7,H8,H9,I0,I1,I2,I3,I4,I5,I6,I7,I8,I9,J0,J1,J2,J3,J4,J5,J6,J7,J8,J9,K0,K1,K2,K3,K4,K5,K6,K7,K8,K9,M0,M1,M2,M3,M4,M5,M6,M7,M8,M9,N0,N1,N2,N3,N4,N5,N6,N7,N8,N9,O0,O1,O2,O3,O4,O5,O6,O7,O8,O9,P0,P1,P2,P3,P4,P5,P6,P7,P8,P9,R0,R1,R2,R3,R4,R5,R6,R7,R8,R9,S0,S1,S2,S3,S4,S5,S6,S7,S8,S9,T0,T1,T2,T3,T4,T5,T6,T7,T8,T9,U0,U1,U2,U3,U4,U5,U6,U7,U8,U9,V0,V1,V2,V3,V4,V5,V6,V7,V8,V9,W0,W1,W2,W3,W4,W5,W6,W7,W8,W9,X0,X1,X2,X3,X4,X5,X6,X7,X8,X9,Y0,Y1,Y2,Y3,Y4,Y5,Y6,Y7,Y8,Y9,Z0,Z1,Z2,Z3,Z4,Z5,Z6,Z7,Z8,Z9,j0,j1,j2,j3,j4,j5,j6,j7,j8,j9,o0,o1,o2,o3,o4,o5,o6,o7,o8,o9,y0,y1,y2,y3,y4,y5,y6,y7,y8,y9,z0,z1,z2,z3,z4,z5,z6,z7,z8,z9,x0,x1,x2,x3,x4,x5,x6,x7,x8,x9,i0,i1,i2,i3,i4,i5,i6,i7,i8,i9,d0,d1,d2,d3,d4,d5,d6,d7,d8,d9,e0,e1,e2,e3,e4,e5,e6,e7,e8,e9,f0,f1,f2,f3,f4,f5,f6,f7,f8,f9,p0,p1,p2,p3,p4,p5,p6,p7,p8,p9,v0,v1,v2,v3,v4,v5,v6,v7,v8], []⟩ w := by
  have hni : (0 : Int) < (n : Int) := by omega
  clear hn
  conv => arg 2; whnf
  dsimp only
  go_wp2
  apply HX.out

set_option maxHeartbeats 8000000 in
set_option maxRecDepth 100000 in
theorem lessW (pw g n cap : Nat) (w : World) (hpw : w.cell? ⟨pw, 0, none⟩ = some (.slice (some ⟨g, 0, none⟩) n cap)) (hn : 0 < n) (h0 : w.cell? ⟨g, 0, none⟩ = some (.string ⟨#[108, 101, 115, 115]⟩)) (Q0 : Exit → Act → World → Prop)
    (HX : Hid (∀ (Cx Cy Cz Db Dc Dk Dm Em Eq Hx Hy Ix Iy Mf Mg My Mz Nq Nt Nv : Value), Q0 .normal ⟨#[A0,A1,A2,A3,A4,A5,A6,A7,A8,A9,B0,B1,B2,B3,.pointer (some ⟨pw, 0, none⟩),B5,B6,B7,B8,B9,C0,C1,C2,C3,C4,C5,C6,C7,C8,C9,D0,D1,D2,D3,D4,D5,D6,D7,D8,D9,E0,E1,Cx,Cy,Cz,Db,Dc,E7,E8,E9,G0,Dk,Dm,G3,G4,G5,G6,G7,G8,G9,H0,H1,H2,H3,H4,H5,H6,Em,Eq,H9,I0,I1,I2,I3,I4,I5,I6,I7,I8,I9,J0,J1,J2,J3,J4,J5,J6,J7,J8,J9,K0,K1,K2,K3,K4,K5,K6,K7,K8,K9,M0,M1,Hx,Hy,M4,M5,M6,M7,M8,M9,N0,N1,N2,N3,N4,N5,N6,Ix,Iy,N9,O0,O1,O2,O3,O4,O5,O6,O7,O8,O9,P0,P1,P2,P3,P4,P5,P6,P7,P8,P9,R0,R1,R2,R3,R4,R5,R6,R7,R8,R9,S0,S1,Mf,Mg,S4,S5,S6,S7,S8,S9,T0,T1,T2,My,Mz,T5,T6,T7,T8,T9,U0,U1,U2,Nq,Nt,Nv,U6,U7,U8,U9,V0,V1,V2,V3,V4,V5,V6,V7,V8,V9,W0,W1,W2,W3,W4,W5,W6,W7,W8,W9,X0,X1,X2,X3,X4,X5,X6,X7,X8,X9,Y0,Y1,Y2,Y3,Y4,Y5,Y6,Y7,Y8,Y9,Z0,Z1,Z2,Z3,Z4,Z5,Z6,Z7,Z8,Z9,j0,j1,j2,j3,j4,j5,j6,j7,j8,j9,o0,o1,o2,o3,o4,o5,o6,o7,o8,o9,y0,y1,y2,y3,y4,y5,y6,y7,y8,y9,z0,z1,z2,z3,z4,z5,z6,z7,z8,z9,x0,x1,x2,x3,x4,x5,x6,x7,x8,x9,i0,i1,i2,i3,i4,i5,i6,i7,i8,i9,d0,d1,d2,d3,d4,d5,d6,d7,d8,d9,e0,e1,e2,e3,e4,e5,e6,e7,e8,e9,f0,f1,f2,f3,f4,f5,f6,f7,f8,f9,p0,p1,p2,p3,p4,p5,p6,p7,p8,p9,v0,v1,v2,v3,v4,v5,v6,v7,v8], []⟩ w)) :
    Code.wp Tryz.prog (subC [true, true, true, true, false, true, false, false, true, false, true, true, true, true, true, true, true, false] (Tryz.f25.body.getD .skip)) Q0 ⟨#[A0,A1,A2,A3,A4,A5,A6,A7,A8,A9,B0,B1,B2,B3,.pointer (some ⟨pw, 0, none⟩),B5,B6,B7,B8,B9,C0,C1,C2,C3,C4,C5,C6,C7,C8,C9,D0,D1,D2,D3,D4,D5,D6,D7,D8,D9,E0,E1,E2,E3,E4,E5,E6,E7,E8,E9,G0,G1,G2,G3,G4,G5,G6,G7,G8,G9,H0,H1,H2,H3,H4,H5,H6,H7,H8,H9,I0,I1,I2,I3,I4,I5,I6,I7,I8,I9,J0,J1,J2,J3,J4,J5,J6,J7,J8,J9,K0,K1,K2,K3,K4,K5,K6,K7,K8,K9,M0,M1,M2,M3,M4,M5,M6,M7,M8,M9,N0,N1,N2,N3,N4,N5,N6,N7,N8,N9,O0,O1,O2,O3,O4,O5,O6,O7,O8,O9,P0,P1,P2,P3,P4,P5,P6,P7,P8,P9,R0,R1,R2,R3,R4,R5,R6,R7,R8,R9,S0,S1,S2,S3,S4,S5,S6,S7,S8,S9,T0,T1,T2,T3,T4,T5,T6,T7,T8,T9,U0,U1,U2,U3,U4,U5,U6,U7,U8,U9,V0,V1,V2,V3,V4,V5,V6,V7,V8,V9,W0,W1,W2,W3,W4,W5,W6,W7,W8,W9,X0,X1,X2,X3,X4,X5,X6,X7,X8,X9,Y0,Y1,Y2,Y3,Y4,Y5,Y6,Y7,Y8,Y9,Z0,Z1,Z2,Z3,Z4,Z5,Z6,Z7,Z8,Z9,j0,j1,j2,j3,j4,j5,j6,j7,j8,j9,o0,o1,o2,o3,o4,o5,o6,o7,o8,o9,y0,y1,y2,y3,y4,y5,y6,y7,y8,y9,z0,z1,z2,z3,z4,z5,z6,z7,z8,z9,x0,x1,x2,x3,x4,x5,x6,x7,x8,x9,i0,i1,i2,i3,i4,i5,i6,i7,i8,i9,d0,d1,d2,d3,d4,d5,d6,d7,d8,d9,e0,e1,e2,e3,e4,e5,e6,e7,e8,e9,f0,f1,f2,f3,f4,f5,f6,f7,f8,f9,p0,p1,p2,p3,p4,p5,p6,p7,p8,p9,v0,v1,v2,v3,v4,v5,v6,v7,v8], []⟩ w := by
  have hni : (0 : Int) < (n : Int) := by omega
  clear hn
  conv => arg 2; whnf
  dsimp only
  go_wp2
  apply HX.out

set_option maxHeartbeats 8000000 in
set_option maxRecDepth 100000 in
theorem exitW (pw g n cap : Nat) (w : World) (hpw : w.cell? ⟨pw, 0, none⟩ = some (.slice (some ⟨g, 0, none⟩) n cap)) (hn : 0 < n) (h0 : w.cell? ⟨g, 0, none⟩ = some (.string ⟨#[101, 120, 105, 116]⟩)) (Q0 : Exit → Act → World → Prop)
    (HX : Hid (∀ (Cx Cy Cz Db Dc Dk Dm Em Eq Hx Hy Ix Iy Mf Mg My Mz Nq Nt Nv : Value), Q0 .normal ⟨#[A0,A1,A2,A3,A4,A5,A6,A7,A8,A9,B0,B1,B2,B3,.pointer (some ⟨pw, 0, none⟩),B5,B6,B7,B8,B9,C0,C1,C2,C3,C4,C5,C6,C7,C8,C9,D0,D1,D2,D3,D4,D5,D6,D7,D8,D9,E0,E1,Cx,Cy,Cz,Db,Dc,E7,E8,E9,G0,Dk,Dm,G3,G4,G5,G6,G7,G8,G9,H0,H1,H2,H3,H4,H5,H6,Em,Eq,H9,I0,I1,I2,I3,I4,I5,I6,I7,I8,I9,J0,J1,J2,J3,J4,J5,J6,J7,J8,J9,K0,K1,K2,K3,K4,K5,K6,K7,K8,K9,M0,M1,Hx,Hy,M4,M5,M6,M7,M8,M9,N0,N1,N2,N3,N4,N5,N6,Ix,Iy,N9,O0,O1,O2,O3,O4,O5,O6,O7,O8,O9,P0,P1,P2,P3,P4,P5,P6,P7,P8,P9,R0,R1,R2,R3,R4,R5,R6,R7,R8,R9,S0,S1,Mf,Mg,S4,S5,S6,S7,S8,S9,T0,T1,T2,My,Mz,T5,T6,T7,T8,T9,U0,U1,U2,Nq,Nt,Nv,U6,U7,U8,U9,V0,V1,V2,V3,V4,V5,V6,V7,V8,V9,W0,W1,W2,W3,W4,W5,W6,W7,W8,W9,X0,X1,X2,X3,X4,X5,X6,X7,X8,X9,Y0,Y1,Y2,Y3,Y4,Y5,Y6,Y7,Y8,Y9,Z0,Z1,Z2,Z3,Z4,Z5,Z6,Z7,Z8,Z9,j0,j1,j2,j3,j4,j5,j6,j7,j8,j9,o0,o1,o2,o3,o4,o5,o6,o7,o8,o9,y0,y1,y2,y3,y4,y5,y6,y7,y8,y9,z0,z1,z2,z3,z4,z5,z6,z7,z8,z9,x0,x1,x2,x3,x4,x5,x6,x7,x8,x9,i0,i1,i2,i3,i4,i5,i6,i7,i8,i9,d0,d1,d2,d3,d4,d5,d6,d7,d8,d9,e0,e1,e2,e3,e4,e5,e6,e7,e8,e9,f0,f1,f2,f3,f4,f5,f6,f7,f8,f9,p0,p1,p2,p3,p4,p5,p6,p7,p8,p9,v0,v1,v2,v3,v4,v5,v6,v7,v8], []⟩ w)) :
    Code.wp Tryz.prog (subC [true, true, true, true, false, true, false, false, true, false, true, true, true, true, true, true, true, false] (Tryz.f25.body.getD .skip)) Q0 ⟨#[A0,A1,A2,A3,A4,A5,A6,A7,A8,A9,B0,B1,B2,B3,.pointer (some ⟨pw, 0, none⟩),B5,B6,B7,B8,B9,C0,C1,C2,C3,C4,C5,C6,C7,C8,C9,D0,D1,D2,D3,D4,D5,D6,D7,D8,D9,E0,E1,E2,E3,E4,E5,E6,E7,E8,E9,G0,G1,G2,G3,G4,G5,G6,G7,G8,G9,H0,H1,H2,H3,H4,H5,H6,H7,H8,H9,I0,I1,I2,I3,I4,I5,I6,I7,I8,I9,J0,J1,J2,J3,J4,J5,J6,J7,J8,J9,K0,K1,K2,K3,K4,K5,K6,K7,K8,K9,M0,M1,M2,M3,M4,M5,M6,M7,M8,M9,N0,N1,N2,N3,N4,N5,N6,N7,N8,N9,O0,O1,O2,O3,O4,O5,O6,O7,O8,O9,P0,P1,P2,P3,P4,P5,P6,P7,P8,P9,R0,R1,R2,R3,R4,R5,R6,R7,R8,R9,S0,S1,S2,S3,S4,S5,S6,S7,S8,S9,T0,T1,T2,T3,T4,T5,T6,T7,T8,T9,U0,U1,U2,U3,U4,U5,U6,U7,U8,U9,V0,V1,V2,V3,V4,V5,V6,V7,V8,V9,W0,W1,W2,W3,W4,W5,W6,W7,W8,W9,X0,X1,X2,X3,X4,X5,X6,X7,X8,X9,Y0,Y1,Y2,Y3,Y4,Y5,Y6,Y7,Y8,Y9,Z0,Z1,Z2,Z3,Z4,Z5,Z6,Z7,Z8,Z9,j0,j1,j2,j3,j4,j5,j6,j7,j8,j9,o0,o1,o2,o3,o4,o5,o6,o7,o8,o9,y0,y1,y2,y3,y4,y5,y6,y7,y8,y9,z0,z1,z2,z3,z4,z5,z6,z7,z8,z9,x0,x1,x2,x3,x4,x5,x6,x7,x8,x9,i0,i1,i2,i3,i4,i5,i6,i7,i8,i9,d0,d1,d2,d3,d4,d5,d6,d7,d8,d9,e0,e1,e2,e3,e4,e5,e6,e7,e8,e9,f0,f1,f2,f3,f4,f5,f6,f7,f8,f9,p0,p1,p2,p3,p4,p5,p6,p7,p8,p9,v0,v1,v2,v3,v4,v5,v6,v7,v8], []⟩ w := by
  have hni : (0 : Int) < (n : Int) := by omega
  clear hn
  conv => arg 2; whnf
  dsimp only
  go_wp2
  apply HX.out
end Go.Proofs.YtapiedeekbfpnaaGreatDoor

/- The document's RunCommand: what it does at 'list', 'cut', 'size', and at words that its first switch does not name. -/
namespace Go.Proofs.YtapiedeekbfpnaaGreatDoor
open Go.RowKit Go.Shelf Go.Maps Go.WideMaps Go.Sort
variable {A0 A1 A2 A3 A4 A5 A6 A7 A8 A9 B0 B1 B2 B3 B4 B5 B6 B7 B8 B9 C0 C1 C2 C3 C4 C5 C6 C7 C8 C9 D0 D1 D2 D3 D4 D5 D6 D7 D8 D9 E0 E1 E2 E3 E4 E5 E6 E7 E8 E9 G0 G1 G2 G3 G4 G5 G6 G7 G8 G9 H0 H1 H2 H3 H4 H5 H6 H7 H8 H9 I0 I1 I2 I3 I4 I5 I6 I7 I8 I9 J0 J1 J2 J3 J4 J5 J6 J7 J8 J9 K0 K1 K2 K3 K4 K5 K6 K7 K8 K9 M0 M1 M2 M3 M4 M5 M6 M7 M8 M9 N0 N1 N2 N3 N4 N5 N6 N7 N8 N9 O0 O1 O2 O3 O4 O5 O6 O7 O8 O9 P0 P1 P2 P3 P4 P5 P6 P7 P8 P9 R0 R1 R2 R3 R4 R5 R6 R7 R8 R9 S0 S1 S2 S3 S4 S5 S6 S7 S8 S9 T0 T1 T2 T3 T4 T5 T6 T7 T8 T9 U0 U1 U2 U3 U4 U5 U6 U7 U8 U9 V0 V1 V2 V3 V4 V5 V6 V7 V8 V9 W0 W1 W2 W3 W4 W5 W6 W7 W8 W9 X0 X1 X2 X3 X4 X5 X6 X7 X8 X9 Y0 Y1 Y2 Y3 Y4 Y5 Y6 Y7 Y8 Y9 Z0 Z1 Z2 Z3 Z4 Z5 Z6 Z7 Z8 Z9 j0 j1 j2 j3 j4 j5 j6 j7 j8 j9 o0 o1 o2 o3 o4 o5 o6 o7 o8 o9 y0 y1 y2 y3 y4 y5 y6 y7 y8 y9 z0 z1 z2 z3 z4 z5 z6 z7 z8 z9 x0 x1 x2 x3 x4 x5 x6 x7 x8 x9 i0 i1 i2 i3 i4 i5 i6 i7 i8 i9 d0 d1 d2 d3 d4 d5 d6 d7 d8 d9 e0 e1 e2 e3 e4 e5 e6 e7 e8 e9 f0 f1 f2 f3 f4 f5 f6 f7 f8 f9 p0 p1 p2 p3 p4 p5 p6 p7 p8 p9 v0 v1 v2 v3 v4 v5 v6 v7 v8 : Value}

set_option maxHeartbeats 8000000 in
set_option maxRecDepth 100000 in
theorem listW (pw g n cap rg : Nat) (r ac : Nat) (ao : Option Addr) (F : List Fl) (s1 s2 : ByteArray) (w : World) (hpw : w.cell? ⟨pw, 0, none⟩ = some (.slice (some ⟨g, 0, none⟩) n cap)) (h0 : w.cell? ⟨g, 0, none⟩ = some (.string ⟨#[108, 105, 115, 116]⟩)) (hn : 2 < n) (h1 : w.cell? ⟨g, 1, none⟩ = some (.string s1)) (hs1 : 0 < s1.size) (hr1 : s1[0].toNat = 97 + r) (h2 : w.cell? ⟨g, 2, none⟩ = some (.string s2)) (hF : IsFl w ao F) (hlf : F.length ≤ 1000) (hpa : ∀ f ∈ F, f.pa.size ≤ 100) (Q0 : Exit → Act → World → Prop)
    (HX : Hid (∀ (Bk Bm Bq Bt Cx Cy Cz Db Dc Df Dg Dh Dj Dk Dm Dq Dt Dv Dw Dx Dy Dz Eb Ec Ef Eg Eh Ej Ek Em Eq Et Ev Ew Ex Ey Ez Gb Gc Gf Gg Gh Gj Gk Gm Gq Gt Gv Gw Gx Gy Gz Hb Hc Hf Hg Hh Hj Hk Hm Hq Ht Hv Hw Hx Hy Hz Ib Ic If Ig Ih Ij Ik Im Iq It Iv Iw Ix Iy Iz Jb Jc Jf Jg Jh Jj Jk Jm Jq Jt Jv Jw Jx Jy Jz Kb Kc Kf Kg Kh Kj Kk Km Kq Kt Kv Kw Kx Ky Kz Mb Mc Mf Mg Mh Mj Mk Mm Mq Mt Mv Mw Mx My Mz Nb Nc Nf Ng Nh Nj Nk Nm Nq Nt Nv Nw Nx Ny Nz Ob Oc Of Og Oh Oj Ok Om Oq Ot Ov Ow Ox Oy Oz Pb Pc Pf Pg Ph Pj Pk Pm Pq Pt Pv Pw Px Py Pz Rb Rc Rf Rg Rh : Value) (w' : World), Hid (Below w.heap.size w w') → Q0 .normal ⟨#[.slice ao F.length ac,A1,A2,A3,A4,A5,A6,A7,A8,.slice (some ⟨rg, 0, none⟩) 8 8,B0,B1,B2,B3,.pointer (some ⟨pw, 0, none⟩),.func (.func 45) #[] #[.pointer (some ⟨pw, 0, none⟩)],B6,.int .i64 0,.int .i64 (r : Int),.string (lstF F s2),.string ⟨#[]⟩,Bk,Bm,Bq,Bt,C5,C6,C7,C8,C9,D0,D1,D2,D3,D4,D5,D6,D7,D8,D9,E0,E1,Cx,Cy,Cz,Db,Dc,Df,Dg,Dh,Dj,Dk,Dm,Dq,Dt,Dv,Dw,Dx,Dy,Dz,Eb,Ec,Ef,Eg,Eh,Ej,Ek,Em,Eq,Et,Ev,Ew,Ex,Ey,Ez,Gb,Gc,Gf,Gg,Gh,Gj,Gk,Gm,Gq,Gt,Gv,Gw,Gx,Gy,Gz,Hb,Hc,Hf,Hg,Hh,Hj,Hk,Hm,Hq,Ht,Hv,Hw,Hx,Hy,Hz,Ib,Ic,If,Ig,Ih,Ij,Ik,Im,Iq,It,Iv,Iw,Ix,Iy,Iz,Jb,Jc,Jf,Jg,Jh,Jj,Jk,Jm,Jq,Jt,Jv,Jw,Jx,Jy,Jz,Kb,Kc,Kf,Kg,Kh,Kj,Kk,Km,Kq,Kt,Kv,Kw,Kx,Ky,Kz,Mb,Mc,Mf,Mg,Mh,Mj,Mk,Mm,Mq,Mt,Mv,Mw,Mx,My,Mz,Nb,Nc,Nf,Ng,Nh,Nj,Nk,Nm,Nq,Nt,Nv,Nw,Nx,Ny,Nz,Ob,Oc,Of,Og,Oh,Oj,Ok,Om,Oq,Ot,Ov,Ow,Ox,Oy,Oz,Pb,Pc,Pf,Pg,Ph,Pj,Pk,Pm,Pq,Pt,Pv,Pw,Px,Py,Pz,Rb,Rc,Rf,Rg,Rh,Y5,Y6,Y7,Y8,Y9,Z0,Z1,Z2,Z3,Z4,Z5,Z6,Z7,Z8,Z9,j0,j1,j2,j3,j4,j5,j6,j7,j8,j9,o0,o1,o2,o3,o4,o5,o6,o7,o8,o9,y0,y1,y2,y3,y4,y5,y6,y7,y8,y9,z0,z1,z2,z3,z4,z5,z6,z7,z8,z9,x0,x1,x2,x3,x4,x5,x6,x7,x8,x9,i0,i1,i2,i3,i4,i5,i6,i7,i8,i9,d0,d1,d2,d3,d4,d5,d6,d7,d8,d9,e0,e1,e2,e3,e4,e5,e6,e7,e8,e9,f0,f1,f2,f3,f4,f5,f6,f7,f8,f9,p0,p1,p2,p3,p4,p5,p6,p7,p8,p9,v0,v1,v2,v3,v4,v5,v6,v7,v8], []⟩ w')) :
    Code.wp Tryz.prog (subC [true, true, true, true, false, true, false, false, true, false, true, true, true, true, true, true, true, false] (Tryz.f25.body.getD .skip)) Q0 ⟨#[.slice ao F.length ac,A1,A2,A3,A4,A5,A6,A7,A8,.slice (some ⟨rg, 0, none⟩) 8 8,B0,B1,B2,B3,.pointer (some ⟨pw, 0, none⟩),.func (.func 45) #[] #[.pointer (some ⟨pw, 0, none⟩)],B6,.int .i64 0,.int .i64 (-1),.string ⟨#[]⟩,.string ⟨#[]⟩,C1,C2,C3,C4,C5,C6,C7,C8,C9,D0,D1,D2,D3,D4,D5,D6,D7,D8,D9,E0,E1,E2,E3,E4,E5,E6,E7,E8,E9,G0,G1,G2,G3,G4,G5,G6,G7,G8,G9,H0,H1,H2,H3,H4,H5,H6,H7,H8,H9,I0,I1,I2,I3,I4,I5,I6,I7,I8,I9,J0,J1,J2,J3,J4,J5,J6,J7,J8,J9,K0,K1,K2,K3,K4,K5,K6,K7,K8,K9,M0,M1,M2,M3,M4,M5,M6,M7,M8,M9,N0,N1,N2,N3,N4,N5,N6,N7,N8,N9,O0,O1,O2,O3,O4,O5,O6,O7,O8,O9,P0,P1,P2,P3,P4,P5,P6,P7,P8,P9,R0,R1,R2,R3,R4,R5,R6,R7,R8,R9,S0,S1,S2,S3,S4,S5,S6,S7,S8,S9,T0,T1,T2,T3,T4,T5,T6,T7,T8,T9,U0,U1,U2,U3,U4,U5,U6,U7,U8,U9,V0,V1,V2,V3,V4,V5,V6,V7,V8,V9,W0,W1,W2,W3,W4,W5,W6,W7,W8,W9,X0,X1,X2,X3,X4,X5,X6,X7,X8,X9,Y0,Y1,Y2,Y3,Y4,Y5,Y6,Y7,Y8,Y9,Z0,Z1,Z2,Z3,Z4,Z5,Z6,Z7,Z8,Z9,j0,j1,j2,j3,j4,j5,j6,j7,j8,j9,o0,o1,o2,o3,o4,o5,o6,o7,o8,o9,y0,y1,y2,y3,y4,y5,y6,y7,y8,y9,z0,z1,z2,z3,z4,z5,z6,z7,z8,z9,x0,x1,x2,x3,x4,x5,x6,x7,x8,x9,i0,i1,i2,i3,i4,i5,i6,i7,i8,i9,d0,d1,d2,d3,d4,d5,d6,d7,d8,d9,e0,e1,e2,e3,e4,e5,e6,e7,e8,e9,f0,f1,f2,f3,f4,f5,f6,f7,f8,f9,p0,p1,p2,p3,p4,p5,p6,p7,p8,p9,v0,v1,v2,v3,v4,v5,v6,v7,v8], []⟩ w := by
  have HR1 : Hid (∀ W : World, W.heap = w.heap → Calls Tryz.prog 45 #[.int .i64 1, .pointer (some ⟨pw, 0, none⟩)] W fun e w' => e = .returned (.int .i64 (r : Int)) ∧ w' = W) := fun W hW => reg_call pw g 1 n cap s1 r W (by rw [cell_heap hW]; exact hpw) (by omega) (by rw [cell_heap hW]; exact h1) hs1 hr1
  have HL : Hid (w.cell? ⟨g, 2, none⟩ = some (.string s2) ∧ IsFl w ao F ∧ F.length ≤ 1000 ∧ (∀ f ∈ F, f.pa.size ≤ 100) ∧ 2 < n ∧ w.cell? ⟨pw, 0, none⟩ = some (.slice (some ⟨g, 0, none⟩) n cap)) := ⟨h2, hF, hlf, hpa, hn, hpw⟩
  have hni : (0 : Int) < (n : Int) := by omega
  clear hn hs1 hr1 h1 h2 hF hlf hpa
  obtain ⟨TL, hTL⟩ : ∃ c, c = (subC [true, true, true, true, false, true, false, false, true, false, true, true, true, true, true, true, true, false, true, false, true, true, true, true, true, false, true, true, false] (Tryz.f25.body.getD .skip)) := ⟨_, rfl⟩
  have HTL : Hid (TL = (subC [true, true, true, true, false, true, false, false, true, false, true, true, true, true, true, true, true, false, true, false, true, true, true, true, true, false, true, true, false] (Tryz.f25.body.getD .skip))) := hTL
  have hlit := hTL.symm
  conv at hlit => lhs; whnf
  conv => arg 2; whnf
  rw [hlit]
  clear hlit hTL
  dsimp only
  go_wp2_with (first
    | (go_at_call 45; with_reducible refine (HR1.out _ rfl).mono ?_; rintro e w1 ⟨rfl, hw⟩; subst w1)
    | go_in)
  rw [HTL.out]
  obtain ⟨q1, q2, q3, q4, q5, q6⟩ := HL.out
  refine listL ao ac F pw g n cap s2 w q6 q5 q1 q2 q3 q4 _ ?_
  intro Bm Ew Ex Ey Ez Gb Gc Gf Gg Gh Gj Gk Gm Gq Gt Gv Gw Gx Gy Gz Hb Hc Hf Hg Hh Hj Hk Hm Hq Ht Hv Hw w' HB
  go_wp2
  apply HX.out; exact HB

set_option maxHeartbeats 8000000 in
set_option maxRecDepth 100000 in
theorem cutW (pw g n cap rg : Nat) (r a m : Nat) (s1 s2 s3 t : ByteArray) (w : World) (hpw : w.cell? ⟨pw, 0, none⟩ = some (.slice (some ⟨g, 0, none⟩) n cap)) (h0 : w.cell? ⟨g, 0, none⟩ = some (.string ⟨#[99, 117, 116]⟩)) (hn : 3 < n) (h1 : w.cell? ⟨g, 1, none⟩ = some (.string s1)) (hs1 : 0 < s1.size) (hr1 : s1[0].toNat = 97 + r) (h2 : w.cell? ⟨g, 2, none⟩ = some (.string s2)) (h3 : w.cell? ⟨g, 3, none⟩ = some (.string s3)) (ha : nmbF s2.data.toList 999999 = (a : Int)) (hz2 : s2.size ≤ 1000000) (hm : nmbF s3.data.toList 999999 = (m : Int)) (hz3 : s3.size ≤ 1000000) (hm9 : m ≤ 999999) (ha9 : a ≤ 999999) (hr : r < 8) (ht : w.cell? ⟨rg, r, none⟩ = some (.string t)) (Q0 : Exit → Act → World → Prop)
    (HX : Hid (∀ (Bk Bm Bq Bt Cx Cy Cz Db Dc Df Dg Dh Dj Dk Dm Dq Dt Dv Dw Dx Dy Dz Eb Ec Ef Eg Eh Ej Ek Em Eq Et Ev Ew Ex Ey Ez Gb Gc Gf Gg Gh Gj Gk Gm Gq Gt Gv Gw Gx Gy Gz Hb Hc Hf Hg Hh Hj Hk Hm Hq Ht Hv Hw Hx Hy Hz Ib Ic If Ig Ih Ij Ik Im Iq It Iv Iw Ix Iy Iz Jb Jc Jf Jg Jh Jj Jk Jm Jq Jt Jv Jw Jx Jy Jz Kb Kc Kf Kg Kh Kj Kk Km Kq Kt Kv Kw Kx Ky Kz Mb Mc Mf Mg Mh Mj Mk Mm Mq Mt Mv Mw Mx My Mz Nb Nc Nf Ng Nh Nj Nk Nm Nq Nt Nv Nw Nx Ny Nz Ob Oc Of Og Oh Oj Ok Om Oq Ot Ov Ow Ox Oy Oz Pb Pc Pf Pg Ph Pj Pk Pm Pq Pt Pv Pw Px Py Pz Rb Rc Rf Rg Rh : Value) (w' : World), Hid (Below w.heap.size w w') → Q0 .normal ⟨#[A0,A1,A2,A3,A4,A5,A6,A7,A8,.slice (some ⟨rg, 0, none⟩) 8 8,B0,B1,B2,B3,.pointer (some ⟨pw, 0, none⟩),.func (.func 45) #[] #[.pointer (some ⟨pw, 0, none⟩)],B6,.int .i64 0,.int .i64 (r : Int),.string (cutM t a m),.string ⟨#[]⟩,Bk,Bm,Bq,Bt,C5,C6,C7,C8,C9,D0,D1,D2,D3,D4,D5,D6,D7,D8,D9,E0,E1,Cx,Cy,Cz,Db,Dc,Df,Dg,Dh,Dj,Dk,Dm,Dq,Dt,Dv,Dw,Dx,Dy,Dz,Eb,Ec,Ef,Eg,Eh,Ej,Ek,Em,Eq,Et,Ev,Ew,Ex,Ey,Ez,Gb,Gc,Gf,Gg,Gh,Gj,Gk,Gm,Gq,Gt,Gv,Gw,Gx,Gy,Gz,Hb,Hc,Hf,Hg,Hh,Hj,Hk,Hm,Hq,Ht,Hv,Hw,Hx,Hy,Hz,Ib,Ic,If,Ig,Ih,Ij,Ik,Im,Iq,It,Iv,Iw,Ix,Iy,Iz,Jb,Jc,Jf,Jg,Jh,Jj,Jk,Jm,Jq,Jt,Jv,Jw,Jx,Jy,Jz,Kb,Kc,Kf,Kg,Kh,Kj,Kk,Km,Kq,Kt,Kv,Kw,Kx,Ky,Kz,Mb,Mc,Mf,Mg,Mh,Mj,Mk,Mm,Mq,Mt,Mv,Mw,Mx,My,Mz,Nb,Nc,Nf,Ng,Nh,Nj,Nk,Nm,Nq,Nt,Nv,Nw,Nx,Ny,Nz,Ob,Oc,Of,Og,Oh,Oj,Ok,Om,Oq,Ot,Ov,Ow,Ox,Oy,Oz,Pb,Pc,Pf,Pg,Ph,Pj,Pk,Pm,Pq,Pt,Pv,Pw,Px,Py,Pz,Rb,Rc,Rf,Rg,Rh,Y5,Y6,Y7,Y8,Y9,Z0,Z1,Z2,Z3,Z4,Z5,Z6,Z7,Z8,Z9,j0,j1,j2,j3,j4,j5,j6,j7,j8,j9,o0,o1,o2,o3,o4,o5,o6,o7,o8,o9,y0,y1,y2,y3,y4,y5,y6,y7,y8,y9,z0,z1,z2,z3,z4,z5,z6,z7,z8,z9,x0,x1,x2,x3,x4,x5,x6,x7,x8,x9,i0,i1,i2,i3,i4,i5,i6,i7,i8,i9,d0,d1,d2,d3,d4,d5,d6,d7,d8,d9,e0,e1,e2,e3,e4,e5,e6,e7,e8,e9,f0,f1,f2,f3,f4,f5,f6,f7,f8,f9,p0,p1,p2,p3,p4,p5,p6,p7,p8,p9,v0,v1,v2,v3,v4,v5,v6,v7,v8], []⟩ w')) :
    Code.wp Tryz.prog (subC [true, true, true, true, false, true, false, false, true, false, true, true, true, true, true, true, true, false] (Tryz.f25.body.getD .skip)) Q0 ⟨#[A0,A1,A2,A3,A4,A5,A6,A7,A8,.slice (some ⟨rg, 0, none⟩) 8 8,B0,B1,B2,B3,.pointer (some ⟨pw, 0, none⟩),.func (.func 45) #[] #[.pointer (some ⟨pw, 0, none⟩)],B6,.int .i64 0,.int .i64 (-1),.string ⟨#[]⟩,.string ⟨#[]⟩,C1,C2,C3,C4,C5,C6,C7,C8,C9,D0,D1,D2,D3,D4,D5,D6,D7,D8,D9,E0,E1,E2,E3,E4,E5,E6,E7,E8,E9,G0,G1,G2,G3,G4,G5,G6,G7,G8,G9,H0,H1,H2,H3,H4,H5,H6,H7,H8,H9,I0,I1,I2,I3,I4,I5,I6,I7,I8,I9,J0,J1,J2,J3,J4,J5,J6,J7,J8,J9,K0,K1,K2,K3,K4,K5,K6,K7,K8,K9,M0,M1,M2,M3,M4,M5,M6,M7,M8,M9,N0,N1,N2,N3,N4,N5,N6,N7,N8,N9,O0,O1,O2,O3,O4,O5,O6,O7,O8,O9,P0,P1,P2,P3,P4,P5,P6,P7,P8,P9,R0,R1,R2,R3,R4,R5,R6,R7,R8,R9,S0,S1,S2,S3,S4,S5,S6,S7,S8,S9,T0,T1,T2,T3,T4,T5,T6,T7,T8,T9,U0,U1,U2,U3,U4,U5,U6,U7,U8,U9,V0,V1,V2,V3,V4,V5,V6,V7,V8,V9,W0,W1,W2,W3,W4,W5,W6,W7,W8,W9,X0,X1,X2,X3,X4,X5,X6,X7,X8,X9,Y0,Y1,Y2,Y3,Y4,Y5,Y6,Y7,Y8,Y9,Z0,Z1,Z2,Z3,Z4,Z5,Z6,Z7,Z8,Z9,j0,j1,j2,j3,j4,j5,j6,j7,j8,j9,o0,o1,o2,o3,o4,o5,o6,o7,o8,o9,y0,y1,y2,y3,y4,y5,y6,y7,y8,y9,z0,z1,z2,z3,z4,z5,z6,z7,z8,z9,x0,x1,x2,x3,x4,x5,x6,x7,x8,x9,i0,i1,i2,i3,i4,i5,i6,i7,i8,i9,d0,d1,d2,d3,d4,d5,d6,d7,d8,d9,e0,e1,e2,e3,e4,e5,e6,e7,e8,e9,f0,f1,f2,f3,f4,f5,f6,f7,f8,f9,p0,p1,p2,p3,p4,p5,p6,p7,p8,p9,v0,v1,v2,v3,v4,v5,v6,v7,v8], []⟩ w := by
  have HR1 : Hid (∀ W : World, W.heap = w.heap → Calls Tryz.prog 45 #[.int .i64 1, .pointer (some ⟨pw, 0, none⟩)] W fun e w' => e = .returned (.int .i64 (r : Int)) ∧ w' = W) := fun W hW => reg_call pw g 1 n cap s1 r W (by rw [cell_heap hW]; exact hpw) (by omega) (by rw [cell_heap hW]; exact h1) hs1 hr1
  have HN : Hid (Calls Tryz.prog 46 #[.string s2, .int .i64 999999] w fun e w' => e = .returned (.int .i64 (a : Int)) ∧ w' = w) := (NumberOf_any s2 999999 w hz2).mono fun e w' ⟨q1, q2⟩ => ⟨q1.trans (by rw [← ha]; rfl), q2⟩
  have HL : Hid (w.cell? ⟨pw, 0, none⟩ = some (.slice (some ⟨g, 0, none⟩) n cap) ∧ 3 < n ∧ w.cell? ⟨g, 3, none⟩ = some (.string s3) ∧ nmbF s3.data.toList 999999 = (m : Int) ∧ s3.size ≤ 1000000 ∧ m ≤ 999999 ∧ a ≤ 999999 ∧ r < 8 ∧ w.cell? ⟨rg, r, none⟩ = some (.string t)) := ⟨hpw, hn, h3, hm, hz3, hm9, ha9, hr, ht⟩
  have hni : (0 : Int) < (n : Int) := by omega
  have hn2 : (2 : Int) < (n : Int) := by omega
  clear hn hs1 hr1 h1 h3 hm hz3 hm9 ha9 hr ht ha hz2
  obtain ⟨TL, hTL⟩ : ∃ c, c = (subC [true, true, true, true, false, true, false, false, true, false, true, true, true, true, true, true, true, false, true, false, true, true, true, true, true, true, true, true, true, false, true, true, false] (Tryz.f25.body.getD .skip)) := ⟨_, rfl⟩
  have HTL : Hid (TL = (subC [true, true, true, true, false, true, false, false, true, false, true, true, true, true, true, true, true, false, true, false, true, true, true, true, true, true, true, true, true, false, true, true, false] (Tryz.f25.body.getD .skip))) := hTL
  have hlit := hTL.symm
  conv at hlit => lhs; whnf
  conv => arg 2; whnf
  rw [hlit]
  clear hlit hTL
  dsimp only
  go_wp2_with (first
    | (go_at_call 45; with_reducible refine (HR1.out _ rfl).mono ?_; rintro e w1 ⟨rfl, hw⟩; subst w1)
    | (go_at_call 46; refine HN.out.mono ?_; rintro e w1 ⟨rfl, hw⟩; subst w1)
    | go_in)
  rw [HTL.out]
  obtain ⟨q1, q2, q3, q4, q5, q6, q7, q8, q9⟩ := HL.out
  refine cutL pw g n cap rg r a m s3 t w q1 q2 q3 q4 q5 q6 q7 q8 q9 _ ?_
  intro Bq Jj Jk Jm Jq Jt Jv Jw Jx Jy Jz Kb Kc Kf Kg Kh Kj Kk Km Kq Kt Kv Kw Kx Ky Kz Mb Mc
  go_wp2
  apply HX.out; exact (Below.refl _ w)

set_option maxHeartbeats 8000000 in
set_option maxRecDepth 100000 in
theorem size_W (pw g n cap rg : Nat) (r v : Nat) (s1 s2 t : ByteArray) (w : World) (hpw : w.cell? ⟨pw, 0, none⟩ = some (.slice (some ⟨g, 0, none⟩) n cap)) (h0 : w.cell? ⟨g, 0, none⟩ = some (.string ⟨#[115, 105, 122, 101]⟩)) (hn : 2 < n) (h1 : w.cell? ⟨g, 1, none⟩ = some (.string s1)) (hs1 : 0 < s1.size) (hr1 : s1[0].toNat = 97 + r) (h2 : w.cell? ⟨g, 2, none⟩ = some (.string s2)) (hs2 : 0 < s2.size) (hr2 : s2[0].toNat = 97 + v) (hv : v < 8) (ht : w.cell? ⟨rg, v, none⟩ = some (.string t)) (hz : t.size ≤ 1000000) (Q0 : Exit → Act → World → Prop)
    (HX : Hid (∀ (Bk Bm Bq Bt Cx Cy Cz Db Dc Df Dg Dh Dj Dk Dm Dq Dt Dv Dw Dx Dy Dz Eb Ec Ef Eg Eh Ej Ek Em Eq Et Ev Ew Ex Ey Ez Gb Gc Gf Gg Gh Gj Gk Gm Gq Gt Gv Gw Gx Gy Gz Hb Hc Hf Hg Hh Hj Hk Hm Hq Ht Hv Hw Hx Hy Hz Ib Ic If Ig Ih Ij Ik Im Iq It Iv Iw Ix Iy Iz Jb Jc Jf Jg Jh Jj Jk Jm Jq Jt Jv Jw Jx Jy Jz Kb Kc Kf Kg Kh Kj Kk Km Kq Kt Kv Kw Kx Ky Kz Mb Mc Mf Mg Mh Mj Mk Mm Mq Mt Mv Mw Mx My Mz Nb Nc Nf Ng Nh Nj Nk Nm Nq Nt Nv Nw Nx Ny Nz Ob Oc Of Og Oh Oj Ok Om Oq Ot Ov Ow Ox Oy Oz Pb Pc Pf Pg Ph Pj Pk Pm Pq Pt Pv Pw Px Py Pz Rb Rc Rf Rg Rh : Value) (w' : World), Hid (Below w.heap.size w w') → Q0 .normal ⟨#[A0,A1,A2,A3,A4,A5,A6,A7,A8,.slice (some ⟨rg, 0, none⟩) 8 8,B0,B1,B2,B3,.pointer (some ⟨pw, 0, none⟩),.func (.func 45) #[] #[.pointer (some ⟨pw, 0, none⟩)],B6,.int .i64 0,.int .i64 (r : Int),.string (szF t),.string ⟨#[]⟩,Bk,Bm,Bq,Bt,C5,C6,C7,C8,C9,D0,D1,D2,D3,D4,D5,D6,D7,D8,D9,E0,E1,Cx,Cy,Cz,Db,Dc,Df,Dg,Dh,Dj,Dk,Dm,Dq,Dt,Dv,Dw,Dx,Dy,Dz,Eb,Ec,Ef,Eg,Eh,Ej,Ek,Em,Eq,Et,Ev,Ew,Ex,Ey,Ez,Gb,Gc,Gf,Gg,Gh,Gj,Gk,Gm,Gq,Gt,Gv,Gw,Gx,Gy,Gz,Hb,Hc,Hf,Hg,Hh,Hj,Hk,Hm,Hq,Ht,Hv,Hw,Hx,Hy,Hz,Ib,Ic,If,Ig,Ih,Ij,Ik,Im,Iq,It,Iv,Iw,Ix,Iy,Iz,Jb,Jc,Jf,Jg,Jh,Jj,Jk,Jm,Jq,Jt,Jv,Jw,Jx,Jy,Jz,Kb,Kc,Kf,Kg,Kh,Kj,Kk,Km,Kq,Kt,Kv,Kw,Kx,Ky,Kz,Mb,Mc,Mf,Mg,Mh,Mj,Mk,Mm,Mq,Mt,Mv,Mw,Mx,My,Mz,Nb,Nc,Nf,Ng,Nh,Nj,Nk,Nm,Nq,Nt,Nv,Nw,Nx,Ny,Nz,Ob,Oc,Of,Og,Oh,Oj,Ok,Om,Oq,Ot,Ov,Ow,Ox,Oy,Oz,Pb,Pc,Pf,Pg,Ph,Pj,Pk,Pm,Pq,Pt,Pv,Pw,Px,Py,Pz,Rb,Rc,Rf,Rg,Rh,Y5,Y6,Y7,Y8,Y9,Z0,Z1,Z2,Z3,Z4,Z5,Z6,Z7,Z8,Z9,j0,j1,j2,j3,j4,j5,j6,j7,j8,j9,o0,o1,o2,o3,o4,o5,o6,o7,o8,o9,y0,y1,y2,y3,y4,y5,y6,y7,y8,y9,z0,z1,z2,z3,z4,z5,z6,z7,z8,z9,x0,x1,x2,x3,x4,x5,x6,x7,x8,x9,i0,i1,i2,i3,i4,i5,i6,i7,i8,i9,d0,d1,d2,d3,d4,d5,d6,d7,d8,d9,e0,e1,e2,e3,e4,e5,e6,e7,e8,e9,f0,f1,f2,f3,f4,f5,f6,f7,f8,f9,p0,p1,p2,p3,p4,p5,p6,p7,p8,p9,v0,v1,v2,v3,v4,v5,v6,v7,v8], []⟩ w')) :
    Code.wp Tryz.prog (subC [true, true, true, true, false, true, false, false, true, false, true, true, true, true, true, true, true, false] (Tryz.f25.body.getD .skip)) Q0 ⟨#[A0,A1,A2,A3,A4,A5,A6,A7,A8,.slice (some ⟨rg, 0, none⟩) 8 8,B0,B1,B2,B3,.pointer (some ⟨pw, 0, none⟩),.func (.func 45) #[] #[.pointer (some ⟨pw, 0, none⟩)],B6,.int .i64 0,.int .i64 (-1),.string ⟨#[]⟩,.string ⟨#[]⟩,C1,C2,C3,C4,C5,C6,C7,C8,C9,D0,D1,D2,D3,D4,D5,D6,D7,D8,D9,E0,E1,E2,E3,E4,E5,E6,E7,E8,E9,G0,G1,G2,G3,G4,G5,G6,G7,G8,G9,H0,H1,H2,H3,H4,H5,H6,H7,H8,H9,I0,I1,I2,I3,I4,I5,I6,I7,I8,I9,J0,J1,J2,J3,J4,J5,J6,J7,J8,J9,K0,K1,K2,K3,K4,K5,K6,K7,K8,K9,M0,M1,M2,M3,M4,M5,M6,M7,M8,M9,N0,N1,N2,N3,N4,N5,N6,N7,N8,N9,O0,O1,O2,O3,O4,O5,O6,O7,O8,O9,P0,P1,P2,P3,P4,P5,P6,P7,P8,P9,R0,R1,R2,R3,R4,R5,R6,R7,R8,R9,S0,S1,S2,S3,S4,S5,S6,S7,S8,S9,T0,T1,T2,T3,T4,T5,T6,T7,T8,T9,U0,U1,U2,U3,U4,U5,U6,U7,U8,U9,V0,V1,V2,V3,V4,V5,V6,V7,V8,V9,W0,W1,W2,W3,W4,W5,W6,W7,W8,W9,X0,X1,X2,X3,X4,X5,X6,X7,X8,X9,Y0,Y1,Y2,Y3,Y4,Y5,Y6,Y7,Y8,Y9,Z0,Z1,Z2,Z3,Z4,Z5,Z6,Z7,Z8,Z9,j0,j1,j2,j3,j4,j5,j6,j7,j8,j9,o0,o1,o2,o3,o4,o5,o6,o7,o8,o9,y0,y1,y2,y3,y4,y5,y6,y7,y8,y9,z0,z1,z2,z3,z4,z5,z6,z7,z8,z9,x0,x1,x2,x3,x4,x5,x6,x7,x8,x9,i0,i1,i2,i3,i4,i5,i6,i7,i8,i9,d0,d1,d2,d3,d4,d5,d6,d7,d8,d9,e0,e1,e2,e3,e4,e5,e6,e7,e8,e9,f0,f1,f2,f3,f4,f5,f6,f7,f8,f9,p0,p1,p2,p3,p4,p5,p6,p7,p8,p9,v0,v1,v2,v3,v4,v5,v6,v7,v8], []⟩ w := by
  refine sizeW pw g n cap rg r v s1 s2 t w hpw hn h0 h1 h2 hs1 hr1 hs2 hr2 hv ht hz _ ?_
  intro Cx Cy Cz Db Dc Dk Dm Em Eq Hx Hy Ix Iy Mf Mg Mh Mj Mk Mm Mq Mt Mv Mw Mx w' HB
  apply HX.out; exact HB

set_option maxHeartbeats 8000000 in
set_option maxRecDepth 100000 in
theorem goto_W (pw g n cap rg : Nat)  (w : World) (hpw : w.cell? ⟨pw, 0, none⟩ = some (.slice (some ⟨g, 0, none⟩) n cap)) (h0 : w.cell? ⟨g, 0, none⟩ = some (.string ⟨#[103, 111, 116, 111]⟩)) (hn : 0 < n) (Q0 : Exit → Act → World → Prop)
    (HX : Hid (∀ (Bk Bm Bq Bt Cx Cy Cz Db Dc Df Dg Dh Dj Dk Dm Dq Dt Dv Dw Dx Dy Dz Eb Ec Ef Eg Eh Ej Ek Em Eq Et Ev Ew Ex Ey Ez Gb Gc Gf Gg Gh Gj Gk Gm Gq Gt Gv Gw Gx Gy Gz Hb Hc Hf Hg Hh Hj Hk Hm Hq Ht Hv Hw Hx Hy Hz Ib Ic If Ig Ih Ij Ik Im Iq It Iv Iw Ix Iy Iz Jb Jc Jf Jg Jh Jj Jk Jm Jq Jt Jv Jw Jx Jy Jz Kb Kc Kf Kg Kh Kj Kk Km Kq Kt Kv Kw Kx Ky Kz Mb Mc Mf Mg Mh Mj Mk Mm Mq Mt Mv Mw Mx My Mz Nb Nc Nf Ng Nh Nj Nk Nm Nq Nt Nv Nw Nx Ny Nz Ob Oc Of Og Oh Oj Ok Om Oq Ot Ov Ow Ox Oy Oz Pb Pc Pf Pg Ph Pj Pk Pm Pq Pt Pv Pw Px Py Pz Rb Rc Rf Rg Rh : Value) (w' : World), Hid (Below w.heap.size w w') → Q0 .normal ⟨#[A0,A1,A2,A3,A4,A5,A6,A7,A8,.slice (some ⟨rg, 0, none⟩) 8 8,B0,B1,B2,B3,.pointer (some ⟨pw, 0, none⟩),.func (.func 45) #[] #[.pointer (some ⟨pw, 0, none⟩)],B6,.int .i64 0,.int .i64 (-1),.string ⟨#[]⟩,.string ⟨#[]⟩,Bk,Bm,Bq,Bt,C5,C6,C7,C8,C9,D0,D1,D2,D3,D4,D5,D6,D7,D8,D9,E0,E1,Cx,Cy,Cz,Db,Dc,Df,Dg,Dh,Dj,Dk,Dm,Dq,Dt,Dv,Dw,Dx,Dy,Dz,Eb,Ec,Ef,Eg,Eh,Ej,Ek,Em,Eq,Et,Ev,Ew,Ex,Ey,Ez,Gb,Gc,Gf,Gg,Gh,Gj,Gk,Gm,Gq,Gt,Gv,Gw,Gx,Gy,Gz,Hb,Hc,Hf,Hg,Hh,Hj,Hk,Hm,Hq,Ht,Hv,Hw,Hx,Hy,Hz,Ib,Ic,If,Ig,Ih,Ij,Ik,Im,Iq,It,Iv,Iw,Ix,Iy,Iz,Jb,Jc,Jf,Jg,Jh,Jj,Jk,Jm,Jq,Jt,Jv,Jw,Jx,Jy,Jz,Kb,Kc,Kf,Kg,Kh,Kj,Kk,Km,Kq,Kt,Kv,Kw,Kx,Ky,Kz,Mb,Mc,Mf,Mg,Mh,Mj,Mk,Mm,Mq,Mt,Mv,Mw,Mx,My,Mz,Nb,Nc,Nf,Ng,Nh,Nj,Nk,Nm,Nq,Nt,Nv,Nw,Nx,Ny,Nz,Ob,Oc,Of,Og,Oh,Oj,Ok,Om,Oq,Ot,Ov,Ow,Ox,Oy,Oz,Pb,Pc,Pf,Pg,Ph,Pj,Pk,Pm,Pq,Pt,Pv,Pw,Px,Py,Pz,Rb,Rc,Rf,Rg,Rh,Y5,Y6,Y7,Y8,Y9,Z0,Z1,Z2,Z3,Z4,Z5,Z6,Z7,Z8,Z9,j0,j1,j2,j3,j4,j5,j6,j7,j8,j9,o0,o1,o2,o3,o4,o5,o6,o7,o8,o9,y0,y1,y2,y3,y4,y5,y6,y7,y8,y9,z0,z1,z2,z3,z4,z5,z6,z7,z8,z9,x0,x1,x2,x3,x4,x5,x6,x7,x8,x9,i0,i1,i2,i3,i4,i5,i6,i7,i8,i9,d0,d1,d2,d3,d4,d5,d6,d7,d8,d9,e0,e1,e2,e3,e4,e5,e6,e7,e8,e9,f0,f1,f2,f3,f4,f5,f6,f7,f8,f9,p0,p1,p2,p3,p4,p5,p6,p7,p8,p9,v0,v1,v2,v3,v4,v5,v6,v7,v8], []⟩ w')) :
    Code.wp Tryz.prog (subC [true, true, true, true, false, true, false, false, true, false, true, true, true, true, true, true, true, false] (Tryz.f25.body.getD .skip)) Q0 ⟨#[A0,A1,A2,A3,A4,A5,A6,A7,A8,.slice (some ⟨rg, 0, none⟩) 8 8,B0,B1,B2,B3,.pointer (some ⟨pw, 0, none⟩),.func (.func 45) #[] #[.pointer (some ⟨pw, 0, none⟩)],B6,.int .i64 0,.int .i64 (-1),.string ⟨#[]⟩,.string ⟨#[]⟩,C1,C2,C3,C4,C5,C6,C7,C8,C9,D0,D1,D2,D3,D4,D5,D6,D7,D8,D9,E0,E1,E2,E3,E4,E5,E6,E7,E8,E9,G0,G1,G2,G3,G4,G5,G6,G7,G8,G9,H0,H1,H2,H3,H4,H5,H6,H7,H8,H9,I0,I1,I2,I3,I4,I5,I6,I7,I8,I9,J0,J1,J2,J3,J4,J5,J6,J7,J8,J9,K0,K1,K2,K3,K4,K5,K6,K7,K8,K9,M0,M1,M2,M3,M4,M5,M6,M7,M8,M9,N0,N1,N2,N3,N4,N5,N6,N7,N8,N9,O0,O1,O2,O3,O4,O5,O6,O7,O8,O9,P0,P1,P2,P3,P4,P5,P6,P7,P8,P9,R0,R1,R2,R3,R4,R5,R6,R7,R8,R9,S0,S1,S2,S3,S4,S5,S6,S7,S8,S9,T0,T1,T2,T3,T4,T5,T6,T7,T8,T9,U0,U1,U2,U3,U4,U5,U6,U7,U8,U9,V0,V1,V2,V3,V4,V5,V6,V7,V8,V9,W0,W1,W2,W3,W4,W5,W6,W7,W8,W9,X0,X1,X2,X3,X4,X5,X6,X7,X8,X9,Y0,Y1,Y2,Y3,Y4,Y5,Y6,Y7,Y8,Y9,Z0,Z1,Z2,Z3,Z4,Z5,Z6,Z7,Z8,Z9,j0,j1,j2,j3,j4,j5,j6,j7,j8,j9,o0,o1,o2,o3,o4,o5,o6,o7,o8,o9,y0,y1,y2,y3,y4,y5,y6,y7,y8,y9,z0,z1,z2,z3,z4,z5,z6,z7,z8,z9,x0,x1,x2,x3,x4,x5,x6,x7,x8,x9,i0,i1,i2,i3,i4,i5,i6,i7,i8,i9,d0,d1,d2,d3,d4,d5,d6,d7,d8,d9,e0,e1,e2,e3,e4,e5,e6,e7,e8,e9,f0,f1,f2,f3,f4,f5,f6,f7,f8,f9,p0,p1,p2,p3,p4,p5,p6,p7,p8,p9,v0,v1,v2,v3,v4,v5,v6,v7,v8], []⟩ w := by
  refine gotoW pw g n cap w hpw hn h0 _ ?_
  intro Cx Cy Cz Db Dc Dk Dm Em Eq Hx Hy Ix Iy Mf Mg My Mz Nq Nt Nv
  apply HX.out; exact (Below.refl _ w)

set_option maxHeartbeats 8000000 in
set_option maxRecDepth 100000 in
theorem same_W (pw g n cap rg : Nat)  (w : World) (hpw : w.cell? ⟨pw, 0, none⟩ = some (.slice (some ⟨g, 0, none⟩) n cap)) (h0 : w.cell? ⟨g, 0, none⟩ = some (.string ⟨#[115, 97, 109, 101]⟩)) (hn : 0 < n) (Q0 : Exit → Act → World → Prop)
    (HX : Hid (∀ (Bk Bm Bq Bt Cx Cy Cz Db Dc Df Dg Dh Dj Dk Dm Dq Dt Dv Dw Dx Dy Dz Eb Ec Ef Eg Eh Ej Ek Em Eq Et Ev Ew Ex Ey Ez Gb Gc Gf Gg Gh Gj Gk Gm Gq Gt Gv Gw Gx Gy Gz Hb Hc Hf Hg Hh Hj Hk Hm Hq Ht Hv Hw Hx Hy Hz Ib Ic If Ig Ih Ij Ik Im Iq It Iv Iw Ix Iy Iz Jb Jc Jf Jg Jh Jj Jk Jm Jq Jt Jv Jw Jx Jy Jz Kb Kc Kf Kg Kh Kj Kk Km Kq Kt Kv Kw Kx Ky Kz Mb Mc Mf Mg Mh Mj Mk Mm Mq Mt Mv Mw Mx My Mz Nb Nc Nf Ng Nh Nj Nk Nm Nq Nt Nv Nw Nx Ny Nz Ob Oc Of Og Oh Oj Ok Om Oq Ot Ov Ow Ox Oy Oz Pb Pc Pf Pg Ph Pj Pk Pm Pq Pt Pv Pw Px Py Pz Rb Rc Rf Rg Rh : Value) (w' : World), Hid (Below w.heap.size w w') → Q0 .normal ⟨#[A0,A1,A2,A3,A4,A5,A6,A7,A8,.slice (some ⟨rg, 0, none⟩) 8 8,B0,B1,B2,B3,.pointer (some ⟨pw, 0, none⟩),.func (.func 45) #[] #[.pointer (some ⟨pw, 0, none⟩)],B6,.int .i64 0,.int .i64 (-1),.string ⟨#[]⟩,.string ⟨#[]⟩,Bk,Bm,Bq,Bt,C5,C6,C7,C8,C9,D0,D1,D2,D3,D4,D5,D6,D7,D8,D9,E0,E1,Cx,Cy,Cz,Db,Dc,Df,Dg,Dh,Dj,Dk,Dm,Dq,Dt,Dv,Dw,Dx,Dy,Dz,Eb,Ec,Ef,Eg,Eh,Ej,Ek,Em,Eq,Et,Ev,Ew,Ex,Ey,Ez,Gb,Gc,Gf,Gg,Gh,Gj,Gk,Gm,Gq,Gt,Gv,Gw,Gx,Gy,Gz,Hb,Hc,Hf,Hg,Hh,Hj,Hk,Hm,Hq,Ht,Hv,Hw,Hx,Hy,Hz,Ib,Ic,If,Ig,Ih,Ij,Ik,Im,Iq,It,Iv,Iw,Ix,Iy,Iz,Jb,Jc,Jf,Jg,Jh,Jj,Jk,Jm,Jq,Jt,Jv,Jw,Jx,Jy,Jz,Kb,Kc,Kf,Kg,Kh,Kj,Kk,Km,Kq,Kt,Kv,Kw,Kx,Ky,Kz,Mb,Mc,Mf,Mg,Mh,Mj,Mk,Mm,Mq,Mt,Mv,Mw,Mx,My,Mz,Nb,Nc,Nf,Ng,Nh,Nj,Nk,Nm,Nq,Nt,Nv,Nw,Nx,Ny,Nz,Ob,Oc,Of,Og,Oh,Oj,Ok,Om,Oq,Ot,Ov,Ow,Ox,Oy,Oz,Pb,Pc,Pf,Pg,Ph,Pj,Pk,Pm,Pq,Pt,Pv,Pw,Px,Py,Pz,Rb,Rc,Rf,Rg,Rh,Y5,Y6,Y7,Y8,Y9,Z0,Z1,Z2,Z3,Z4,Z5,Z6,Z7,Z8,Z9,j0,j1,j2,j3,j4,j5,j6,j7,j8,j9,o0,o1,o2,o3,o4,o5,o6,o7,o8,o9,y0,y1,y2,y3,y4,y5,y6,y7,y8,y9,z0,z1,z2,z3,z4,z5,z6,z7,z8,z9,x0,x1,x2,x3,x4,x5,x6,x7,x8,x9,i0,i1,i2,i3,i4,i5,i6,i7,i8,i9,d0,d1,d2,d3,d4,d5,d6,d7,d8,d9,e0,e1,e2,e3,e4,e5,e6,e7,e8,e9,f0,f1,f2,f3,f4,f5,f6,f7,f8,f9,p0,p1,p2,p3,p4,p5,p6,p7,p8,p9,v0,v1,v2,v3,v4,v5,v6,v7,v8], []⟩ w')) :
    Code.wp Tryz.prog (subC [true, true, true, true, false, true, false, false, true, false, true, true, true, true, true, true, true, false] (Tryz.f25.body.getD .skip)) Q0 ⟨#[A0,A1,A2,A3,A4,A5,A6,A7,A8,.slice (some ⟨rg, 0, none⟩) 8 8,B0,B1,B2,B3,.pointer (some ⟨pw, 0, none⟩),.func (.func 45) #[] #[.pointer (some ⟨pw, 0, none⟩)],B6,.int .i64 0,.int .i64 (-1),.string ⟨#[]⟩,.string ⟨#[]⟩,C1,C2,C3,C4,C5,C6,C7,C8,C9,D0,D1,D2,D3,D4,D5,D6,D7,D8,D9,E0,E1,E2,E3,E4,E5,E6,E7,E8,E9,G0,G1,G2,G3,G4,G5,G6,G7,G8,G9,H0,H1,H2,H3,H4,H5,H6,H7,H8,H9,I0,I1,I2,I3,I4,I5,I6,I7,I8,I9,J0,J1,J2,J3,J4,J5,J6,J7,J8,J9,K0,K1,K2,K3,K4,K5,K6,K7,K8,K9,M0,M1,M2,M3,M4,M5,M6,M7,M8,M9,N0,N1,N2,N3,N4,N5,N6,N7,N8,N9,O0,O1,O2,O3,O4,O5,O6,O7,O8,O9,P0,P1,P2,P3,P4,P5,P6,P7,P8,P9,R0,R1,R2,R3,R4,R5,R6,R7,R8,R9,S0,S1,S2,S3,S4,S5,S6,S7,S8,S9,T0,T1,T2,T3,T4,T5,T6,T7,T8,T9,U0,U1,U2,U3,U4,U5,U6,U7,U8,U9,V0,V1,V2,V3,V4,V5,V6,V7,V8,V9,W0,W1,W2,W3,W4,W5,W6,W7,W8,W9,X0,X1,X2,X3,X4,X5,X6,X7,X8,X9,Y0,Y1,Y2,Y3,Y4,Y5,Y6,Y7,Y8,Y9,Z0,Z1,Z2,Z3,Z4,Z5,Z6,Z7,Z8,Z9,j0,j1,j2,j3,j4,j5,j6,j7,j8,j9,o0,o1,o2,o3,o4,o5,o6,o7,o8,o9,y0,y1,y2,y3,y4,y5,y6,y7,y8,y9,z0,z1,z2,z3,z4,z5,z6,z7,z8,z9,x0,x1,x2,x3,x4,x5,x6,x7,x8,x9,i0,i1,i2,i3,i4,i5,i6,i7,i8,i9,d0,d1,d2,d3,d4,d5,d6,d7,d8,d9,e0,e1,e2,e3,e4,e5,e6,e7,e8,e9,f0,f1,f2,f3,f4,f5,f6,f7,f8,f9,p0,p1,p2,p3,p4,p5,p6,p7,p8,p9,v0,v1,v2,v3,v4,v5,v6,v7,v8], []⟩ w := by
  refine sameW pw g n cap w hpw hn h0 _ ?_
  intro Cx Cy Cz Db Dc Dk Dm Em Eq Hx Hy Ix Iy Mf Mg My Mz Nq Nt Nv
  apply HX.out; exact (Below.refl _ w)

set_option maxHeartbeats 8000000 in
set_option maxRecDepth 100000 in
theorem less_W (pw g n cap rg : Nat)  (w : World) (hpw : w.cell? ⟨pw, 0, none⟩ = some (.slice (some ⟨g, 0, none⟩) n cap)) (h0 : w.cell? ⟨g, 0, none⟩ = some (.string ⟨#[108, 101, 115, 115]⟩)) (hn : 0 < n) (Q0 : Exit → Act → World → Prop)
    (HX : Hid (∀ (Bk Bm Bq Bt Cx Cy Cz Db Dc Df Dg Dh Dj Dk Dm Dq Dt Dv Dw Dx Dy Dz Eb Ec Ef Eg Eh Ej Ek Em Eq Et Ev Ew Ex Ey Ez Gb Gc Gf Gg Gh Gj Gk Gm Gq Gt Gv Gw Gx Gy Gz Hb Hc Hf Hg Hh Hj Hk Hm Hq Ht Hv Hw Hx Hy Hz Ib Ic If Ig Ih Ij Ik Im Iq It Iv Iw Ix Iy Iz Jb Jc Jf Jg Jh Jj Jk Jm Jq Jt Jv Jw Jx Jy Jz Kb Kc Kf Kg Kh Kj Kk Km Kq Kt Kv Kw Kx Ky Kz Mb Mc Mf Mg Mh Mj Mk Mm Mq Mt Mv Mw Mx My Mz Nb Nc Nf Ng Nh Nj Nk Nm Nq Nt Nv Nw Nx Ny Nz Ob Oc Of Og Oh Oj Ok Om Oq Ot Ov Ow Ox Oy Oz Pb Pc Pf Pg Ph Pj Pk Pm Pq Pt Pv Pw Px Py Pz Rb Rc Rf Rg Rh : Value) (w' : World), Hid (Below w.heap.size w w') → Q0 .normal ⟨#[A0,A1,A2,A3,A4,A5,A6,A7,A8,.slice (some ⟨rg, 0, none⟩) 8 8,B0,B1,B2,B3,.pointer (some ⟨pw, 0, none⟩),.func (.func 45) #[] #[.pointer (some ⟨pw, 0, none⟩)],B6,.int .i64 0,.int .i64 (-1),.string ⟨#[]⟩,.string ⟨#[]⟩,Bk,Bm,Bq,Bt,C5,C6,C7,C8,C9,D0,D1,D2,D3,D4,D5,D6,D7,D8,D9,E0,E1,Cx,Cy,Cz,Db,Dc,Df,Dg,Dh,Dj,Dk,Dm,Dq,Dt,Dv,Dw,Dx,Dy,Dz,Eb,Ec,Ef,Eg,Eh,Ej,Ek,Em,Eq,Et,Ev,Ew,Ex,Ey,Ez,Gb,Gc,Gf,Gg,Gh,Gj,Gk,Gm,Gq,Gt,Gv,Gw,Gx,Gy,Gz,Hb,Hc,Hf,Hg,Hh,Hj,Hk,Hm,Hq,Ht,Hv,Hw,Hx,Hy,Hz,Ib,Ic,If,Ig,Ih,Ij,Ik,Im,Iq,It,Iv,Iw,Ix,Iy,Iz,Jb,Jc,Jf,Jg,Jh,Jj,Jk,Jm,Jq,Jt,Jv,Jw,Jx,Jy,Jz,Kb,Kc,Kf,Kg,Kh,Kj,Kk,Km,Kq,Kt,Kv,Kw,Kx,Ky,Kz,Mb,Mc,Mf,Mg,Mh,Mj,Mk,Mm,Mq,Mt,Mv,Mw,Mx,My,Mz,Nb,Nc,Nf,Ng,Nh,Nj,Nk,Nm,Nq,Nt,Nv,Nw,Nx,Ny,Nz,Ob,Oc,Of,Og,Oh,Oj,Ok,Om,Oq,Ot,Ov,Ow,Ox,Oy,Oz,Pb,Pc,Pf,Pg,Ph,Pj,Pk,Pm,Pq,Pt,Pv,Pw,Px,Py,Pz,Rb,Rc,Rf,Rg,Rh,Y5,Y6,Y7,Y8,Y9,Z0,Z1,Z2,Z3,Z4,Z5,Z6,Z7,Z8,Z9,j0,j1,j2,j3,j4,j5,j6,j7,j8,j9,o0,o1,o2,o3,o4,o5,o6,o7,o8,o9,y0,y1,y2,y3,y4,y5,y6,y7,y8,y9,z0,z1,z2,z3,z4,z5,z6,z7,z8,z9,x0,x1,x2,x3,x4,x5,x6,x7,x8,x9,i0,i1,i2,i3,i4,i5,i6,i7,i8,i9,d0,d1,d2,d3,d4,d5,d6,d7,d8,d9,e0,e1,e2,e3,e4,e5,e6,e7,e8,e9,f0,f1,f2,f3,f4,f5,f6,f7,f8,f9,p0,p1,p2,p3,p4,p5,p6,p7,p8,p9,v0,v1,v2,v3,v4,v5,v6,v7,v8], []⟩ w')) :
    Code.wp Tryz.prog (subC [true, true, true, true, false, true, false, false, true, false, true, true, true, true, true, true, true, false] (Tryz.f25.body.getD .skip)) Q0 ⟨#[A0,A1,A2,A3,A4,A5,A6,A7,A8,.slice (some ⟨rg, 0, none⟩) 8 8,B0,B1,B2,B3,.pointer (some ⟨pw, 0, none⟩),.func (.func 45) #[] #[.pointer (some ⟨pw, 0, none⟩)],B6,.int .i64 0,.int .i64 (-1),.string ⟨#[]⟩,.string ⟨#[]⟩,C1,C2,C3,C4,C5,C6,C7,C8,C9,D0,D1,D2,D3,D4,D5,D6,D7,D8,D9,E0,E1,E2,E3,E4,E5,E6,E7,E8,E9,G0,G1,G2,G3,G4,G5,G6,G7,G8,G9,H0,H1,H2,H3,H4,H5,H6,H7,H8,H9,I0,I1,I2,I3,I4,I5,I6,I7,I8,I9,J0,J1,J2,J3,J4,J5,J6,J7,J8,J9,K0,K1,K2,K3,K4,K5,K6,K7,K8,K9,M0,M1,M2,M3,M4,M5,M6,M7,M8,M9,N0,N1,N2,N3,N4,N5,N6,N7,N8,N9,O0,O1,O2,O3,O4,O5,O6,O7,O8,O9,P0,P1,P2,P3,P4,P5,P6,P7,P8,P9,R0,R1,R2,R3,R4,R5,R6,R7,R8,R9,S0,S1,S2,S3,S4,S5,S6,S7,S8,S9,T0,T1,T2,T3,T4,T5,T6,T7,T8,T9,U0,U1,U2,U3,U4,U5,U6,U7,U8,U9,V0,V1,V2,V3,V4,V5,V6,V7,V8,V9,W0,W1,W2,W3,W4,W5,W6,W7,W8,W9,X0,X1,X2,X3,X4,X5,X6,X7,X8,X9,Y0,Y1,Y2,Y3,Y4,Y5,Y6,Y7,Y8,Y9,Z0,Z1,Z2,Z3,Z4,Z5,Z6,Z7,Z8,Z9,j0,j1,j2,j3,j4,j5,j6,j7,j8,j9,o0,o1,o2,o3,o4,o5,o6,o7,o8,o9,y0,y1,y2,y3,y4,y5,y6,y7,y8,y9,z0,z1,z2,z3,z4,z5,z6,z7,z8,z9,x0,x1,x2,x3,x4,x5,x6,x7,x8,x9,i0,i1,i2,i3,i4,i5,i6,i7,i8,i9,d0,d1,d2,d3,d4,d5,d6,d7,d8,d9,e0,e1,e2,e3,e4,e5,e6,e7,e8,e9,f0,f1,f2,f3,f4,f5,f6,f7,f8,f9,p0,p1,p2,p3,p4,p5,p6,p7,p8,p9,v0,v1,v2,v3,v4,v5,v6,v7,v8], []⟩ w := by
  refine lessW pw g n cap w hpw hn h0 _ ?_
  intro Cx Cy Cz Db Dc Dk Dm Em Eq Hx Hy Ix Iy Mf Mg My Mz Nq Nt Nv
  apply HX.out; exact (Below.refl _ w)

set_option maxHeartbeats 8000000 in
set_option maxRecDepth 100000 in
theorem exit_W (pw g n cap rg : Nat)  (w : World) (hpw : w.cell? ⟨pw, 0, none⟩ = some (.slice (some ⟨g, 0, none⟩) n cap)) (h0 : w.cell? ⟨g, 0, none⟩ = some (.string ⟨#[101, 120, 105, 116]⟩)) (hn : 0 < n) (Q0 : Exit → Act → World → Prop)
    (HX : Hid (∀ (Bk Bm Bq Bt Cx Cy Cz Db Dc Df Dg Dh Dj Dk Dm Dq Dt Dv Dw Dx Dy Dz Eb Ec Ef Eg Eh Ej Ek Em Eq Et Ev Ew Ex Ey Ez Gb Gc Gf Gg Gh Gj Gk Gm Gq Gt Gv Gw Gx Gy Gz Hb Hc Hf Hg Hh Hj Hk Hm Hq Ht Hv Hw Hx Hy Hz Ib Ic If Ig Ih Ij Ik Im Iq It Iv Iw Ix Iy Iz Jb Jc Jf Jg Jh Jj Jk Jm Jq Jt Jv Jw Jx Jy Jz Kb Kc Kf Kg Kh Kj Kk Km Kq Kt Kv Kw Kx Ky Kz Mb Mc Mf Mg Mh Mj Mk Mm Mq Mt Mv Mw Mx My Mz Nb Nc Nf Ng Nh Nj Nk Nm Nq Nt Nv Nw Nx Ny Nz Ob Oc Of Og Oh Oj Ok Om Oq Ot Ov Ow Ox Oy Oz Pb Pc Pf Pg Ph Pj Pk Pm Pq Pt Pv Pw Px Py Pz Rb Rc Rf Rg Rh : Value) (w' : World), Hid (Below w.heap.size w w') → Q0 .normal ⟨#[A0,A1,A2,A3,A4,A5,A6,A7,A8,.slice (some ⟨rg, 0, none⟩) 8 8,B0,B1,B2,B3,.pointer (some ⟨pw, 0, none⟩),.func (.func 45) #[] #[.pointer (some ⟨pw, 0, none⟩)],B6,.int .i64 0,.int .i64 (-1),.string ⟨#[]⟩,.string ⟨#[]⟩,Bk,Bm,Bq,Bt,C5,C6,C7,C8,C9,D0,D1,D2,D3,D4,D5,D6,D7,D8,D9,E0,E1,Cx,Cy,Cz,Db,Dc,Df,Dg,Dh,Dj,Dk,Dm,Dq,Dt,Dv,Dw,Dx,Dy,Dz,Eb,Ec,Ef,Eg,Eh,Ej,Ek,Em,Eq,Et,Ev,Ew,Ex,Ey,Ez,Gb,Gc,Gf,Gg,Gh,Gj,Gk,Gm,Gq,Gt,Gv,Gw,Gx,Gy,Gz,Hb,Hc,Hf,Hg,Hh,Hj,Hk,Hm,Hq,Ht,Hv,Hw,Hx,Hy,Hz,Ib,Ic,If,Ig,Ih,Ij,Ik,Im,Iq,It,Iv,Iw,Ix,Iy,Iz,Jb,Jc,Jf,Jg,Jh,Jj,Jk,Jm,Jq,Jt,Jv,Jw,Jx,Jy,Jz,Kb,Kc,Kf,Kg,Kh,Kj,Kk,Km,Kq,Kt,Kv,Kw,Kx,Ky,Kz,Mb,Mc,Mf,Mg,Mh,Mj,Mk,Mm,Mq,Mt,Mv,Mw,Mx,My,Mz,Nb,Nc,Nf,Ng,Nh,Nj,Nk,Nm,Nq,Nt,Nv,Nw,Nx,Ny,Nz,Ob,Oc,Of,Og,Oh,Oj,Ok,Om,Oq,Ot,Ov,Ow,Ox,Oy,Oz,Pb,Pc,Pf,Pg,Ph,Pj,Pk,Pm,Pq,Pt,Pv,Pw,Px,Py,Pz,Rb,Rc,Rf,Rg,Rh,Y5,Y6,Y7,Y8,Y9,Z0,Z1,Z2,Z3,Z4,Z5,Z6,Z7,Z8,Z9,j0,j1,j2,j3,j4,j5,j6,j7,j8,j9,o0,o1,o2,o3,o4,o5,o6,o7,o8,o9,y0,y1,y2,y3,y4,y5,y6,y7,y8,y9,z0,z1,z2,z3,z4,z5,z6,z7,z8,z9,x0,x1,x2,x3,x4,x5,x6,x7,x8,x9,i0,i1,i2,i3,i4,i5,i6,i7,i8,i9,d0,d1,d2,d3,d4,d5,d6,d7,d8,d9,e0,e1,e2,e3,e4,e5,e6,e7,e8,e9,f0,f1,f2,f3,f4,f5,f6,f7,f8,f9,p0,p1,p2,p3,p4,p5,p6,p7,p8,p9,v0,v1,v2,v3,v4,v5,v6,v7,v8], []⟩ w')) :
    Code.wp Tryz.prog (subC [true, true, true, true, false, true, false, false, true, false, true, true, true, true, true, true, true, false] (Tryz.f25.body.getD .skip)) Q0 ⟨#[A0,A1,A2,A3,A4,A5,A6,A7,A8,.slice (some ⟨rg, 0, none⟩) 8 8,B0,B1,B2,B3,.pointer (some ⟨pw, 0, none⟩),.func (.func 45) #[] #[.pointer (some ⟨pw, 0, none⟩)],B6,.int .i64 0,.int .i64 (-1),.string ⟨#[]⟩,.string ⟨#[]⟩,C1,C2,C3,C4,C5,C6,C7,C8,C9,D0,D1,D2,D3,D4,D5,D6,D7,D8,D9,E0,E1,E2,E3,E4,E5,E6,E7,E8,E9,G0,G1,G2,G3,G4,G5,G6,G7,G8,G9,H0,H1,H2,H3,H4,H5,H6,H7,H8,H9,I0,I1,I2,I3,I4,I5,I6,I7,I8,I9,J0,J1,J2,J3,J4,J5,J6,J7,J8,J9,K0,K1,K2,K3,K4,K5,K6,K7,K8,K9,M0,M1,M2,M3,M4,M5,M6,M7,M8,M9,N0,N1,N2,N3,N4,N5,N6,N7,N8,N9,O0,O1,O2,O3,O4,O5,O6,O7,O8,O9,P0,P1,P2,P3,P4,P5,P6,P7,P8,P9,R0,R1,R2,R3,R4,R5,R6,R7,R8,R9,S0,S1,S2,S3,S4,S5,S6,S7,S8,S9,T0,T1,T2,T3,T4,T5,T6,T7,T8,T9,U0,U1,U2,U3,U4,U5,U6,U7,U8,U9,V0,V1,V2,V3,V4,V5,V6,V7,V8,V9,W0,W1,W2,W3,W4,W5,W6,W7,W8,W9,X0,X1,X2,X3,X4,X5,X6,X7,X8,X9,Y0,Y1,Y2,Y3,Y4,Y5,Y6,Y7,Y8,Y9,Z0,Z1,Z2,Z3,Z4,Z5,Z6,Z7,Z8,Z9,j0,j1,j2,j3,j4,j5,j6,j7,j8,j9,o0,o1,o2,o3,o4,o5,o6,o7,o8,o9,y0,y1,y2,y3,y4,y5,y6,y7,y8,y9,z0,z1,z2,z3,z4,z5,z6,z7,z8,z9,x0,x1,x2,x3,x4,x5,x6,x7,x8,x9,i0,i1,i2,i3,i4,i5,i6,i7,i8,i9,d0,d1,d2,d3,d4,d5,d6,d7,d8,d9,e0,e1,e2,e3,e4,e5,e6,e7,e8,e9,f0,f1,f2,f3,f4,f5,f6,f7,f8,f9,p0,p1,p2,p3,p4,p5,p6,p7,p8,p9,v0,v1,v2,v3,v4,v5,v6,v7,v8], []⟩ w := by
  refine exitW pw g n cap w hpw hn h0 _ ?_
  intro Cx Cy Cz Db Dc Dk Dm Em Eq Hx Hy Ix Iy Mf Mg My Mz Nq Nt Nv
  apply HX.out; exact (Below.refl _ w)
end Go.Proofs.YtapiedeekbfpnaaGreatDoor

/- When the document makes no file: just when the program makes none. -/
namespace Go.Proofs.YtapiedeekbfpnaaGreatDoor
open Go.RowKit Go.Shelf Go.Maps Go.WideMaps Go.Sort

theorem may_doc {L : List Fl} (h : TrOk L) (p : ByteArray) : (inX L p || (!(L.any fun f => decide (pth f = p.data.toList)) && decide (L.length = 60))) = !mayF L p := by
  unfold mayF
  cases hA : L.any (fun f => decide (pth f = p.data.toList)) with
  | true =>
    obtain ⟨f, hf, he⟩ := List.any_eq_true.1 hA
    have hp : f.pa = p := ba_ext (of_decide_eq_true he)
    have hx : inX L p = false := by
      unfold inX
      rw [List.any_eq_false]
      intro g hg
      rw [← hp, h.no f hf g hg, h.no g hg f hf]
      decide
    rw [hx]
    rfl
  | false =>
    have hne : ∀ f ∈ L, meetB p f.pa = (inB p f.pa || inB f.pa p) := fun f hf => by
      have hne : ¬ p.toList = f.pa.toList := fun e => by
        have := List.any_eq_false.1 hA f hf
        rw [Lib.toList_data, Lib.toList_data] at e
        exact this (decide_eq_true e.symm)
      unfold meetB
      rw [decide_eq_false hne]
      simp
    have hx : (L.any fun f => meetB p f.pa) = inX L p := by
      unfold inX
      rw [Bool.eq_iff_iff, List.any_eq_true, List.any_eq_true]
      exact ⟨fun ⟨f, hf, e⟩ => ⟨f, hf, (hne f hf).symm.trans e⟩, fun ⟨f, hf, e⟩ => ⟨f, hf, (hne f hf).trans e⟩⟩
    rw [hx]
    cases inX L p <;> cases decide (L.length = 60) <;> rfl
end Go.Proofs.YtapiedeekbfpnaaGreatDoor

/- The document's RunCommand: what it does at 'make', at 'run'. -/
namespace Go.Proofs.YtapiedeekbfpnaaGreatDoor
open Go.RowKit Go.Shelf Go.Maps Go.WideMaps Go.Sort
variable {A0 A1 A2 A3 A4 A5 A6 A7 A8 A9 B0 B1 B2 B3 B4 B5 B6 B7 B8 B9 C0 C1 C2 C3 C4 C5 C6 C7 C8 C9 D0 D1 D2 D3 D4 D5 D6 D7 D8 D9 E0 E1 E2 E3 E4 E5 E6 E7 E8 E9 G0 G1 G2 G3 G4 G5 G6 G7 G8 G9 H0 H1 H2 H3 H4 H5 H6 H7 H8 H9 I0 I1 I2 I3 I4 I5 I6 I7 I8 I9 J0 J1 J2 J3 J4 J5 J6 J7 J8 J9 K0 K1 K2 K3 K4 K5 K6 K7 K8 K9 M0 M1 M2 M3 M4 M5 M6 M7 M8 M9 N0 N1 N2 N3 N4 N5 N6 N7 N8 N9 O0 O1 O2 O3 O4 O5 O6 O7 O8 O9 P0 P1 P2 P3 P4 P5 P6 P7 P8 P9 R0 R1 R2 R3 R4 R5 R6 R7 R8 R9 S0 S1 S2 S3 S4 S5 S6 S7 S8 S9 T0 T1 T2 T3 T4 T5 T6 T7 T8 T9 U0 U1 U2 U3 U4 U5 U6 U7 U8 U9 V0 V1 V2 V3 V4 V5 V6 V7 V8 V9 W0 W1 W2 W3 W4 W5 W6 W7 W8 W9 X0 X1 X2 X3 X4 X5 X6 X7 X8 X9 Y0 Y1 Y2 Y3 Y4 Y5 Y6 Y7 Y8 Y9 Z0 Z1 Z2 Z3 Z4 Z5 Z6 Z7 Z8 Z9 j0 j1 j2 j3 j4 j5 j6 j7 j8 j9 o0 o1 o2 o3 o4 o5 o6 o7 o8 o9 y0 y1 y2 y3 y4 y5 y6 y7 y8 y9 z0 z1 z2 z3 z4 z5 z6 z7 z8 z9 x0 x1 x2 x3 x4 x5 x6 x7 x8 x9 i0 i1 i2 i3 i4 i5 i6 i7 i8 i9 d0 d1 d2 d3 d4 d5 d6 d7 d8 d9 e0 e1 e2 e3 e4 e5 e6 e7 e8 e9 f0 f1 f2 f3 f4 f5 f6 f7 f8 f9 p0 p1 p2 p3 p4 p5 p6 p7 p8 p9 v0 v1 v2 v3 v4 v5 v6 v7 v8 : Value}

set_option maxHeartbeats 8000000 in
set_option maxRecDepth 100000 in
theorem makeW (pw g n cap rg : Nat) (v mc : Nat) (mo : Option Addr) (L : List Fl) (p s2 t : ByteArray) (w : World) (hpw : w.cell? ⟨pw, 0, none⟩ = some (.slice (some ⟨g, 0, none⟩) n cap)) (h0 : w.cell? ⟨g, 0, none⟩ = some (.string ⟨#[109, 97, 107, 101]⟩)) (hn : 2 < n) (h1 : w.cell? ⟨g, 1, none⟩ = some (.string p)) (h2 : w.cell? ⟨g, 2, none⟩ = some (.string s2)) (hs2 : 0 < s2.size) (hr2 : s2[0].toNat = 97 + v) (hv : v < 8) (ht : w.cell? ⟨rg, v, none⟩ = some (.string t)) (hL : IsFl w mo L) (htr : TrOk L) (Q0 : Exit → Act → World → Prop)
    (HX : Hid (∀ (Bk Bm Bq Bt Cx Cy Cz Db Dc Df Dg Dh Dj Dk Dm Dq Dt Dv Dw Dx Dy Dz Eb Ec Ef Eg Eh Ej Ek Em Eq Et Ev Ew Ex Ey Ez Gb Gc Gf Gg Gh Gj Gk Gm Gq Gt Gv Gw Gx Gy Gz Hb Hc Hf Hg Hh Hj Hk Hm Hq Ht Hv Hw Hx Hy Hz Ib Ic If Ig Ih Ij Ik Im Iq It Iv Iw Ix Iy Iz Jb Jc Jf Jg Jh Jj Jk Jm Jq Jt Jv Jw Jx Jy Jz Kb Kc Kf Kg Kh Kj Kk Km Kq Kt Kv Kw Kx Ky Kz Mb Mc Mf Mg Mh Mj Mk Mm Mq Mt Mv Mw Mx My Mz Nb Nc Nf Ng Nh Nj Nk Nm Nq Nt Nv Nw Nx Ny Nz Ob Oc Of Og Oh Oj Ok Om Oq Ot Ov Ow Ox Oy Oz Pb Pc Pf Pg Ph Pj Pk Pm Pq Pt Pv Pw Px Py Pz Rb Rc Rf Rg Rh : Value) (w' : World), Hid (Below w.heap.size w w') → Q0 .normal ⟨#[A0,A1,A2,A3,A4,A5,A6,A7,A8,.slice (some ⟨rg, 0, none⟩) 8 8,.slice mo L.length mc,B1,B2,B3,.pointer (some ⟨pw, 0, none⟩),.func (.func 45) #[] #[.pointer (some ⟨pw, 0, none⟩)],B6,.int .i64 (cdX (!mayF L p)),.int .i64 (-1),.string t,.string p,Bk,Bm,Bq,Bt,C5,C6,C7,C8,C9,D0,D1,D2,D3,D4,D5,D6,D7,D8,D9,E0,E1,Cx,Cy,Cz,Db,Dc,Df,Dg,Dh,Dj,Dk,Dm,Dq,Dt,Dv,Dw,Dx,Dy,Dz,Eb,Ec,Ef,Eg,Eh,Ej,Ek,Em,Eq,Et,Ev,Ew,Ex,Ey,Ez,Gb,Gc,Gf,Gg,Gh,Gj,Gk,Gm,Gq,Gt,Gv,Gw,Gx,Gy,Gz,Hb,Hc,Hf,Hg,Hh,Hj,Hk,Hm,Hq,Ht,Hv,Hw,Hx,Hy,Hz,Ib,Ic,If,Ig,Ih,Ij,Ik,Im,Iq,It,Iv,Iw,Ix,Iy,Iz,Jb,Jc,Jf,Jg,Jh,Jj,Jk,Jm,Jq,Jt,Jv,Jw,Jx,Jy,Jz,Kb,Kc,Kf,Kg,Kh,Kj,Kk,Km,Kq,Kt,Kv,Kw,Kx,Ky,Kz,Mb,Mc,Mf,Mg,Mh,Mj,Mk,Mm,Mq,Mt,Mv,Mw,Mx,My,Mz,Nb,Nc,Nf,Ng,Nh,Nj,Nk,Nm,Nq,Nt,Nv,Nw,Nx,Ny,Nz,Ob,Oc,Of,Og,Oh,Oj,Ok,Om,Oq,Ot,Ov,Ow,Ox,Oy,Oz,Pb,Pc,Pf,Pg,Ph,Pj,Pk,Pm,Pq,Pt,Pv,Pw,Px,Py,Pz,Rb,Rc,Rf,Rg,Rh,Y5,Y6,Y7,Y8,Y9,Z0,Z1,Z2,Z3,Z4,Z5,Z6,Z7,Z8,Z9,j0,j1,j2,j3,j4,j5,j6,j7,j8,j9,o0,o1,o2,o3,o4,o5,o6,o7,o8,o9,y0,y1,y2,y3,y4,y5,y6,y7,y8,y9,z0,z1,z2,z3,z4,z5,z6,z7,z8,z9,x0,x1,x2,x3,x4,x5,x6,x7,x8,x9,i0,i1,i2,i3,i4,i5,i6,i7,i8,i9,d0,d1,d2,d3,d4,d5,d6,d7,d8,d9,e0,e1,e2,e3,e4,e5,e6,e7,e8,e9,f0,f1,f2,f3,f4,f5,f6,f7,f8,f9,p0,p1,p2,p3,p4,p5,p6,p7,p8,p9,v0,v1,v2,v3,v4,v5,v6,v7,v8], []⟩ w')) :
    Code.wp Tryz.prog (subC [true, true, true, true, false, true, false, false, true, false, true, true, true, true, true, true, true, false] (Tryz.f25.body.getD .skip)) Q0 ⟨#[A0,A1,A2,A3,A4,A5,A6,A7,A8,.slice (some ⟨rg, 0, none⟩) 8 8,.slice mo L.length mc,B1,B2,B3,.pointer (some ⟨pw, 0, none⟩),.func (.func 45) #[] #[.pointer (some ⟨pw, 0, none⟩)],B6,.int .i64 0,.int .i64 (-1),.string ⟨#[]⟩,.string ⟨#[]⟩,C1,C2,C3,C4,C5,C6,C7,C8,C9,D0,D1,D2,D3,D4,D5,D6,D7,D8,D9,E0,E1,E2,E3,E4,E5,E6,E7,E8,E9,G0,G1,G2,G3,G4,G5,G6,G7,G8,G9,H0,H1,H2,H3,H4,H5,H6,H7,H8,H9,I0,I1,I2,I3,I4,I5,I6,I7,I8,I9,J0,J1,J2,J3,J4,J5,J6,J7,J8,J9,K0,K1,K2,K3,K4,K5,K6,K7,K8,K9,M0,M1,M2,M3,M4,M5,M6,M7,M8,M9,N0,N1,N2,N3,N4,N5,N6,N7,N8,N9,O0,O1,O2,O3,O4,O5,O6,O7,O8,O9,P0,P1,P2,P3,P4,P5,P6,P7,P8,P9,R0,R1,R2,R3,R4,R5,R6,R7,R8,R9,S0,S1,S2,S3,S4,S5,S6,S7,S8,S9,T0,T1,T2,T3,T4,T5,T6,T7,T8,T9,U0,U1,U2,U3,U4,U5,U6,U7,U8,U9,V0,V1,V2,V3,V4,V5,V6,V7,V8,V9,W0,W1,W2,W3,W4,W5,W6,W7,W8,W9,X0,X1,X2,X3,X4,X5,X6,X7,X8,X9,Y0,Y1,Y2,Y3,Y4,Y5,Y6,Y7,Y8,Y9,Z0,Z1,Z2,Z3,Z4,Z5,Z6,Z7,Z8,Z9,j0,j1,j2,j3,j4,j5,j6,j7,j8,j9,o0,o1,o2,o3,o4,o5,o6,o7,o8,o9,y0,y1,y2,y3,y4,y5,y6,y7,y8,y9,z0,z1,z2,z3,z4,z5,z6,z7,z8,z9,x0,x1,x2,x3,x4,x5,x6,x7,x8,x9,i0,i1,i2,i3,i4,i5,i6,i7,i8,i9,d0,d1,d2,d3,d4,d5,d6,d7,d8,d9,e0,e1,e2,e3,e4,e5,e6,e7,e8,e9,f0,f1,f2,f3,f4,f5,f6,f7,f8,f9,p0,p1,p2,p3,p4,p5,p6,p7,p8,p9,v0,v1,v2,v3,v4,v5,v6,v7,v8], []⟩ w := by
  have HR2 : Hid (∀ W : World, W.heap = w.heap → Calls Tryz.prog 45 #[.int .i64 2, .pointer (some ⟨pw, 0, none⟩)] W fun e w' => e = .returned (.int .i64 (v : Int)) ∧ w' = W) := fun W hW => reg_call pw g 2 n cap s2 v W (by rw [cell_heap hW]; exact hpw) (by omega) (by rw [cell_heap hW]; exact h2) hs2 hr2
  have hcell1 := h1
  have HFa : Hid (∀ m : Nat, Calls Tryz.prog 16 #[.slice mo L.length mc, .string p] (w.drewN m) fun e w' => ∃ i, e = .returned (.int .i64 i) ∧ FaR L p.data.toList i ∧ w' = w.drewN m) := fun m => FileAt_any mo mc L p (w.drewN m) (hL.up (below_dn w m)) (by have := htr.ln; omega)
  have HL : Hid ((∀ m : Nat, IsFl (w.drewN m) mo L) ∧ L.length ≤ 60) := ⟨fun m => hL.up (below_dn w m), htr.ln⟩
  have HM : Hid ((inX L p || (!(L.any fun f => decide (pth f = p.data.toList)) && decide (L.length = 60))) = !mayF L p) := may_doc htr p
  have hni : (0 : Int) < (n : Int) := by omega
  have hn1 : (1 : Int) < (n : Int) := by omega
  have hvi : (v : Int) < 8 := by omega
  have hll : (L.length : Int) ≤ 60 := by have := htr.ln; omega
  clear hn h2 hs2 hr2 hv hL htr h1
  obtain ⟨TL, hTL⟩ : ∃ c, c = (subC [true, true, true, true, false, true, false, false, true, false, true, true, true, true, true, true, true, false, true, false, true, true, true, true, true, true, true, true, true, true, true, true, true, true, true, false, true, false, true, false] (Tryz.f25.body.getD .skip)) := ⟨_, rfl⟩
  have HTL : Hid (TL = (subC [true, true, true, true, false, true, false, false, true, false, true, true, true, true, true, true, true, false, true, false, true, true, true, true, true, true, true, true, true, true, true, true, true, true, true, false, true, false, true, false] (Tryz.f25.body.getD .skip))) := hTL
  have hlit := hTL.symm
  conv at hlit => lhs; whnf
  conv => arg 2; whnf
  rw [hlit]
  clear hlit hTL
  dsimp only
  go_wp2
  go_quiet ((go_at_call 45; refine Calls.quiet_of_same (HR2.out _ rfl)))
  go_wp2
  rw [HTL.out]
  refine madeL mo mc L p _ (HL.out.1 _) HL.out.2 _ ?_
  intro Oh Oj Ok Om Oq Ot Ov Ow Ox Oy Oz Pb Pc Pf Pg Ph Pj Pk Pm Pq Pt Pv
  by_cases hA : (L.any fun f => decide (pth f = p.data.toList)) = true
  · have hE : cdX (inX L p) = cdX (!mayF L p) := by have := HM.out; rw [hA] at this; simp only [Bool.not_true, Bool.false_and, Bool.or_false] at this; rw [this]
    have HF : Hid (∀ m : Nat, Calls Tryz.prog 16 #[.slice mo L.length mc, .string p] (w.drewN m) fun e w' => ∃ j : Nat, e = .returned (.int .i64 (j : Int)) ∧ w' = w.drewN m) := fun m => (HFa.out m).mono fun e w' ⟨i, q1, q2, q3⟩ => by
      rcases q2 with ⟨_, q2⟩ | ⟨j, _, q2, _⟩
      · obtain ⟨f, hf, e⟩ := List.any_eq_true.1 hA
        exact absurd (of_decide_eq_true e) (q2 f hf)
      · exact ⟨j, by rw [q1, q2], q3⟩
    rw [hE]
    clear hE hA HM HFa
    generalize cdX (!mayF L p) = cc at *
    go_wp2_with (first
      | (go_at_call 16; refine (HF.out _).mono ?_; rintro e w1 ⟨j, rfl, hw⟩; subst w1; have hj0 : ¬ (j : Int) < 0 := (by omega))
      | go_in)
    apply HX.out; exact (below_dn w _)
  · have hA2 : (L.any fun f => decide (pth f = p.data.toList)) = false := by simpa using hA
    have HF : Hid (∀ m : Nat, Calls Tryz.prog 16 #[.slice mo L.length mc, .string p] (w.drewN m) fun e w' => e = .returned (.int .i64 (-1)) ∧ w' = w.drewN m) := fun m => (HFa.out m).mono fun e w' ⟨i, q1, q2, q3⟩ => by
      rcases q2 with ⟨q2, _⟩ | ⟨j, hj, _, q2, _⟩
      · exact ⟨by rw [q1, q2], q3⟩
      · exact absurd (List.any_eq_true.2 ⟨L[j], List.getElem_mem hj, decide_eq_true q2⟩) hA
    by_cases h60 : L.length = 60
    · have HE : Hid (cdX (!mayF L p) = 103) := by have := HM.out; rw [hA2, decide_eq_true h60] at this; simp only [Bool.not_false, Bool.true_and, Bool.or_true] at this; show _ = _; rw [← this]; rfl
      have h60i : (L.length : Int) = 60 := by omega
      generalize cdX (!mayF L p) = cc at *
      clear hA hA2 HM HFa h60
      generalize cdX (inX L p) = cx at *
      go_wp2_with (first
        | (go_at_call 16; refine (HF.out _).mono ?_; rintro e w1 ⟨rfl, hw⟩; subst w1)
        | go_in)
      rw [HE.out] at HX
      apply HX.out; exact (below_dn w _)
    · have hE : cdX (inX L p) = cdX (!mayF L p) := by have := HM.out; rw [hA2, decide_eq_false h60] at this; simp only [Bool.and_false, Bool.or_false] at this; rw [this]
      have h60i : ¬ (L.length : Int) = 60 := by omega
      rw [hE]
      clear hA hA2 HM HFa h60 hE
      generalize cdX (!mayF L p) = cc at *
      go_wp2_with (first
        | (go_at_call 16; refine (HF.out _).mono ?_; rintro e w1 ⟨rfl, hw⟩; subst w1)
        | go_in)
      apply HX.out; exact (below_dn w _)

set_option maxHeartbeats 8000000 in
set_option maxRecDepth 100000 in
theorem runW (pw g n cap rg : Nat) (v mc : Nat) (mo : Option Addr) (L : List Fl) (p s2 t : ByteArray) (w : World) (hpw : w.cell? ⟨pw, 0, none⟩ = some (.slice (some ⟨g, 0, none⟩) n cap)) (h0 : w.cell? ⟨g, 0, none⟩ = some (.string ⟨#[114, 117, 110]⟩)) (hn : 2 < n) (h1 : w.cell? ⟨g, 1, none⟩ = some (.string p)) (h2 : w.cell? ⟨g, 2, none⟩ = some (.string s2)) (hs2 : 0 < s2.size) (hr2 : s2[0].toNat = 97 + v) (hv : v < 8) (ht : w.cell? ⟨rg, v, none⟩ = some (.string t)) (hL : IsFl w mo L) (htr : TrOk L) (Q0 : Exit → Act → World → Prop)
    (HX : Hid (∀ (Bk Bm Bq Bt Cx Cy Cz Db Dc Df Dg Dh Dj Dk Dm Dq Dt Dv Dw Dx Dy Dz Eb Ec Ef Eg Eh Ej Ek Em Eq Et Ev Ew Ex Ey Ez Gb Gc Gf Gg Gh Gj Gk Gm Gq Gt Gv Gw Gx Gy Gz Hb Hc Hf Hg Hh Hj Hk Hm Hq Ht Hv Hw Hx Hy Hz Ib Ic If Ig Ih Ij Ik Im Iq It Iv Iw Ix Iy Iz Jb Jc Jf Jg Jh Jj Jk Jm Jq Jt Jv Jw Jx Jy Jz Kb Kc Kf Kg Kh Kj Kk Km Kq Kt Kv Kw Kx Ky Kz Mb Mc Mf Mg Mh Mj Mk Mm Mq Mt Mv Mw Mx My Mz Nb Nc Nf Ng Nh Nj Nk Nm Nq Nt Nv Nw Nx Ny Nz Ob Oc Of Og Oh Oj Ok Om Oq Ot Ov Ow Ox Oy Oz Pb Pc Pf Pg Ph Pj Pk Pm Pq Pt Pv Pw Px Py Pz Rb Rc Rf Rg Rh : Value) (w' : World), Hid (Below w.heap.size w w') → Q0 .normal ⟨#[A0,A1,A2,A3,A4,A5,A6,A7,A8,.slice (some ⟨rg, 0, none⟩) 8 8,.slice mo L.length mc,B1,B2,B3,.pointer (some ⟨pw, 0, none⟩),.func (.func 45) #[] #[.pointer (some ⟨pw, 0, none⟩)],B6,.int .i64 (cdX (!mayF L p)),.int .i64 (-1),.string t,.string p,Bk,Bm,Bq,Bt,C5,C6,C7,C8,C9,D0,D1,D2,D3,D4,D5,D6,D7,D8,D9,E0,E1,Cx,Cy,Cz,Db,Dc,Df,Dg,Dh,Dj,Dk,Dm,Dq,Dt,Dv,Dw,Dx,Dy,Dz,Eb,Ec,Ef,Eg,Eh,Ej,Ek,Em,Eq,Et,Ev,Ew,Ex,Ey,Ez,Gb,Gc,Gf,Gg,Gh,Gj,Gk,Gm,Gq,Gt,Gv,Gw,Gx,Gy,Gz,Hb,Hc,Hf,Hg,Hh,Hj,Hk,Hm,Hq,Ht,Hv,Hw,Hx,Hy,Hz,Ib,Ic,If,Ig,Ih,Ij,Ik,Im,Iq,It,Iv,Iw,Ix,Iy,Iz,Jb,Jc,Jf,Jg,Jh,Jj,Jk,Jm,Jq,Jt,Jv,Jw,Jx,Jy,Jz,Kb,Kc,Kf,Kg,Kh,Kj,Kk,Km,Kq,Kt,Kv,Kw,Kx,Ky,Kz,Mb,Mc,Mf,Mg,Mh,Mj,Mk,Mm,Mq,Mt,Mv,Mw,Mx,My,Mz,Nb,Nc,Nf,Ng,Nh,Nj,Nk,Nm,Nq,Nt,Nv,Nw,Nx,Ny,Nz,Ob,Oc,Of,Og,Oh,Oj,Ok,Om,Oq,Ot,Ov,Ow,Ox,Oy,Oz,Pb,Pc,Pf,Pg,Ph,Pj,Pk,Pm,Pq,Pt,Pv,Pw,Px,Py,Pz,Rb,Rc,Rf,Rg,Rh,Y5,Y6,Y7,Y8,Y9,Z0,Z1,Z2,Z3,Z4,Z5,Z6,Z7,Z8,Z9,j0,j1,j2,j3,j4,j5,j6,j7,j8,j9,o0,o1,o2,o3,o4,o5,o6,o7,o8,o9,y0,y1,y2,y3,y4,y5,y6,y7,y8,y9,z0,z1,z2,z3,z4,z5,z6,z7,z8,z9,x0,x1,x2,x3,x4,x5,x6,x7,x8,x9,i0,i1,i2,i3,i4,i5,i6,i7,i8,i9,d0,d1,d2,d3,d4,d5,d6,d7,d8,d9,e0,e1,e2,e3,e4,e5,e6,e7,e8,e9,f0,f1,f2,f3,f4,f5,f6,f7,f8,f9,p0,p1,p2,p3,p4,p5,p6,p7,p8,p9,v0,v1,v2,v3,v4,v5,v6,v7,v8], []⟩ w')) :
    Code.wp Tryz.prog (subC [true, true, true, true, false, true, false, false, true, false, true, true, true, true, true, true, true, false] (Tryz.f25.body.getD .skip)) Q0 ⟨#[A0,A1,A2,A3,A4,A5,A6,A7,A8,.slice (some ⟨rg, 0, none⟩) 8 8,.slice mo L.length mc,B1,B2,B3,.pointer (some ⟨pw, 0, none⟩),.func (.func 45) #[] #[.pointer (some ⟨pw, 0, none⟩)],B6,.int .i64 0,.int .i64 (-1),.string ⟨#[]⟩,.string ⟨#[]⟩,C1,C2,C3,C4,C5,C6,C7,C8,C9,D0,D1,D2,D3,D4,D5,D6,D7,D8,D9,E0,E1,E2,E3,E4,E5,E6,E7,E8,E9,G0,G1,G2,G3,G4,G5,G6,G7,G8,G9,H0,H1,H2,H3,H4,H5,H6,H7,H8,H9,I0,I1,I2,I3,I4,I5,I6,I7,I8,I9,J0,J1,J2,J3,J4,J5,J6,J7,J8,J9,K0,K1,K2,K3,K4,K5,K6,K7,K8,K9,M0,M1,M2,M3,M4,M5,M6,M7,M8,M9,N0,N1,N2,N3,N4,N5,N6,N7,N8,N9,O0,O1,O2,O3,O4,O5,O6,O7,O8,O9,P0,P1,P2,P3,P4,P5,P6,P7,P8,P9,R0,R1,R2,R3,R4,R5,R6,R7,R8,R9,S0,S1,S2,S3,S4,S5,S6,S7,S8,S9,T0,T1,T2,T3,T4,T5,T6,T7,T8,T9,U0,U1,U2,U3,U4,U5,U6,U7,U8,U9,V0,V1,V2,V3,V4,V5,V6,V7,V8,V9,W0,W1,W2,W3,W4,W5,W6,W7,W8,W9,X0,X1,X2,X3,X4,X5,X6,X7,X8,X9,Y0,Y1,Y2,Y3,Y4,Y5,Y6,Y7,Y8,Y9,Z0,Z1,Z2,Z3,Z4,Z5,Z6,Z7,Z8,Z9,j0,j1,j2,j3,j4,j5,j6,j7,j8,j9,o0,o1,o2,o3,o4,o5,o6,o7,o8,o9,y0,y1,y2,y3,y4,y5,y6,y7,y8,y9,z0,z1,z2,z3,z4,z5,z6,z7,z8,z9,x0,x1,x2,x3,x4,x5,x6,x7,x8,x9,i0,i1,i2,i3,i4,i5,i6,i7,i8,i9,d0,d1,d2,d3,d4,d5,d6,d7,d8,d9,e0,e1,e2,e3,e4,e5,e6,e7,e8,e9,f0,f1,f2,f3,f4,f5,f6,f7,f8,f9,p0,p1,p2,p3,p4,p5,p6,p7,p8,p9,v0,v1,v2,v3,v4,v5,v6,v7,v8], []⟩ w := by
  have HR2 : Hid (∀ W : World, W.heap = w.heap → Calls Tryz.prog 45 #[.int .i64 2, .pointer (some ⟨pw, 0, none⟩)] W fun e w' => e = .returned (.int .i64 (v : Int)) ∧ w' = W) := fun W hW => reg_call pw g 2 n cap s2 v W (by rw [cell_heap hW]; exact hpw) (by omega) (by rw [cell_heap hW]; exact h2) hs2 hr2
  have hcell1 := h1
  have HFa : Hid (∀ m : Nat, Calls Tryz.prog 16 #[.slice mo L.length mc, .string p] (w.drewN m) fun e w' => ∃ i, e = .returned (.int .i64 i) ∧ FaR L p.data.toList i ∧ w' = w.drewN m) := fun m => FileAt_any mo mc L p (w.drewN m) (hL.up (below_dn w m)) (by have := htr.ln; omega)
  have HL : Hid ((∀ m : Nat, IsFl (w.drewN m) mo L) ∧ L.length ≤ 60) := ⟨fun m => hL.up (below_dn w m), htr.ln⟩
  have HM : Hid ((inX L p || (!(L.any fun f => decide (pth f = p.data.toList)) && decide (L.length = 60))) = !mayF L p) := may_doc htr p
  have hni : (0 : Int) < (n : Int) := by omega
  have hn1 : (1 : Int) < (n : Int) := by omega
  have hvi : (v : Int) < 8 := by omega
  have hll : (L.length : Int) ≤ 60 := by have := htr.ln; omega
  clear hn h2 hs2 hr2 hv hL htr h1
  obtain ⟨TL, hTL⟩ : ∃ c, c = (subC [true, true, true, true, false, true, false, false, true, false, true, true, true, true, true, true, true, false, true, false, true, true, true, true, true, true, true, true, true, true, true, true, true, true, true, false, true, false, true, false] (Tryz.f25.body.getD .skip)) := ⟨_, rfl⟩
  have HTL : Hid (TL = (subC [true, true, true, true, false, true, false, false, true, false, true, true, true, true, true, true, true, false, true, false, true, true, true, true, true, true, true, true, true, true, true, true, true, true, true, false, true, false, true, false] (Tryz.f25.body.getD .skip))) := hTL
  have hlit := hTL.symm
  conv at hlit => lhs; whnf
  conv => arg 2; whnf
  rw [hlit]
  clear hlit hTL
  dsimp only
  go_wp2
  go_quiet ((go_at_call 45; refine Calls.quiet_of_same (HR2.out _ rfl)))
  go_wp2
  rw [HTL.out]
  refine madeL mo mc L p _ (HL.out.1 _) HL.out.2 _ ?_
  intro Oh Oj Ok Om Oq Ot Ov Ow Ox Oy Oz Pb Pc Pf Pg Ph Pj Pk Pm Pq Pt Pv
  by_cases hA : (L.any fun f => decide (pth f = p.data.toList)) = true
  · have hE : cdX (inX L p) = cdX (!mayF L p) := by have := HM.out; rw [hA] at this; simp only [Bool.not_true, Bool.false_and, Bool.or_false] at this; rw [this]
    have HF : Hid (∀ m : Nat, Calls Tryz.prog 16 #[.slice mo L.length mc, .string p] (w.drewN m) fun e w' => ∃ j : Nat, e = .returned (.int .i64 (j : Int)) ∧ w' = w.drewN m) := fun m => (HFa.out m).mono fun e w' ⟨i, q1, q2, q3⟩ => by
      rcases q2 with ⟨_, q2⟩ | ⟨j, _, q2, _⟩
      · obtain ⟨f, hf, e⟩ := List.any_eq_true.1 hA
        exact absurd (of_decide_eq_true e) (q2 f hf)
      · exact ⟨j, by rw [q1, q2], q3⟩
    rw [hE]
    clear hE hA HM HFa
    generalize cdX (!mayF L p) = cc at *
    go_wp2_with (first
      | (go_at_call 16; refine (HF.out _).mono ?_; rintro e w1 ⟨j, rfl, hw⟩; subst w1; have hj0 : ¬ (j : Int) < 0 := (by omega))
      | go_in)
    apply HX.out; exact (below_dn w _)
  · have hA2 : (L.any fun f => decide (pth f = p.data.toList)) = false := by simpa using hA
    have HF : Hid (∀ m : Nat, Calls Tryz.prog 16 #[.slice mo L.length mc, .string p] (w.drewN m) fun e w' => e = .returned (.int .i64 (-1)) ∧ w' = w.drewN m) := fun m => (HFa.out m).mono fun e w' ⟨i, q1, q2, q3⟩ => by
      rcases q2 with ⟨q2, _⟩ | ⟨j, hj, _, q2, _⟩
      · exact ⟨by rw [q1, q2], q3⟩
      · exact absurd (List.any_eq_true.2 ⟨L[j], List.getElem_mem hj, decide_eq_true q2⟩) hA
    by_cases h60 : L.length = 60
    · have HE : Hid (cdX (!mayF L p) = 103) := by have := HM.out; rw [hA2, decide_eq_true h60] at this; simp only [Bool.not_false, Bool.true_and, Bool.or_true] at this; show _ = _; rw [← this]; rfl
      have h60i : (L.length : Int) = 60 := by omega
      generalize cdX (!mayF L p) = cc at *
      clear hA hA2 HM HFa h60
      generalize cdX (inX L p) = cx at *
      go_wp2_with (first
        | (go_at_call 16; refine (HF.out _).mono ?_; rintro e w1 ⟨rfl, hw⟩; subst w1)
        | go_in)
      rw [HE.out] at HX
      apply HX.out; exact (below_dn w _)
    · have hE : cdX (inX L p) = cdX (!mayF L p) := by have := HM.out; rw [hA2, decide_eq_false h60] at this; simp only [Bool.and_false, Bool.or_false] at this; rw [this]
      have h60i : ¬ (L.length : Int) = 60 := by omega
      rw [hE]
      clear hA hA2 HM HFa h60 hE
      generalize cdX (!mayF L p) = cc at *
      go_wp2_with (first
        | (go_at_call 16; refine (HF.out _).mono ?_; rintro e w1 ⟨rfl, hw⟩; subst w1)
        | go_in)
      apply HX.out; exact (below_dn w _)
end Go.Proofs.YtapiedeekbfpnaaGreatDoor
