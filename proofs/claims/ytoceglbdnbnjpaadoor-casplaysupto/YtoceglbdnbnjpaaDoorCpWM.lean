/- The document's Kept: a text is put, and others go. -/
import Derived.Test.YtoceglbdnbnjpaaDoorCpVM
namespace Go.Proofs.YtoceglbdnbnjpaaDoor
open Go.RowKit Go.Shelf Go.Sort
attribute [local go_sem ↓] appS_eq

def klen (W : World) (R : Nat) : Nat := match W.cell? ⟨R, 1, none⟩ with | some (.slice _ n _) => n | _ => 0
theorem klen_of {B R : Nat} {r : Int} {tv pv : Value} {K : List Kt} {W : World} (h : KD B R r tv pv K W) : klen W R = K.length := by
  unfold klen
  rw [h.c1]
  obtain ⟨a, c, e⟩ := h.tr.shape
  rw [e]

section
variable {B R rm : Nat} {tv pv : Value} {L : List Kt} {w0 : World}

set_option maxHeartbeats 40000000 in
set_option maxRecDepth 100000 in
theorem KPut_new (h0 : KD B R (rm : Int) tv pv L w0) (hn : L.length ≤ 900) (hz : ∀ x ∈ L, x.1.size ≤ 100000) (s : ByteArray) (hs : s.size ≤ 100000) (hat : kat L (smB s) = none) (hu : kus true L + s.size ≤ rm) :
    Calls Tryd.prog 15 #[.pointer (some ⟨R, 0, none⟩), .string s] w0 fun e w' => e = .returned (.int .i64 0) ∧ KFin B R (rm : Int) (rid R (krs tv pv L)) w0 (kgon rm s.size L.length L ++ [(s, 0)]) w' := by
  have HS : Hid (Calls Tryd.prog 11 #[.string s] w0 fun e w' => e = .returned (.string (smB s)) ∧ Below w0.heap.size w0 w') := RSm_any s w0 (by omega)
  have HA : Hid (∀ w1, Below w0.heap.size w0 w1 → Calls Tryd.prog 13 #[.pointer (some ⟨R, 0, none⟩), .string (smB s)] w1 fun e w' => e = .returned (.int .i64 (-1)) ∧ Below w1.heap.size w1 w') := fun w1 hb => by
    have := KAt_any (h0.up hb) (by omega) (fun x hx => by have := hz x hx; omega) (smB s)
    unfold katI at this
    rw [hat] at this
    exact this
  have hul := kus_le true L hz
  have hul2 : kus true L ≤ 100000000 := Nat.le_trans hul (Nat.mul_le_mul_right 100000 (show L.length ≤ 1000 by omega))
  obtain ⟨u, eu⟩ : ∃ u, u = kus true L := ⟨_, rfl⟩
  have HU : Hid (∀ w1, Below w0.heap.size w0 w1 → Calls Tryd.prog 24 #[.pointer (some ⟨R, 0, none⟩), .bool true] w1 fun e w' => e = .returned (.int .i64 (u : Int)) ∧ w' = w1) := fun w1 hb => by
    rw [eu]
    exact KUsed_any (h0.up hb) (by omega) (fun x hx => by have := hz x hx; omega) true
  have H0 : Hid (∀ w1, Below w0.heap.size w0 w1 → w1.cell? ⟨R, 0, none⟩ = some (.int .i64 (rm : Int))) := fun w1 hb => (h0.up hb).c0
  have HG0 : Hid (KG rm s.size L L 0) := KG.start hu
  have HD0 : Hid (∀ w1, Below w0.heap.size w0 w1 → KD B R (rm : Int) tv pv L w1) := fun w1 hb => h0.up hb
  rw [← eu] at hu hul2
  obtain ⟨t, et⟩ : ∃ t, t = u + s.size := ⟨_, rfl⟩
  have e1 : (u : Int) + (s.size : Int) = (t : Int) := by omega
  have e2 : IntKind.i64.wrap (t : Int) = (t : Int) := by rw [IntKind.wrap_i64]; omega
  have e3 : ¬ (rm : Int) < (t : Int) := by omega
  have hsi : ¬ (100000 : Int) < (s.size : Int) := by omega
  have HZ : Hid ((∀ x ∈ L, x.1.size ≤ 100000) ∧ L.length ≤ 900 ∧ s.size ≤ 100000) := ⟨hz, hn, hs⟩
  generalize smB s = d at HS HA
  clear hs hat hz hn h0 hu hul hul2 eu et
  go_enter Tryd.func15, Tryd.ntmps15
  go_wp2_with fail
  refine HS.out.mono ?_
  rintro e w1 ⟨rfl, hb1⟩
  have HB1 : Hid (Below w0.heap.size w0 w1) := hb1
  clear hb1
  go_wp2_with fail
  refine (HA.out w1 HB1.out).mono ?_
  rintro e w2 ⟨rfl, hb2⟩
  have HB2 : Hid (Below w0.heap.size w0 w2) := bl_tr HB1.out hb2
  clear hb2
  have c0 := H0.out w2 HB2.out
  go_wp2_with fail
  go_quiet ((go_at_call 24; refine Calls.quiet_of_same (HU.out _ (bl_drewN HB2.out _))))
  have HB3 : Hid (Below w0.heap.size w0 (w2.drewN nq)) := bl_drewN HB2.out _
  generalize w2.drewN nq = w3 at HB3 ⊢
  go_wp2
  have hdt : decide (rm < t) = false := decide_eq_false (by omega)
  rw [hdt]
  clear c0 e1 e2 e3 HB1 HB2 HU HA HS hdt
  go_loopw [6] (fun v wr => ∃ (i : Nat) (K : List Kt) (tv' pv' : Value), v = .int .i64 (i : Int) ∧ Hid (KG rm s.size L K i) ∧ Hid (KD B R (rm : Int) tv' pv' K wr) ∧ Hid (Upd (rid R (krs tv pv L)) (rid R (krs tv' pv' K)) w0 wr)) (fun v wr => klen wr R - (RowKit.intOf v).toNat)
  case atStart => exact ⟨0, L, tv, pv, rfl, HG0, HD0.out _ HB3.out, Upd.of_below HB3.out⟩
  case round =>
    obtain ⟨i, K, tv', pv', rfl, HG, HD, HU⟩ := hrel
    have hKz : ∀ x ∈ K, x.1.size ≤ 100000 := fun x hx => HZ.out.1 x (HG.out.sub x hx)
    have hKn : K.length ≤ 900 := Nat.le_trans HG.out.len HZ.out.2.1
    have hu2 : kus false K ≤ 100000000 := Nat.le_trans (kus_le false K hKz) (Nat.mul_le_mul_right 100000 (show K.length ≤ 1000 by omega))
    obtain ⟨u2, eu2⟩ : ∃ u2, u2 = kus false K := ⟨_, rfl⟩
    have HUs : Hid (∀ m, Calls Tryd.prog 24 #[.pointer (some ⟨R, 0, none⟩), .bool false] (wr.drewN m) fun e w' => e = .returned (.int .i64 (u2 : Int)) ∧ w' = wr.drewN m) := fun m => by
      rw [eu2]
      exact KUsed_any (DS.keep (W' := wr.drewN m) HD.out fun _ _ => rfl) (by omega) (fun x hx => by have := hKz x hx; omega) false
    rw [← eu2] at hu2
    obtain ⟨t2, et2⟩ : ∃ t2, t2 = u2 + s.size := ⟨_, rfl⟩
    have hsz := HZ.out.2.2
    have e1 : (u2 : Int) + (s.size : Int) = (t2 : Int) := by omega
    have e2 : IntKind.i64.wrap (t2 : Int) = (t2 : Int) := by rw [IntKind.wrap_i64]; omega
    have c0 := HD.out.c0
    have HL0 : Hid (klen wr R = K.length) := klen_of HD.out
    by_cases hlt : rm < t2
    · have e3 : (rm : Int) < (t2 : Int) := by omega
      have hnu : ¬ kus false K + s.size ≤ rm := by omega
      have hiK := HG.out.lt hnu
      have HN1 : Hid (¬ kus false K + s.size ≤ rm) := hnu
      clear hu2 et2 eu2 hsz hnu hlt
      go_wp2_with fail
      go_quiet ((go_at_call 24; refine Calls.quiet_of_same (HUs.out _)))
      have HD2 : Hid (KD B R (rm : Int) tv' pv' K (wr.drewN nq)) := DS.keep HD.out fun _ _ => rfl
      have HU2 : Hid (Upd (rid R (krs tv pv L)) (rid R (krs tv' pv' K)) w0 (wr.drewN nq)) := HU.out.drewN _
      generalize wr.drewN nq = wr2 at HD2 HU2 ⊢
      clear c0 HUs
      obtain ⟨gp, cp, hv, cq⟩ := HD2.out.p i hiK
      subst hv
      have c2 := HD2.out.c2
      have hin : (i : Int) < (K.length : Int) := by omega
      by_cases hq : (K[i]).2 = 0
      · have HT : Hid (Calls Tryd.prog 41 #[.pointer (some ⟨R, 0, none⟩), .int .i64 (i : Int)] wr2 fun e w' => e = .returned (.tuple #[.string (K[i]).1, .int .i64 ((K[i]).2 : Int)]) ∧ Hid (∃ tv2 pv2, KD B R (rm : Int) tv2 pv2 (kcut K i) w' ∧ Upd (rid R (krs tv pv L)) (rid R (krs tv2 pv2 (kcut K i))) w0 w')) := (Ktake_any HD2.out (by omega) i hiK).mono fun e w' ⟨q1, a, b, q2, q3⟩ => ⟨q1, a, b, q2, HU2.out.trans q3⟩
        have HG2 : Hid (KG rm s.size L (kcut K i) i) := HG.out.take HN1.out hiK hq
        have HM : Hid (∀ w' tv2 pv2, KD B R (rm : Int) tv2 pv2 (kcut K i) w' → klen w' R - i < klen wr R - i) := fun w' _ _ h => by
          rw [klen_of h, HL0.out, kcut_len hiK]
          omega
        rw [hq] at cq
        generalize (K[i]).2 = q9 at HT
        generalize (K[i]).1 = s9 at HT
        clear hq hiK hKz hKn
        go_wp2_with fail
        refine HT.out.mono ?_
        rintro e w4 ⟨rfl, HX⟩
        go_wp2
        obtain ⟨a, b, x1, x2⟩ := HX.out
        exact ⟨⟨i, kcut K i, a, b, rfl, HG2, x1, x2⟩, HM.out _ _ _ x1⟩
      · have hqi : (0 : Int) < ((K[i]).2 : Int) := by omega
        have HG2 : Hid (KG rm s.size L K (i + 1)) := HG.out.next hiK hq
        have HM : Hid (klen wr2 R - (i + 1) < klen wr R - i) := by
          unfold Hid
          rw [klen_of HD2.out, HL0.out]
          omega
        obtain ⟨i1, hi1⟩ : ∃ i1, i1 = i + 1 := ⟨_, rfl⟩
        have f1 : (i : Int) + 1 = (i1 : Int) := by omega
        have f2 : IntKind.i64.wrap (i1 : Int) = (i1 : Int) := by rw [IntKind.wrap_i64]; omega
        rw [← hi1] at HG2 HM
        generalize (K[i]).2 = q at cq hqi
        clear hq hiK hKz hKn hi1
        go_wp2
        exact ⟨⟨i1, K, _, _, rfl, HG2, HD2, HU2⟩, HM.out⟩
    · have e3 : ¬ (rm : Int) < (t2 : Int) := by omega
      have HE : Hid (K = kgon rm s.size L.length L) := HG.out.fin (by omega)
      clear hu2 et2 eu2 hsz hlt
      go_wp2_with fail
      go_quiet ((go_at_call 24; refine Calls.quiet_of_same (HUs.out _)))
      have h : KD B R (rm : Int) tv' pv' K (wr.drewN nq) := DS.keep HD.out fun _ _ => rfl
      have HU2 : Hid (Upd (rid R (krs tv pv L)) (rid R (krs tv' pv' K)) w0 (wr.drewN nq)) := HU.out.drewN _
      generalize wr.drewN nq = w at h HU2 ⊢
      have hn9 : K.length ≤ 1000 := by omega
      clear c0 HUs HD HU HL0 hKz hKn
      obtain ⟨aT, cT, hv⟩ := h.tr.shape
      subst hv
      obtain ⟨aP, cP, hv⟩ := h.pr.shape
      subst hv
      obtain ⟨n, hnK⟩ : ∃ n, n = K.length := ⟨_, rfl⟩
      have S0 := AS.start h
      unfold krs at S0
      rw [← hnK] at h S0 hn9
      have hl1 : ∀ g, (Value.slice aT n cT).ownBlock = some g → g < w.heap.size := fun g hg => (h.tr.lt g hg).2
      have hl2 : ∀ g, (Value.slice aP n cP).ownBlock = some g → g < w.heap.size := fun g hg => (h.pr.lt g hg).2
      obtain ⟨i1, hi1, z10, z11, z12⟩ := inf_parts infS1
      obtain ⟨i2, hi2, z20, z21, z22⟩ := inf_parts infI1
      have L1_1 : w.drew.cell? ⟨R, 1, none⟩ = some (.slice aT n cT) := AS.cellR S0.drew h.c1
      have L1_2 : w.drew.cell? ⟨R, 2, none⟩ = some (.slice aP n cP) := AS.cellR S0.drew h.c2
      have S1 := S0.al (.cells #[.string s] 9)
      have Z1 : (w.alloc (.cells #[.string s] 9)).heap.size = w.heap.size + 1 := by rw [World.size_alloc, (rfl : w.heap.size = w.heap.size)]
      have F1_1 := heap_alloc_new w (.cells #[.string s] 9)
      rw [(rfl : w.heap.size = w.heap.size)] at F1_1
      have L2_1 : (w.alloc (.cells #[.string s] 9)).drew.cell? ⟨R, 1, none⟩ = some (.slice aT n cT) := AS.cellR S1.drew h.c1
      have L2_2 : (w.alloc (.cells #[.string s] 9)).drew.cell? ⟨R, 2, none⟩ = some (.slice aP n cP) := AS.cellR S1.drew h.c2
      have S2 := S1.al (.cells #[.int .i64 0] 3)
      have Z2 : ((w.alloc (.cells #[.string s] 9)).alloc (.cells #[.int .i64 0] 3)).heap.size = w.heap.size + 1 + 1 := by rw [World.size_alloc, Z1]
      have F2_1 := (heap_al (w.alloc (.cells #[.string s] 9)) (.cells #[.int .i64 0] 3) (w.heap.size) (Array.getElem?_eq_some_iff.1 F1_1).1).trans F1_1
      have F2_2 := heap_alloc_new (w.alloc (.cells #[.string s] 9)) (.cells #[.int .i64 0] 3)
      rw [Z1] at F2_2
      have L3_1 : ((w.alloc (.cells #[.string s] 9)).alloc (.cells #[.int .i64 0] 3)).drew.cell? ⟨R, 1, none⟩ = some (.slice aT n cT) := AS.cellR S2.drew h.c1
      have L3_2 : ((w.alloc (.cells #[.string s] 9)).alloc (.cells #[.int .i64 0] 3)).drew.cell? ⟨R, 2, none⟩ = some (.slice aP n cP) := AS.cellR S2.drew h.c2
      obtain ⟨g3, c3, x3, r3, S3, k3⟩ := AS.app (X := ((w.alloc (.cells #[.string s] 9)).alloc (.cells #[.int .i64 0] 3)).drew) (l1 := []) (r := ⟨(.slice aT n cT), 9, 1, n, (ktx K)⟩) (l2 := [⟨(.slice aP n cP), 3, 1, n, (kpn K)⟩]) S2.drew 1 rfl 30 30 i1 (.string ⟨#[]⟩) 16 Tryd.underlying30 hi1 z10 z11 z12 rfl rfl (w.heap.size) (.string s) F2_1 rfl hn9 (by decide)
      have s3 : w.heap.size ≤ x3.heap.size := by have := S3.up.size; rwa [pnd_size] at this
      have F3_2 := (k3 (w.heap.size + 1) (Array.getElem?_eq_some_iff.1 F2_2).1 (fun e => by have := hl1 _ e; omega)).trans F2_2
      have L4_2 : x3.cell? ⟨R, 2, none⟩ = some (.slice aP n cP) := AS.cellR S3 h.c2
      obtain ⟨g4, c4, x4, r4, S4, k4⟩ := AS.app (X := x3) (l1 := [⟨.slice (some ⟨g3, 0, none⟩) (n + 1) c3, 9, 1, n + 1, (ktx K) ++ [(.string s)]⟩]) (r := ⟨(.slice aP n cP), 3, 1, n, (kpn K)⟩) (l2 := []) S3 2 rfl 31 31 i2 (.int .i64 0) 8 Tryd.underlying31 hi2 z20 z21 z22 rfl rfl (w.heap.size + 1) (.int .i64 0) F3_2 rfl hn9 (by decide)
      have s4 : w.heap.size ≤ x4.heap.size := by have := S4.up.size; rwa [pnd_size] at this
      obtain ⟨g5, c5, x5, r5, S5, k5⟩ := AS.app (X := (w.alloc (.cells #[.string s] 9)).drew) (l1 := []) (r := ⟨(.slice aT n cT), 9, 1, n, (ktx K)⟩) (l2 := [⟨(.slice aP n cP), 3, 1, n, (kpn K)⟩]) S1.drew 1 rfl 30 30 i1 (.string ⟨#[]⟩) 16 Tryd.underlying30 hi1 z10 z11 z12 rfl rfl (w.heap.size) (.string s) F1_1 rfl hn9 (by decide)
      have s5 : w.heap.size ≤ x5.heap.size := by have := S5.up.size; rwa [pnd_size] at this
      have L5_2 : x5.cell? ⟨R, 2, none⟩ = some (.slice aP n cP) := AS.cellR S5 h.c2
      have S6 := S5.al (.cells #[.int .i64 0] 3)
      have Z6 : (x5.alloc (.cells #[.int .i64 0] 3)).heap.size = x5.heap.size + 1 := by rw [World.size_alloc, (rfl : x5.heap.size = x5.heap.size)]
      have F6_2 := heap_alloc_new x5 (.cells #[.int .i64 0] 3)
      rw [(rfl : x5.heap.size = x5.heap.size)] at F6_2
      have L6_2 : (x5.alloc (.cells #[.int .i64 0] 3)).cell? ⟨R, 2, none⟩ = some (.slice aP n cP) := AS.cellR S6 h.c2
      obtain ⟨g7, c7, x7, r7, S7, k7⟩ := AS.app (X := (x5.alloc (.cells #[.int .i64 0] 3))) (l1 := [⟨.slice (some ⟨g5, 0, none⟩) (n + 1) c5, 9, 1, n + 1, (ktx K) ++ [(.string s)]⟩]) (r := ⟨(.slice aP n cP), 3, 1, n, (kpn K)⟩) (l2 := []) S6 2 rfl 31 31 i2 (.int .i64 0) 8 Tryd.underlying31 hi2 z20 z21 z22 rfl rfl (x5.heap.size) (.int .i64 0) F6_2 rfl hn9 (by decide)
      have s7 : w.heap.size ≤ x7.heap.size := by have := S7.up.size; rwa [pnd_size] at this
      have S8 := S0.al (.cells #[.int .i64 0] 3)
      have Z8 : (w.alloc (.cells #[.int .i64 0] 3)).heap.size = w.heap.size + 1 := by rw [World.size_alloc, (rfl : w.heap.size = w.heap.size)]
      have F8_2 := heap_alloc_new w (.cells #[.int .i64 0] 3)
      rw [(rfl : w.heap.size = w.heap.size)] at F8_2
      have L7_1 : (w.alloc (.cells #[.int .i64 0] 3)).drew.cell? ⟨R, 1, none⟩ = some (.slice aT n cT) := AS.cellR S8.drew h.c1
      have L7_2 : (w.alloc (.cells #[.int .i64 0] 3)).drew.cell? ⟨R, 2, none⟩ = some (.slice aP n cP) := AS.cellR S8.drew h.c2
      have S9 := S8.al (.cells #[.string s] 9)
      have Z9 : ((w.alloc (.cells #[.int .i64 0] 3)).alloc (.cells #[.string s] 9)).heap.size = w.heap.size + 1 + 1 := by rw [World.size_alloc, Z8]
      have F9_2 := (heap_al (w.alloc (.cells #[.int .i64 0] 3)) (.cells #[.string s] 9) (w.heap.size) (Array.getElem?_eq_some_iff.1 F8_2).1).trans F8_2
      have F9_1 := heap_alloc_new (w.alloc (.cells #[.int .i64 0] 3)) (.cells #[.string s] 9)
      rw [Z8] at F9_1
      have L8_1 : ((w.alloc (.cells #[.int .i64 0] 3)).alloc (.cells #[.string s] 9)).drew.cell? ⟨R, 1, none⟩ = some (.slice aT n cT) := AS.cellR S9.drew h.c1
      have L8_2 : ((w.alloc (.cells #[.int .i64 0] 3)).alloc (.cells #[.string s] 9)).drew.cell? ⟨R, 2, none⟩ = some (.slice aP n cP) := AS.cellR S9.drew h.c2
      obtain ⟨g10, c10, x10, r10, S10, k10⟩ := AS.app (X := ((w.alloc (.cells #[.int .i64 0] 3)).alloc (.cells #[.string s] 9)).drew) (l1 := []) (r := ⟨(.slice aT n cT), 9, 1, n, (ktx K)⟩) (l2 := [⟨(.slice aP n cP), 3, 1, n, (kpn K)⟩]) S9.drew 1 rfl 30 30 i1 (.string ⟨#[]⟩) 16 Tryd.underlying30 hi1 z10 z11 z12 rfl rfl (w.heap.size + 1) (.string s) F9_1 rfl hn9 (by decide)
      have s10 : w.heap.size ≤ x10.heap.size := by have := S10.up.size; rwa [pnd_size] at this
      have F10_2 := (k10 (w.heap.size) (Array.getElem?_eq_some_iff.1 F9_2).1 (fun e => by have := hl1 _ e; omega)).trans F9_2
      have L9_2 : x10.cell? ⟨R, 2, none⟩ = some (.slice aP n cP) := AS.cellR S10 h.c2
      obtain ⟨g11, c11, x11, r11, S11, k11⟩ := AS.app (X := x10) (l1 := [⟨.slice (some ⟨g10, 0, none⟩) (n + 1) c10, 9, 1, n + 1, (ktx K) ++ [(.string s)]⟩]) (r := ⟨(.slice aP n cP), 3, 1, n, (kpn K)⟩) (l2 := []) S10 2 rfl 31 31 i2 (.int .i64 0) 8 Tryd.underlying31 hi2 z20 z21 z22 rfl rfl (w.heap.size) (.int .i64 0) F10_2 rfl hn9 (by decide)
      have s11 : w.heap.size ≤ x11.heap.size := by have := S11.up.size; rwa [pnd_size] at this
      obtain ⟨A0, B0, C0, D0⟩ := AS.stores2 S4 h (.slice (some ⟨g3, 0, none⟩) (n + 1) c3)
      have HF0 : Hid (KFin B R (rm : Int) (rid R (krs (.slice aT n cT) (.slice aP n cP) K)) w (K ++ [(s, 0)]) ((x4.setCell ⟨R, 1, none⟩ (.slice (some ⟨g3, 0, none⟩) (n + 1) c3)).setCell ⟨R, 2, none⟩ (.slice (some ⟨g4, 0, none⟩) (n + 1) c4))) := kfin hnK S4
      obtain ⟨A1, B1, C1, D1⟩ := AS.stores2 S7 h (.slice (some ⟨g5, 0, none⟩) (n + 1) c5)
      have HF1 : Hid (KFin B R (rm : Int) (rid R (krs (.slice aT n cT) (.slice aP n cP) K)) w (K ++ [(s, 0)]) ((x7.setCell ⟨R, 1, none⟩ (.slice (some ⟨g5, 0, none⟩) (n + 1) c5)).setCell ⟨R, 2, none⟩ (.slice (some ⟨g7, 0, none⟩) (n + 1) c7))) := kfin hnK S7
      obtain ⟨A2, B2, C2, D2⟩ := AS.stores2 S11 h (.slice (some ⟨g10, 0, none⟩) (n + 1) c10)
      have HF2 : Hid (KFin B R (rm : Int) (rid R (krs (.slice aT n cT) (.slice aP n cP) K)) w (K ++ [(s, 0)]) ((x11.setCell ⟨R, 1, none⟩ (.slice (some ⟨g10, 0, none⟩) (n + 1) c10)).setCell ⟨R, 2, none⟩ (.slice (some ⟨g11, 0, none⟩) (n + 1) c11))) := kfin hnK S11
      clear s11 k11 S11 s10 k10 S10 F10_2 Z9 S9 F9_1 F9_2 Z8 S8 F8_2 s7 k7 S7 Z6 S6 F6_2 s5 k5 S5 s4 k4 S4 s3 k3 S3 F3_2 Z2 S2 F2_2 F2_1 Z1 S1 F1_1
      clear S0 h hl1 hl2 hn9 z10 z11 z12 z20 z21 z22 hi1 hi2
      rw [← hnK] at HU2
      clear hnK
      go_wp2
      go_region
      all_goals
        go_wp2
        go_ret
        first | (refine ⟨rfl, ?_⟩; obtain ⟨x1, x2, x3, x4⟩ := HF0.out; rw [HE.out] at x3 x4; exact ⟨x1, x2, x3, HU2.out.trans x4⟩) | (refine ⟨rfl, ?_⟩; obtain ⟨x1, x2, x3, x4⟩ := HF1.out; rw [HE.out] at x3 x4; exact ⟨x1, x2, x3, HU2.out.trans x4⟩) | (refine ⟨rfl, ?_⟩; obtain ⟨x1, x2, x3, x4⟩ := HF2.out; rw [HE.out] at x3 x4; exact ⟨x1, x2, x3, HU2.out.trans x4⟩)
end
end Go.Proofs.YtoceglbdnbnjpaaDoor
