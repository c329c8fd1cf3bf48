/- A line, with all that its brackets go on over. -/
import Derived.Deep.RegionHeld3
import Derived.Shelf.Strconv.Itoa3
import Derived.Test.YtcaeeackccgclaaGreatDoorChecked
import Derived.Lib.LaidTab
import Derived.Test.YtcaeeackccgclaaGreatDoorTb3
namespace Go.Proofs.YtcaeeackccgclaaGreatDoor
open Go.RowKit Go.Shelf

theorem ErrR.low {B : Nat} {w w' : World} (h : ErrR w) (hg : 3 < B) (hb : Below B w w') : ErrR w' := by
  obtain ⟨ev, h1, h2⟩ := h
  exact ⟨ev, (hb.cell (p := ⟨3, 0, none⟩) hg).trans h1, h2⟩

theorem row_shape {w : World} {base : Nat} {e : TypeId} {size : Nat} {v : Value} {n : Nat} {xs : List Value} (h : w.ownsRow base e size v n xs) : ∃ ao cap, v = .slice ao n cap := by
  rcases h.2 with ⟨a, b⟩ | ⟨g, cap, cur, hv, _⟩
  · subst b; exact ⟨none, 0, a⟩
  · exact ⟨_, cap, hv⟩

theorem line_err {L : List UInt8} {p : Sp} {x : Ft} (h : toksF L (L.length + 1) (skp p.opn L.length (L.drop p.pos)) (p.skip L) = .error x) : lineF L p = .error x := by
  unfold lineF; rw [h]
theorem line_ok {L : List UInt8} {p q : Sp} (h : toksF L (L.length + 1) (skp p.opn L.length (L.drop p.pos)) (p.skip L) = .ok q) : lineF L p = if 0 < q.opn then .error (1, q.pos) else if p.toks.length < q.toks.length then .ok (q.add 6) else .ok q := by
  unfold lineF; rw [h]
theorem toks_end {L : List UInt8} {f i : Nat} {r : Sp} (hf : L.length - r.pos < f) (h : endL L r = true) : toksF L f i r = .ok r := by
  cases f with
  | zero => omega
  | succ f => unfold toksF; rw [if_pos h]
theorem toks_ref {L : List UInt8} {f i : Nat} {r : Sp} (hf : L.length - r.pos < f) (h : endL L r = false) (h2 : refu L r i ≠ 0) : toksF L f i r = .error (refu L r i, r.pos) := by
  cases f with
  | zero => omega
  | succ f => unfold toksF; rw [if_neg (by rw [h]; decide), if_pos h2]
theorem toks_bad {L : List UInt8} {f i : Nat} {r : Sp} {x : Ft} (hf : L.length - r.pos < f) (h : endL L r = false) (h2 : refu L r i = 0) (h3 : tok1 L (r.come i) = .error x) : toksF L f i r = .error x := by
  cases f with
  | zero => omega
  | succ f => unfold toksF; rw [if_neg (by rw [h]; decide), if_neg (by rw [h2]; decide), h3]
theorem toks_go {L : List UInt8} {f i : Nat} {r q : Sp} (hf : L.length - r.pos < f) (h : endL L r = false) (h2 : refu L r i = 0) (h3 : tok1 L (r.come i) = .ok q) : toksF L f i r = toksF L (f - 1) (q.skip L).top (q.skip L) := by
  cases f with
  | zero => omega
  | succ f =>
    conv => lhs; unfold toksF
    rw [if_neg (by rw [h]; decide), if_neg (by rw [h2]; decide), h3]
    rfl

set_option maxHeartbeats 8000000 in
set_option maxRecDepth 100000 in
theorem line_any {B P : Nat} {L : List UInt8} {tv iv : Value} {w : World} {p : Sp} (h : TS B P L tv iv w p) (hL : L.length ≤ 6000) (hk : SpOk L p 1) (hg : 3 < B) (hr : ErrR w) :
    Calls Tryz.prog 42 #[.pointer (some ⟨P, 0, none⟩)] w fun e w' => StP B P L w (lineF L p) e w' := by
  have c1 := h.c1
  have c2 := h.c2
  have H : Hid (TS B P L tv iv w p ∧ SpOk L p 1 ∧ ErrR w ∧ 3 < B) := ⟨h, hk, hr, hg⟩
  have HSk : Hid (∀ n, Calls Tryz.prog 60 #[.pointer (some ⟨P, 0, none⟩)] (w.drewN n) fun e w' => e = .returned (.tuple #[]) ∧ TS B P L tv iv w' (p.skip L) ∧ Below B w w') := fun n => (skip_any (h.drewN n) hL hk.pos).mono fun e w' ⟨a, b, c, _⟩ => ⟨a, b, (below_drewN (Below.refl B w) n).trans c⟩
  obtain ⟨ao, cap, htv⟩ := row_shape h.ot
  have hsk := skip_ok (L := L) hk.pos
  have HOk : Hid (SpOk L (p.skip L) 1) := ⟨hsk.2, hk.ins.of rfl, hk.i31, hk.o30, by show p.toks.length + p.ins.length ≤ 4 * (p.skip L).pos + 1; have := hk.cnt; omega⟩
  have hps : ((p.skip L).pos : Int) - (p.pos : Int) = (skp p.opn L.length (L.drop p.pos) : Int) := by
    show ((p.pos + skp p.opn L.length (L.drop p.pos) : Nat) : Int) - _ = _
    omega
  have hsk2 := hsk.2
  have hsl : (skp p.opn L.length (L.drop p.pos) : Int) ≤ 6000 := by
    have := skp_len p.opn L.length (L.drop p.pos)
    rw [List.length_drop] at this
    omega
  have hwp : IntKind.i64.wrap (skp p.opn L.length (L.drop p.pos) : Int) = (skp p.opn L.length (L.drop p.pos) : Int) := by rw [IntKind.wrap_i64]; omega
  obtain ⟨i0, hi0⟩ : ∃ i0, i0 = skp p.opn L.length (L.drop p.pos) := ⟨_, rfl⟩
  obtain ⟨p0, hp0⟩ : ∃ p0, p0 = p.skip L := ⟨_, rfl⟩
  have HErr : Hid (∀ x, toksF L (L.length + 1) i0 p0 = .error x → lineF L p = .error x) := fun x hx => line_err (by rw [← hi0, ← hp0]; exact hx)
  have HFin : Hid (∀ q, toksF L (L.length + 1) i0 p0 = .ok q → toksF L (L.length + 1) (skp p.opn L.length (L.drop p.pos)) (p.skip L) = .ok q) := fun q hx => by rw [← hi0, ← hp0]; exact hx
  rw [← hp0] at hps HOk HSk hsk2
  rw [← hi0] at hps hsl hwp
  clear h hk hr hi0 hp0 hsk hg
  subst htv
  go_enter Tryz.func42, Tryz.ntmps42
  go_wp2
  go_quiet (fail)
  go_wp2_with fail
  refine (HSk.out nq).mono ?_
  rintro e w1 ⟨rfl, hts1, hb1⟩
  have d1 := hts1.c1
  have H1 : Hid (TS B P L (.slice ao p.toks.length cap) iv w1 p0 ∧ Below B w w1) := ⟨hts1, hb1⟩
  clear hts1 hb1 HSk c1 c2
  go_wp2
  go_loopw [4] (fun v wr => ∃ (i f : Nat) (r : Sp) (tv2 iv2 : Value), v = .int .i64 (i : Int) ∧ r.pos ≤ L.length ∧ Hid (TS B P L tv2 iv2 wr r ∧ Below B w wr ∧ SpOk L r 1 ∧ L.length - r.pos < f ∧ toksF L (L.length + 1) i0 p0 = toksF L f i r)) (fun _ wr => L.length - posOf P wr)
  case atStart => exact ⟨i0, L.length + 1, p0, _, _, rfl, hsk2, H1.out.1, H1.out.2, HOk.out, by omega, rfl⟩
  case round =>
    obtain ⟨i, f, r, tv2, iv2, rfl, hrp, HR⟩ := hrel
    clear H1 HOk d1 hps hsl hwp hsk2
    have HEd : Hid (∀ n, Calls Tryz.prog 41 #[.pointer (some ⟨P, 0, none⟩)] (wr.drewN n) fun e w' => e = .returned (.bool (decide (r.pos = L.length))) ∧ ∃ m, w' = wr.drewN m) := fun n => (ended_any (HR.out.1.drewN n)).mono fun e w' ⟨a, m, b⟩ => ⟨a, n + m, by rw [b, World.drewN_drewN]⟩
    have HSe : Hid (∀ n, Calls Tryz.prog 61 #[.pointer (some ⟨P, 0, none⟩), .int .u8 (10 : Nat)] (wr.drewN n) fun e w' => e = .returned (.bool (decide ((L.getD r.pos 0).toNat = 10))) ∧ ∃ m, w' = wr.drewN m) := fun n => (sees_any (HR.out.1.drewN n) hrp 10 (by decide)).mono fun e w' ⟨a, m, b⟩ => ⟨a, n + m, by rw [b, World.drewN_drewN]⟩
    by_cases hen : r.pos = L.length
    · rw [show decide (r.pos = L.length) = true from by simpa using hen] at HEd
      have HEnd : Hid (toksF L (L.length + 1) (skp p.opn L.length (L.drop p.pos)) (p.skip L) = .ok r) := HFin.out r (HR.out.2.2.2.2.trans (toks_end HR.out.2.2.2.1 (by unfold endL; rw [show decide (r.pos = L.length) = true from by simpa using hen]; rfl)))
      clear hen HSe
      go_wp2_with fail
      refine (HEd.out 0).mono ?_
      rintro e w' ⟨rfl, n, rfl⟩
      have HZ : Hid (TS B P L tv2 iv2 (wr.drewN n) r ∧ Below B w (wr.drewN n)) := ⟨HR.out.1.drewN n, below_drewN HR.out.2.1 n⟩
      generalize wr.drewN n = w5 at *
      have z4 := HZ.out.1.c4
      have z2 := HZ.out.1.c2
      have HGu : Hid (Calls Tryz.prog 65 #[.pointer (some ⟨P, 0, none⟩), .int .i64 1] w5 fun e w' => e = PF 1 r.pos ∧ w' = w5) := giveUp_any HZ.out.1 1
      have HAd : Hid (∀ n, Calls Tryz.prog 66 #[.pointer (some ⟨P, 0, none⟩), .int .i64 (6 : Nat)] (w5.drewN n) fun e w' => e = .returned (.tuple #[]) ∧ ∃ tv', TS B P L tv' iv2 w' (r.add 6) ∧ Below B (w5.drewN n) w') := fun n => add_any (HZ.out.1.drewN n) 6 (by have := HR.out.2.2.1.cnt; have := HR.out.2.2.1.pos; omega)
      obtain ⟨ao2, cap2, htv2⟩ := row_shape HZ.out.1.ot
      have hoi : ((0 : Int) < (r.opn : Int)) ↔ 0 < r.opn := by omega
      have hli : ((p.toks.length : Int) < (r.toks.length : Int)) ↔ p.toks.length < r.toks.length := by omega
      by_cases ho : 0 < r.opn
      · have hod : decide ((0 : Int) < (r.opn : Int)) = true := by simpa using ho
        have HRV : Hid (lineF L p = .error (1, r.pos)) := by show _ = _; rw [line_ok HEnd.out, if_pos ho]
        generalize (r.opn : Int) = oi at *
        have hop : (0 : Int) < oi := by simpa using hod
        clear hli hoi ho hod
        go_wp2_with fail
        refine HGu.out.mono ?_
        rintro e w' ⟨rfl, rfl⟩
        go_wp2
        refine ⟨rfl, fun k z hz => ?_, fun q hq => ?_, HZ.out.2⟩
        · rw [HRV.out] at hz; cases hz; rfl
        · rw [HRV.out] at hq; cases hq
      · have hop : ¬ (0 : Int) < (r.opn : Int) := by omega
        have HRV : Hid (lineF L p = if p.toks.length < r.toks.length then .ok (r.add 6) else .ok r) := by show _ = _; rw [line_ok HEnd.out, if_neg ho]
        subst htv2
        by_cases hl : p.toks.length < r.toks.length
        · have hlt : (p.toks.length : Int) < (r.toks.length : Int) := by omega
          have HRV2 : Hid (lineF L p = .ok (r.add 6)) := by show _ = _; rw [HRV.out, if_pos hl]
          generalize (r.opn : Int) = oi at *
          clear hli hoi ho hl
          go_wp2_with fail
          refine (HAd.out 0).mono ?_
          rintro e w' ⟨rfl, tv6, hts6, hb6⟩
          have HW : Hid (TS B P L tv6 iv2 w' (r.add 6) ∧ Below B w w') := ⟨hts6, HZ.out.2.trans hb6⟩
          clear hts6 hb6
          go_wp2
          go_end0
          refine ⟨fun k z hz => ?_, fun q hq => ?_, HW.out.2⟩
          · rw [HRV2.out] at hz; cases hz
          · rw [HRV2.out] at hq; cases hq; exact ⟨rfl, _, _, HW.out.1⟩
        · have hlt : ¬ (p.toks.length : Int) < (r.toks.length : Int) := by omega
          have HRV2 : Hid (lineF L p = .ok r) := by show _ = _; rw [HRV.out, if_neg hl]
          generalize (r.opn : Int) = oi at *
          clear hli hoi ho hl
          go_wp2
          go_end0
          refine ⟨fun k z hz => ?_, fun q hq => ?_, HZ.out.2⟩
          · rw [HRV2.out] at hz; cases hz
          · rw [HRV2.out] at hq; cases hq; exact ⟨rfl, _, _, HZ.out.1⟩
    · rw [show decide (r.pos = L.length) = false from by simpa using hen] at HEd
      by_cases hse : (L.getD r.pos 0).toNat = 10
      · rw [show decide ((L.getD r.pos 0).toNat = 10) = true from by simpa using hse] at HSe
        have HEnd : Hid (toksF L (L.length + 1) (skp p.opn L.length (L.drop p.pos)) (p.skip L) = .ok r) := HFin.out r (HR.out.2.2.2.2.trans (toks_end HR.out.2.2.2.1 (by unfold endL; rw [at_drop, show decide ((L.getD r.pos 0).toNat = 10) = true from by simpa using hse]; simp)))
        clear hen hse
        go_wp2_with fail
        refine (HEd.out 0).mono ?_
        rintro e w' ⟨rfl, n0, rfl⟩
        go_wp2_with fail
        refine (HSe.out n0).mono ?_
        rintro e w' ⟨rfl, n, rfl⟩
        have HZ : Hid (TS B P L tv2 iv2 (wr.drewN n) r ∧ Below B w (wr.drewN n)) := ⟨HR.out.1.drewN n, below_drewN HR.out.2.1 n⟩
        generalize wr.drewN n = w5 at *
        have z4 := HZ.out.1.c4
        have z2 := HZ.out.1.c2
        have HGu : Hid (Calls Tryz.prog 65 #[.pointer (some ⟨P, 0, none⟩), .int .i64 1] w5 fun e w' => e = PF 1 r.pos ∧ w' = w5) := giveUp_any HZ.out.1 1
        have HAd : Hid (∀ n, Calls Tryz.prog 66 #[.pointer (some ⟨P, 0, none⟩), .int .i64 (6 : Nat)] (w5.drewN n) fun e w' => e = .returned (.tuple #[]) ∧ ∃ tv', TS B P L tv' iv2 w' (r.add 6) ∧ Below B (w5.drewN n) w') := fun n => add_any (HZ.out.1.drewN n) 6 (by have := HR.out.2.2.1.cnt; have := HR.out.2.2.1.pos; omega)
        obtain ⟨ao2, cap2, htv2⟩ := row_shape HZ.out.1.ot
        have hoi : ((0 : Int) < (r.opn : Int)) ↔ 0 < r.opn := by omega
        have hli : ((p.toks.length : Int) < (r.toks.length : Int)) ↔ p.toks.length < r.toks.length := by omega
        by_cases ho : 0 < r.opn
        · have hod : decide ((0 : Int) < (r.opn : Int)) = true := by simpa using ho
          have HRV : Hid (lineF L p = .error (1, r.pos)) := by show _ = _; rw [line_ok HEnd.out, if_pos ho]
          generalize (r.opn : Int) = oi at *
          have hop : (0 : Int) < oi := by simpa using hod
          clear hli hoi ho hod
          go_wp2_with fail
          refine HGu.out.mono ?_
          rintro e w' ⟨rfl, rfl⟩
          go_wp2
          refine ⟨rfl, fun k z hz => ?_, fun q hq => ?_, HZ.out.2⟩
          · rw [HRV.out] at hz; cases hz; rfl
          · rw [HRV.out] at hq; cases hq
        · have hop : ¬ (0 : Int) < (r.opn : Int) := by omega
          have HRV : Hid (lineF L p = if p.toks.length < r.toks.length then .ok (r.add 6) else .ok r) := by show _ = _; rw [line_ok HEnd.out, if_neg ho]
          subst htv2
          by_cases hl : p.toks.length < r.toks.length
          · have hlt : (p.toks.length : Int) < (r.toks.length : Int) := by omega
            have HRV2 : Hid (lineF L p = .ok (r.add 6)) := by show _ = _; rw [HRV.out, if_pos hl]
            generalize (r.opn : Int) = oi at *
            clear hli hoi ho hl
            go_wp2_with fail
            refine (HAd.out 0).mono ?_
            rintro e w' ⟨rfl, tv6, hts6, hb6⟩
            have HW : Hid (TS B P L tv6 iv2 w' (r.add 6) ∧ Below B w w') := ⟨hts6, HZ.out.2.trans hb6⟩
            clear hts6 hb6
            go_wp2
            go_end0
            refine ⟨fun k z hz => ?_, fun q hq => ?_, HW.out.2⟩
            · rw [HRV2.out] at hz; cases hz
            · rw [HRV2.out] at hq; cases hq; exact ⟨rfl, _, _, HW.out.1⟩
          · have hlt : ¬ (p.toks.length : Int) < (r.toks.length : Int) := by omega
            have HRV2 : Hid (lineF L p = .ok r) := by show _ = _; rw [HRV.out, if_neg hl]
            generalize (r.opn : Int) = oi at *
            clear hli hoi ho hl
            go_wp2
            go_end0
            refine ⟨fun k z hz => ?_, fun q hq => ?_, HZ.out.2⟩
            · rw [HRV2.out] at hz; cases hz
            · rw [HRV2.out] at hq; cases hq; exact ⟨rfl, _, _, HZ.out.1⟩
      · rw [show decide ((L.getD r.pos 0).toNat = 10) = false from by simpa using hse] at HSe
        have hne : endL L r = false := by
          unfold endL
          rw [at_drop, show decide ((L.getD r.pos 0).toNat = 10) = false from by simpa using hse, show decide (r.pos = L.length) = false from by simpa using hen]
          rfl
        have hrl : r.pos < L.length := by omega
        have hk := HR.out.2.2.1
        have hcnt := hk.cnt
        have h31 := hk.i31
        have HRf : Hid (∀ n, Calls Tryz.prog 62 #[.pointer (some ⟨P, 0, none⟩), .int .i64 i] (wr.drewN n) fun e w' => RefP (refu L r i) r.pos e ∧ TS B P L tv2 iv2 w' r ∧ Below B w w') := fun n =>
          (refuse_any (HR.out.1.drewN n) hL hrl i (List.length_pos_iff.2 hk.ins.ne) (by omega) (H.out.2.2.1.low H.out.2.2.2 (below_drewN HR.out.2.1 n))).mono fun e w' ⟨a, b⟩ => ⟨a, (HR.out.1.drewN n).up b, (below_drewN HR.out.2.1 n).trans (b.mono (by have := (HR.out.1.drewN n).lt; have := HR.out.1.hB; omega))⟩
        go_wp2_with fail
        refine (HEd.out 0).mono ?_
        rintro e w' ⟨rfl, n0, rfl⟩
        go_wp2_with fail
        refine (HSe.out n0).mono ?_
        rintro e w' ⟨rfl, n, rfl⟩
        go_wp2_with fail
        refine (HRf.out n).mono ?_
        rintro e w2 ⟨hrf, hts2, hb2⟩
        by_cases hr0 : refu L r i = 0
        · obtain rfl := hrf.1 hr0
          obtain ⟨r1, r2, r3, r4, r5⟩ := refu_zero hr0
          obtain ⟨ca, cb, cc, cd, ce⟩ := come_ok hk.ins i
          have hrp2 := hk.pos
          have ho30 := hk.o30
          have HCo : Hid (Calls Tryz.prog 43 #[.pointer (some ⟨P, 0, none⟩), .int .i64 i] w2 fun e w' => e = .returned (.tuple #[]) ∧ ∃ tv' iv', TS B P L tv' iv' w' (r.come i) ∧ Below B w2 w') := come_any hts2 hk.ins i (by omega)
          have HTo : Hid (∀ (W : World) (tv3 iv3 : Value), TS B P L tv3 iv3 W (r.come i) → Calls Tryz.prog 63 #[.pointer (some ⟨P, 0, none⟩)] W fun e w' => StP B P L W (tok1 L (r.come i)) e w') := fun W tv3 iv3 hW => token_any hW hL (by rw [ca]; exact hrl) (by omega) (by rw [cb]; omega) (by rw [ca]; exact r1) (by rw [ca]; exact r3) (by rw [ca, cb]; exact r2)
          have HBad : Hid (∀ x, tok1 L (r.come i) = .error x → lineF L p = .error x) := fun x hx => HErr.out _ (HR.out.2.2.2.2.trans (toks_bad HR.out.2.2.2.1 hne hr0 hx))
          have HGo : Hid (∀ q, tok1 L (r.come i) = .ok q → toksF L (L.length + 1) i0 p0 = toksF L (f - 1) (q.skip L).top (q.skip L) ∧ SpOk L (q.skip L) 1 ∧ r.pos < (q.skip L).pos ∧ q.pos ≤ L.length) := fun q hx => ⟨HR.out.2.2.2.2.trans (toks_go HR.out.2.2.2.1 hne hr0 hx), (turn_ok hk hrl hr0 hx).1, (turn_ok hk hrl hr0 hx).2, (tok1_ok hx (by rw [ca]; exact hrl) (by rw [ca]; exact r1) (by rw [ca, cb]; intro ho; have := r4 ho; omega) (by rw [cb]; exact ho30)).2.1⟩
          have HB2 : Hid (Below B w w2) := hb2
          clear r1 r2 r3 r4 r5 ca cb cc cd ce hts2 hb2 hr0 hrf hne hcnt h31 hk hen hse HRf HSe HEd
          generalize r.come i = rc at *
          go_wp2_with fail
          refine HCo.out.mono ?_
          rintro e w3 ⟨rfl, tv3, iv3, hts3, hb3⟩
          have HTo3 : Hid (Calls Tryz.prog 63 #[.pointer (some ⟨P, 0, none⟩)] w3 fun e w' => StP B P L w3 (tok1 L rc) e w') := HTo.out w3 tv3 iv3 hts3
          have HB3 : Hid (Below B w w3) := HB2.out.trans hb3
          clear hts3 hb3 HTo HCo HB2
          cases htk : tok1 L rc with
          | error x =>
            obtain ⟨k0, y⟩ := x
            have HRV : Hid (lineF L p = .error (k0, y)) := HBad.out _ htk
            rw [htk] at HTo3
            clear htk HBad HGo
            go_wp2_with fail
            refine HTo3.out.mono ?_
            rintro e w4 ⟨h1, -, hb4⟩
            obtain rfl := h1 k0 y rfl
            go_wp2
            refine ⟨rfl, fun k z hz => ?_, fun q hq => ?_, HB3.out.trans hb4⟩
            · rw [HRV.out] at hz; cases hz; rfl
            · rw [HRV.out] at hq; cases hq
          | ok q =>
            have HG := HGo.out q htk
            have HGq : Hid (toksF L (L.length + 1) i0 p0 = toksF L (f - 1) (q.skip L).top (q.skip L) ∧ SpOk L (q.skip L) 1 ∧ r.pos < (q.skip L).pos ∧ q.pos ≤ L.length) := HG
            rw [htk] at HTo3
            clear htk HBad HGo HG
            go_wp2_with fail
            refine HTo3.out.mono ?_
            rintro e w4 ⟨-, h2, hb4⟩
            obtain ⟨rfl, tv4, iv4, hts4⟩ := h2 q rfl
            have HSk : Hid (Calls Tryz.prog 60 #[.pointer (some ⟨P, 0, none⟩)] w4 fun e w' => e = .returned (.tuple #[]) ∧ TS B P L tv4 iv4 w' (q.skip L) ∧ Below B w w') := (skip_any hts4 hL HGq.out.2.2.2).mono fun e w' ⟨a, b, c, _⟩ => ⟨a, b, (HB3.out.trans hb4).trans c⟩
            clear h2 hts4 hb4 HTo3 HB3
            go_wp2_with fail
            refine HSk.out.mono ?_
            rintro e w5 ⟨rfl, hts5, hb5⟩
            have HIn : Hid (Calls Tryz.prog 64 #[.pointer (some ⟨P, 0, none⟩)] w5 fun e w' => e = .returned (.int .i64 (q.skip L).top) ∧ ∃ n, w' = w5.drewN n) := in_any hts5 (List.length_pos_iff.2 HGq.out.2.1.ins.ne) (by have := HGq.out.2.1.i31; omega)
            have H5 : Hid (TS B P L tv4 iv4 w5 (q.skip L) ∧ Below B w w5) := ⟨hts5, hb5⟩
            clear hts5 hb5 HSk
            go_wp2_with fail
            refine HIn.out.mono ?_
            rintro e w' ⟨rfl, m, rfl⟩
            go_wp2
            refine ⟨⟨(q.skip L).top, f - 1, q.skip L, tv4, iv4, rfl, HGq.out.2.1.pos, H5.out.1.drewN m, below_drewN H5.out.2 m, HGq.out.2.1, ?_, HGq.out.1⟩, ?_⟩
            · have := HR.out.2.2.2.1; have := HGq.out.2.2.1; have := HGq.out.2.1.pos; omega
            · rw [(H5.out.1.drewN m).posOf, HR.out.1.posOf]
              have := HGq.out.2.2.1; have := HGq.out.2.1.pos; omega
        · obtain rfl := hrf.2 hr0
          have HRV : Hid (lineF L p = .error (refu L r i, r.pos)) := HErr.out _ (HR.out.2.2.2.2.trans (toks_ref HR.out.2.2.2.1 hne hr0))
          go_wp2
          refine ⟨rfl, fun k z hz => ?_, fun q hq => ?_, hb2⟩
          · rw [HRV.out] at hz; cases hz; rfl
          · rw [HRV.out] at hq; cases hq
end Go.Proofs.YtcaeeackccgclaaGreatDoor

/- All lines of a source. -/
namespace Go.Proofs.YtcaeeackccgclaaGreatDoor
open Go.RowKit Go.Shelf

theorem toksF_ok (L : List UInt8) : ∀ (f i : Nat) (p q : Sp), SpOk L p 1 → toksF L f i p = .ok q → SpOk L q 1 ∧ p.pos ≤ q.pos := by
  intro f
  induction f with
  | zero => intro i p q _ h; cases h
  | succ f ih =>
    intro i p q hk h
    unfold toksF at h
    split at h
    · cases h; exact ⟨hk, Nat.le_refl _⟩
    rename_i he
    split at h
    · cases h
    rename_i hr
    split at h
    · cases h
    rename_i t ht
    have hp : p.pos < L.length := by
      have := hk.pos
      rcases Nat.lt_or_ge p.pos L.length with h1 | h1
      · exact h1
      · exfalso; apply he; unfold endL
        rw [show decide (p.pos = L.length) = true from by simp; omega]; rfl
    have hr0 : refu L p i = 0 := by
      rcases Nat.eq_zero_or_pos (refu L p i) with e | e
      · exact e
      · exact absurd (by omega) hr
    obtain ⟨a, b⟩ := turn_ok hk hp hr0 ht
    obtain ⟨c, d⟩ := ih _ _ _ a h
    exact ⟨c, by omega⟩
theorem lineF_ok {L : List UInt8} {p q : Sp} (hk : SpOk L p 1) (h : lineF L p = .ok q) : SpOk L q 2 ∧ p.pos ≤ q.pos := by
  have hs := skip_ok (L := L) hk.pos
  have hk1 : SpOk L (p.skip L) 1 := ⟨hs.2, hk.ins.of rfl, hk.i31, hk.o30, by show p.toks.length + p.ins.length ≤ 4 * (p.skip L).pos + 1; have := hk.cnt; omega⟩
  unfold lineF at h
  split at h
  · cases h
  rename_i r hr
  obtain ⟨a, b⟩ := toksF_ok L _ _ _ _ hk1 hr
  split at h
  · cases h
  split at h
  · cases h
    refine ⟨⟨a.pos, a.ins.of rfl, a.i31, a.o30, ?_⟩, by show p.pos ≤ r.pos; omega⟩
    show (r.toks ++ [_]).length + r.ins.length ≤ 4 * r.pos + 2
    have := a.cnt
    simp only [List.length_append, List.length_singleton]
    omega
  · cases h
    exact ⟨⟨a.pos, a.ins, a.i31, a.o30, by have := a.cnt; omega⟩, by omega⟩

theorem lines_end {L : List UInt8} {f : Nat} {r : Sp} (hf : 0 < f) (h : r.pos = L.length) : linesF L f r = .ok (r.come 0) := by
  cases f with
  | zero => omega
  | succ f => unfold linesF; rw [if_pos h]
theorem lines_bad {L : List UInt8} {f : Nat} {r : Sp} {x : Ft} (hf : 0 < f) (h : ¬ r.pos = L.length) (h2 : lineF L r = .error x) : linesF L f r = .error x := by
  cases f with
  | zero => omega
  | succ f => unfold linesF; rw [if_neg h, h2]
theorem lines_last {L : List UInt8} {f : Nat} {r q : Sp} (hf : 0 < f) (h : ¬ r.pos = L.length) (h2 : lineF L r = .ok q) (h3 : q.pos = L.length) : linesF L f r = linesF L f q := by
  rw [lines_end hf h3]
  cases f with
  | zero => omega
  | succ f => unfold linesF; rw [if_neg h, h2]; simp only; rw [if_pos h3]
theorem lines_go {L : List UInt8} {f : Nat} {r q : Sp} (hf : 0 < f) (h : ¬ r.pos = L.length) (h2 : lineF L r = .ok q) (h3 : ¬ q.pos = L.length) : linesF L f r = linesF L (f - 1) { q with pos := q.pos + 1 } := by
  cases f with
  | zero => omega
  | succ f =>
    conv => lhs; unfold linesF
    rw [if_neg h, h2]
    simp only
    rw [if_neg h3]
    rfl

/-- What the round of all lines begins with. -/
def LnI (B P : Nat) (L : List UInt8) (w wr : World) (p r : Sp) (tv iv : Value) (f : Nat) : Prop :=
  TS B P L tv iv wr r ∧ Below B w wr ∧ SpOk L r 2 ∧ (r.pos < L.length → SpOk L r 1) ∧ L.length - r.pos < f ∧ linesF L (L.length + 1) p = linesF L f r

set_option maxHeartbeats 8000000 in
set_option maxRecDepth 100000 in
theorem lines_any {B P : Nat} {L : List UInt8} {tv iv : Value} {w : World} {p : Sp} (h : TS B P L tv iv w p) (hL : L.length ≤ 6000) (hk : SpOk L p 1) (hg : 3 < B) (hr : ErrR w) :
    Calls Tryz.prog 31 #[.pointer (some ⟨P, 0, none⟩)] w fun e w' => StP B P L w (linesF L (L.length + 1) p) e w' := by
  have H : Hid (ErrR w ∧ 3 < B) := ⟨hr, hg⟩
  have H1 : Hid (LnI B P L w w p p tv iv (L.length + 1)) := ⟨h, Below.refl B w, ⟨hk.pos, hk.ins, hk.i31, hk.o30, by have := hk.cnt; omega⟩, fun _ => hk, by omega, rfl⟩
  have hp := hk.pos
  clear h hk hg hr
  go_enter Tryz.func31, Tryz.ntmps31
  go_wp2
  go_loopw [] (fun wr => ∃ (f : Nat) (r : Sp) (tv2 iv2 : Value), r.pos ≤ L.length ∧ Hid (LnI B P L w wr p r tv2 iv2 f)) (fun wr => L.length - posOf P wr)
  case atStart => exact ⟨_, _, _, _, hp, H1⟩
  case round =>
    obtain ⟨f, r, tv2, iv2, hrp, HR⟩ := hrel
    clear H1
    have HEd : Hid (∀ (W : World) (q : Sp) (t v : Value), TS B P L t v W q → Calls Tryz.prog 41 #[.pointer (some ⟨P, 0, none⟩)] W fun e w' => e = .returned (.bool (decide (q.pos = L.length))) ∧ ∃ m, w' = W.drewN m) := fun W q t v hW => ended_any hW
    by_cases hen : r.pos = L.length
    · have HEd0 : Hid (Calls Tryz.prog 41 #[.pointer (some ⟨P, 0, none⟩)] wr fun e w' => e = .returned (.bool true) ∧ ∃ m, w' = wr.drewN m) := by
        have := HEd.out wr r _ _ HR.out.1
        rwa [show decide (r.pos = L.length) = true from by simpa using hen] at this
      have HRV : Hid (linesF L (L.length + 1) p = .ok (r.come 0)) := HR.out.2.2.2.2.2.trans (lines_end (by have := HR.out.2.2.2.2.1; omega) hen)
      have HCo : Hid (∀ n, Calls Tryz.prog 43 #[.pointer (some ⟨P, 0, none⟩), .int .i64 0] (wr.drewN n) fun e w' => e = .returned (.tuple #[]) ∧ ∃ tv' iv', TS B P L tv' iv' w' (r.come 0) ∧ Below B (wr.drewN n) w') := fun n => come_any (HR.out.1.drewN n) HR.out.2.2.1.ins 0 (by have := HR.out.2.2.1.cnt; have := HR.out.2.2.1.pos; omega)
      clear hen HEd
      go_wp2_with fail
      refine HEd0.out.mono ?_
      rintro e w' ⟨rfl, n, rfl⟩
      go_wp2_with fail
      refine (HCo.out n).mono ?_
      rintro e w' ⟨rfl, tv3, iv3, hts3, hb3⟩
      have H3 : Hid (TS B P L tv3 iv3 w' (r.come 0) ∧ Below B w w') := ⟨hts3, (below_drewN HR.out.2.1 n).trans hb3⟩
      clear hts3 hb3
      go_wp2
      go_end0
      refine ⟨fun k z hz => ?_, fun q hq => ?_, H3.out.2⟩
      · rw [HRV.out] at hz; cases hz
      · rw [HRV.out] at hq; cases hq; exact ⟨rfl, _, _, H3.out.1⟩
    · have hrl : r.pos < L.length := by omega
      have HEd0 : Hid (Calls Tryz.prog 41 #[.pointer (some ⟨P, 0, none⟩)] wr fun e w' => e = .returned (.bool false) ∧ ∃ m, w' = wr.drewN m) := by
        have := HEd.out wr r _ _ HR.out.1
        rwa [show decide (r.pos = L.length) = false from by simpa using hen] at this
      have hk := HR.out.2.2.2.1 hrl
      have HLi : Hid (∀ n, Calls Tryz.prog 42 #[.pointer (some ⟨P, 0, none⟩)] (wr.drewN n) fun e w' => StP B P L (wr.drewN n) (lineF L r) e w') := fun n => line_any (HR.out.1.drewN n) hL hk H.out.2 (H.out.1.low H.out.2 (below_drewN HR.out.2.1 n))
      have hf0 : 0 < f := by have := HR.out.2.2.2.2.1; omega
      go_wp2_with fail
      refine HEd0.out.mono ?_
      rintro e w' ⟨rfl, n, rfl⟩
      cases hli : lineF L r with
      | error x =>
        obtain ⟨k0, y⟩ := x
        have HRV : Hid (linesF L (L.length + 1) p = .error (k0, y)) := HR.out.2.2.2.2.2.trans (lines_bad hf0 hen hli)
        rw [hli] at HLi
        clear hli
        go_wp2_with fail
        refine (HLi.out n).mono ?_
        rintro e w4 ⟨h1, -, hb4⟩
        obtain rfl := h1 k0 y rfl
        have HB4 : Hid (Below B w w4) := (below_drewN HR.out.2.1 n).trans hb4
        clear hb4 h1
        go_wp2
        refine ⟨rfl, fun k z hz => ?_, fun q hq => ?_, HB4.out⟩
        · rw [HRV.out] at hz; cases hz; rfl
        · rw [HRV.out] at hq; cases hq
      | ok q =>
        obtain ⟨hq2, hqp⟩ := lineF_ok hk hli
        have hql := hq2.pos
        have HLa : Hid (q.pos = L.length → linesF L (L.length + 1) p = linesF L f q) := fun h3 => HR.out.2.2.2.2.2.trans (lines_last hf0 hen hli h3)
        have HGo : Hid (¬ q.pos = L.length → linesF L (L.length + 1) p = linesF L (f - 1) { q with pos := q.pos + 1 }) := fun h3 => HR.out.2.2.2.2.2.trans (lines_go hf0 hen hli h3)
        have HQ : Hid (SpOk L q 2) := hq2
        rw [hli] at HLi
        clear hli hk hq2
        go_wp2_with fail
        refine (HLi.out n).mono ?_
        rintro e w4 ⟨-, h2, hb4⟩
        obtain ⟨rfl, tv4, iv4, hts4⟩ := h2 q rfl
        have H4 : Hid (TS B P L tv4 iv4 w4 q ∧ Below B w w4) := ⟨hts4, (below_drewN HR.out.2.1 n).trans hb4⟩
        clear h2 hb4 hts4 HLi HEd0
        by_cases hq : q.pos = L.length
        · have HEd1 : Hid (Calls Tryz.prog 41 #[.pointer (some ⟨P, 0, none⟩)] w4 fun e w' => e = .returned (.bool true) ∧ ∃ m, w' = w4.drewN m) := by
            have := HEd.out w4 q _ _ H4.out.1
            rwa [show decide (q.pos = L.length) = true from by simpa using hq] at this
          clear HEd
          go_wp2_with fail
          refine HEd1.out.mono ?_
          rintro e w' ⟨rfl, m, rfl⟩
          go_wp2
          refine ⟨⟨f, q, tv4, iv4, hql, H4.out.1.drewN m, below_drewN H4.out.2 m, HQ.out, fun hh => by omega, by omega, HLa.out hq⟩, ?_⟩
          rw [(H4.out.1.drewN m).posOf, HR.out.1.posOf]
          omega
        · have HEd1 : Hid (Calls Tryz.prog 41 #[.pointer (some ⟨P, 0, none⟩)] w4 fun e w' => e = .returned (.bool false) ∧ ∃ m, w' = w4.drewN m) := by
            have := HEd.out w4 q _ _ H4.out.1
            rwa [show decide (q.pos = L.length) = false from by simpa using hq] at this
          have HGo' : Hid (linesF L (L.length + 1) p = linesF L (f - 1) { q with pos := q.pos + 1 }) := HGo.out hq
          have hfr := HR.out.2.2.2.2.1
          clear HEd HLa HGo
          go_wp2_with fail
          refine HEd1.out.mono ?_
          rintro e w' ⟨rfl, m, rfl⟩
          have d1 := (H4.out.1.drewN m).c1
          have f1 := (H4.out.1.drewN m).fz 1
          have hqi : (q.pos : Int) < (L.length : Int) := by omega
          have hLi : (L.length : Int) ≤ 6000 := by omega
          obtain ⟨y, hy⟩ : ∃ y, y = q.pos + 1 := ⟨_, rfl⟩
          have hyi : (q.pos : Int) + 1 = (y : Int) := by omega
          have hwr : IntKind.i64.wrap (y : Int) = (y : Int) := by rw [IntKind.wrap_i64]; omega
          have HS5 : Hid (TS B P L tv4 iv4 ((w4.drewN m).setCell ⟨P, 1, none⟩ (.int .i64 (y : Int))) { q with pos := y }) := (H4.out.1.drewN m).setPos y (fun g => rfl)
          have HB5 : Hid (Below B w ((w4.drewN m).setCell ⟨P, 1, none⟩ (.int .i64 (y : Int)))) := (below_drewN H4.out.2 m).setCell (p := ⟨P, 1, none⟩) H4.out.1.hB _
          have HY : Hid (y = q.pos + 1) := hy
          clear hy hq hfr
          go_wp2
          have hy := HY.out
          have hfr := HR.out.2.2.2.2.1
          refine ⟨⟨f - 1, { q with pos := y }, tv4, iv4, by show y ≤ _; omega, HS5.out, HB5.out, ?_, fun _ => ?_, by show L.length - y < _; omega, by rw [hy]; exact HGo'.out⟩, ?_⟩
          · exact ⟨by show y ≤ _; omega, HQ.out.ins.of rfl, HQ.out.i31, HQ.out.o30, by show q.toks.length + q.ins.length ≤ 4 * y + 2; have := HQ.out.cnt; omega⟩
          · exact ⟨by show y ≤ _; omega, HQ.out.ins.of rfl, HQ.out.i31, HQ.out.o30, by show q.toks.length + q.ins.length ≤ 4 * y + 1; have := HQ.out.cnt; omega⟩
          · rw [HS5.out.posOf, HR.out.1.posOf]
            show L.length - y < _
            omega
end Go.Proofs.YtcaeeackccgclaaGreatDoor

/- What is handed back of expressions; refuseDeep. -/
namespace Go.Proofs.YtcaeeackccgclaaGreatDoor
open Go.RowKit Go.Shelf
attribute [local go_sem ↓] fld0 fld1 fld2 fld3

abbrev ez : Obj := .cells #[.int .i64 0, .int .i64 0, .string ⟨#[]⟩, .slice none 0 0, .slice none 0 0] 38
theorem szE : (Tryz.prog.info? 38).map (·.size) = some 5 := by kernel_rfl
theorem ExA.one {w : World} {S : Nat → Prop} {x : Ex} {c : List Value} (h : ExA w S x c) : ∀ v ∈ c, v.oneCell' = true := by
  obtain ⟨kv, nv, vs, rfl, h1, h2, _⟩ := h.open
  obtain ⟨a1, c1, rfl⟩ := row_shape h1
  obtain ⟨a2, c2, rfl⟩ := row_shape h2
  intro v hv
  simp [sv] at hv
  rcases hv with rfl | rfl | rfl | rfl | rfl <;> rfl
/-- An expression as a value, all of it new. -/
def VE (n : Nat) (w : World) (x : Ex) (v : Value) : Prop := ∃ c, v = .agg c.toArray ∧ ExA w (fun g => n ≤ g) x c
/-- What goes into a variable of an expression's type. -/
theorem fin5 {w1 : World} {R : Nat} {c0 : Array Value} (hr : w1.heap[R]? = some (.cells c0 38 (0, 0))) (h0 : c0.size = 5) {S : Nat → Prop} {x : Ex} {c : List Value} (h : ExA w1 S x c) :
    w1.there R 0 c.toArray.size ∧ (Tryz.prog.info? 38).map (·.size) = some c.toArray.size ∧ c.toArray.all (·.oneCell') = true ∧ (loadVar 38 ⟨R, 0, none⟩).run Tryz.prog (w1.setCells R 0 c) = .ok (.agg c.toArray) (w1.setCells R 0 c) ∧
    (Tryz.prog.info? 38).map (·.size) = some c.length := by
  have hl := h.len
  have hla : c.toArray.size = 5 := hl
  refine ⟨by rw [hla, ← h0]; exact there_of hr, by rw [hla]; exact szE, all_oneCell_toArray h.one, (stN hr (c := c) (by rw [hl, h0]) (by rw [hl]; exact szE) h.one Tryz.underlying38 rfl).2, by rw [hl]; exact szE⟩
theorem poE_fin {P T n : Nat} {w w1 : World} {R : Nat} (hR : w.heap.size ≤ R) (hRn : R < n) {x : Ex} {c : List Value} (hx : ExA w1 (fun g => n ≤ g) x c) {q : Ps} (hps : PsA P T w1 q) (hk : KP P w w1) (hP : P < w.heap.size) (hT : T < w.heap.size) :
    PoA P T (VE w.heap.size) w (.ok (x, q)) (.returned (.agg c.toArray)) (w1.setCells R 0 c) :=
  ⟨_, rfl, ⟨c, rfl, hx.keep (fun g hg _ => heap_sets R c 0 w1 g (by omega)) (fun g hg _ => by omega)⟩, hps.sets (by omega) (by omega) _, hk.sets hR _⟩

set_option maxHeartbeats 4000000 in
set_option maxRecDepth 100000 in
theorem seesAtom_any {P T : Nat} {w : World} {p : Ps} (h : PsA P T w p) :
    Calls Tryz.prog 125 #[pt P] w fun e w' => e = .returned (.bool (sAtom p)) ∧ Below w.heap.size w w' := by
  have HN := next_any h
  have HS : Hid (∀ W, Below w.heap.size w W → Calls Tryz.prog 44 #[pt P, .slice (some ⟨W.heap.size, 0, none⟩) 6 6] (W.alloc (.cells #[.string ⟨#[84, 114, 117, 101]⟩, .string ⟨#[70, 97, 108, 115, 101]⟩, .string ⟨#[78, 111, 110, 101]⟩, .string ⟨#[40]⟩, .string ⟨#[91]⟩, .string ⟨#[123]⟩] 9)) fun e w' => e = .returned (.bool (p.sees [[84, 114, 117, 101], [70, 97, 108, 115, 101], [78, 111, 110, 101], [40], [91], [123]])) ∧ Below w.heap.size w w') := fun W hW => by
    have hb := alB W (.cells #[.string ⟨#[84, 114, 117, 101]⟩, .string ⟨#[70, 97, 108, 115, 101]⟩, .string ⟨#[78, 111, 110, 101]⟩, .string ⟨#[40]⟩, .string ⟨#[91]⟩, .string ⟨#[123]⟩] 9)
    refine (seesSign_any ((h.up hW).up hb) (SgA.new P W [[84, 114, 117, 101], [70, 97, 108, 115, 101], [78, 111, 110, 101], [40], [91], [123]] (by simp) ((h.up hW).lt))).mono ?_
    rintro e w' ⟨a, b⟩
    exact ⟨a, (hW.trans (hb.mono hW.size)).trans (b.mono (Nat.le_trans hW.size hb.size))⟩
  have hq1 : (((p.nx.kind : Nat) : Int) == (1 : Int)) = (p.nx.kind == 1) := by rw [Bool.eq_iff_iff]; simp; omega
  have hq2 : (((p.nx.kind : Nat) : Int) == (2 : Int)) = (p.nx.kind == 2) := by rw [Bool.eq_iff_iff]; simp; omega
  have hq3 : (((p.nx.kind : Nat) : Int) == (3 : Int)) = (p.nx.kind == 3) := by rw [Bool.eq_iff_iff]; simp; omega
  unfold sAtom
  clear h
  generalize p.sees [[84, 114, 117, 101], [70, 97, 108, 115, 101], [78, 111, 110, 101], [40], [91], [123]] = bs at *
  generalize (p.nx.kind == 1) = b1 at *
  generalize (p.nx.kind == 2) = b2 at *
  generalize (p.nx.kind == 3) = b3 at *
  generalize p.nx = t at *
  cases b1 <;> cases b2 <;> cases b3
  all_goals
    go_enter Tryz.func125, Tryz.ntmps125
    go_wp2_with fail
    refine HN.mono ?_
    rintro e w1 ⟨rfl, hb⟩
    have HS1 := HS.out w1 hb
    go_wp2_with (go_at_call 44; refine HS1.mono ?_; rintro e w2 ⟨rfl, hb2⟩)
    go_ret
    exact ⟨rfl, by assumption⟩

set_option maxHeartbeats 4000000 in
set_option maxRecDepth 100000 in
theorem refuseDeep_any {P T : Nat} {w : World} {p : Ps} (h : PsA P T w p) {v : Value} {l : List (List UInt8)} (hs : SgA P w v l) {z : Except Ft (Unit × Ps)} (hz : rfD l p = some z) :
    Calls Tryz.prog 105 #[pt P, v] w (PoA P T (fun _ _ v => v = .tuple #[]) w z) := by
  have HA := seesAtom_any h
  have HS : Hid (∀ W, Below w.heap.size w W → Calls Tryz.prog 44 #[pt P, v] W fun e w' => e = .returned (.bool (p.sees l)) ∧ Below w.heap.size w w') := fun W hW => (seesSign_any (h.up hW) (hs.keep (KP.of_below hW))).mono fun e w' ⟨a, b⟩ => ⟨a, hW.trans (b.mono hW.size)⟩
  have HG : Hid (∀ W (b : Bool), Below w.heap.size w W → Calls Tryz.prog 73 #[pt P, .bool b, .int .i64 2] W fun e w' => (e = bif b then PF 2 p.nx.pos else .returned (.tuple #[])) ∧ Below w.heap.size w w') := fun W b hW => (giveUpIf_any (h.up hW) b 2).mono fun e w' ⟨a, b⟩ => ⟨a, hW.trans (b.mono hW.size)⟩
  have HD : Hid (∀ W, Below w.heap.size w W → W.cell? ⟨P, 4, none⟩ = some (.int .i64 p.deep)) := fun W hW => by
    obtain ⟨_, _, _, _, _, _, c4, _⟩ := (h.up hW).cells
    exact c4
  have HU : Hid (∀ W, Below w.heap.size w W → PsA P T W p) := fun W hW => h.up hW
  have hq : (((p.deep : Nat) : Int) == (30 : Int)) = (p.deep == 30) := by rw [Bool.eq_iff_iff]; simp; omega
  unfold rfD guIf at hz
  clear h hs
  generalize sAtom p = b1 at *
  generalize p.sees l = b2 at *
  generalize (p.deep == 30) = b3 at *
  cases b1 <;> cases b2 <;> cases b3
  all_goals
    cases hz
    go_enter Tryz.func105, Tryz.ntmps105
    go_wp2_with fail
    refine HA.mono ?_
    rintro e w1 ⟨rfl, hb⟩
    have c4 := HD.out w1 hb
    go_wp2_with (first
      | (go_at_call 44; refine (HS.out w1 hb).mono ?_; rintro e w2 ⟨rfl, hb2⟩; have c42 := HD.out w2 hb2)
      | (go_at_call 73; refine (HG.out _ _ (by assumption)).mono ?_; rintro e w3 ⟨he, hb3⟩; simp only [cond_true, cond_false] at he; subst he)
      | fail)
  all_goals first
    | (go_end0; exact ⟨_, rfl, rfl, HU.out _ (by assumption), KP.of_below (by assumption)⟩)
    | exact ⟨rfl, rfl, KP.of_below (by assumption)⟩
end Go.Proofs.YtcaeeackccgclaaGreatDoor

/- What is within one more; pairs; what is joined. -/
namespace Go.Proofs.YtcaeeackccgclaaGreatDoor
open Go.RowKit Go.Shelf
attribute [local go_sem ↓] fld0 fld1 fld2 fld3

/-- A function value that parses a part. -/
def PartC (P T F : Nat) (caps : Array Value) (w0 : World) (m : Ps → Px Ex) : Prop := (∀ args w, (callFunc F args).run Tryz.prog w = .ok (.enter F args) w) ∧ ∀ W p z, KP P w0 W → PsA P T W p → m p = some z → Calls Tryz.prog F caps W (PoA P T (VE W.heap.size) W z)
theorem PartC.keep {P T F : Nat} {caps : Array Value} {w w' : World} {m : Ps → Px Ex} (h : PartC P T F caps w m) (hk : KP P w w') : PartC P T F caps w' m := ⟨h.1, fun W p z hW => h.2 W p z (hk.trans hW)⟩
theorem PsA.deepTo {P T : Nat} {w : World} {p : Ps} (h : PsA P T w p) (d : Nat) (hd : d ≤ 1000) : PsA P T (w.setCell ⟨P, 4, none⟩ (.int .i64 d)) { p with deep := d } := by
  obtain ⟨a, c, o, h1, h2, h3, h4, h5, h6, h7, h8, h9⟩ := h
  refine ⟨a, c, o, ?_, h2, h3, h4, fun j hj => ?_, h6, by simp [World.setCell]; exact h7, hd, h9⟩
  · rw [Go.Joins.block_setCell h1]; rfl
  · rw [← h5 j hj]
    have e2 := Below.heap_setCell w ⟨P, 4, none⟩ (.int .i64 d) T h6
    simp [World.cell?, e2]
theorem PsA.fz {P T : Nat} {w : World} {p : Ps} (h : PsA P T w p) (i : Nat) : w.frozen? ⟨P, i, none⟩ = false := by
  obtain ⟨a, c, o, h1, _⟩ := h
  exact Lib.frozen_of_heap h1 i
theorem PsA.deepLe {P T : Nat} {w : World} {p : Ps} (h : PsA P T w p) : p.deep ≤ 1000 := by
  obtain ⟨a, c, o, h1, h2, h3, h4, h5, h6, h7, h8, h9⟩ := h
  exact h8
theorem PsA.d4 {P T : Nat} {w : World} {p : Ps} (h : PsA P T w p) : w.cell? ⟨P, 4, none⟩ = some (.int .i64 p.deep) := by
  obtain ⟨_, _, _, _, _, _, c4, _⟩ := h.cells
  exact c4

theorem bad_panic {α : Type} {P T : Nat} {V : World → α → Value → Prop} {w w1 : World} {x : Ft} {e : Ending} {w2 : World} (h : PoA P T V w1 (.error x) e w2) (hk : KP P w w1) : e = PF x.1 x.2 ∧ KP P w w2 := by
  obtain ⟨k, a⟩ := x
  exact ⟨h.1, hk.trans h.2⟩
theorem size_set (w : World) (a : Addr) (v : Value) : (w.setCell a v).heap.size = w.heap.size := by simp [World.setCell]
/-- A variable that is laid for an expression, and the expression in it. -/
theorem var5 {w1 : World} {S : Nat → Prop} {x : Ex} {c : List Value} (h : ExA w1 S x c) : (w1.alloc ez).there w1.heap.size 0 c.toArray.size ∧ ((w1.alloc ez).setCells w1.heap.size 0 c).rangeAt w1.heap.size 0 c ∧ ExA ((w1.alloc ez).setCells w1.heap.size 0 c) (fun g => S g ∧ g < w1.heap.size) x c ∧ (∀ g, g < w1.heap.size → ((w1.alloc ez).setCells w1.heap.size 0 c).heap[g]? = w1.heap[g]?) := by
  have hr : (w1.alloc ez).heap[w1.heap.size]? = some ez := heap_alloc_new w1 _
  have hla : c.toArray.size = 5 := h.len
  have ht : (w1.alloc ez).there w1.heap.size 0 c.toArray.size := by rw [hla]; exact there_of hr
  have hg : ∀ g, g < w1.heap.size → ((w1.alloc ez).setCells w1.heap.size 0 c).heap[g]? = w1.heap[g]? := fun g hg => (heap_sets _ c 0 _ g (by omega)).trans (heap_al w1 _ g hg)
  exact ⟨ht, World.rangeAt_setCells_same _ _ _ _ ht, h.keep (fun g _ hg2 => hg g hg2) (fun g h1 h2 => ⟨h1, h2⟩), hg⟩

set_option maxHeartbeats 4000000 in
set_option maxRecDepth 100000 in
theorem deeper_any {P T F : Nat} {caps : Array Value} {w : World} {p : Ps} {m : Ps → Px Ex} (h : PsA P T w p) (hm : PartC P T F caps w m) {z : Except Ft (Ex × Ps)} (hz : inner m p = some z) :
    Calls Tryz.prog 106 #[pt P, .func (.func F) #[] caps] w (PoA P T (VE w.heap.size) w z) := by
  have hPl := h.lt
  have hTl := h.ltT
  obtain ⟨hd, hz2⟩ := iff_some hz
  have hd1 : p.deep < 1000 := of_decide_eq_true hd
  have c4 := (h.up (alB w ez)).d4
  have f4 := (h.up (alB w ez)).fz 4
  have hV : PsA P T ((w.setCell ⟨P, 4, none⟩ (.int .i64 ((p.deep + 1 : Nat) : Int))).alloc ez) p.inn := (h.deepTo (p.deep + 1) (by omega)).up (alB _ _)
  have hkV : KP P w ((w.setCell ⟨P, 4, none⟩ (.int .i64 ((p.deep + 1 : Nat) : Int))).alloc ez) := ((KP.refl P w).setCell 4 _).trans (KP.of_below (alB _ _))
  have hrV : ((w.setCell ⟨P, 4, none⟩ (.int .i64 ((p.deep + 1 : Nat) : Int))).alloc ez).heap[w.heap.size]? = some ez := by
    have := heap_alloc_new (w.setCell ⟨P, 4, none⟩ (.int .i64 ((p.deep + 1 : Nat) : Int))) ez
    rwa [size_set] at this
  have hw1 : IntKind.i64.wrap ((p.deep : Int) + 1) = ((p.deep + 1 : Nat) : Int) := by rw [IntKind.wrap_i64]; omega
  have hent := hm.1
  have HC : Hid (∀ z', m p.inn = some z' → Calls Tryz.prog F caps ((w.setCell ⟨P, 4, none⟩ (.int .i64 ((p.deep + 1 : Nat) : Int))).alloc ez) (PoA P T (VE (w.heap.size + 1)) ((w.setCell ⟨P, 4, none⟩ (.int .i64 ((p.deep + 1 : Nat) : Int))).alloc ez) z')) := fun z' hz' => by
    have := hm.2 _ _ z' hkV hV hz'
    rwa [World.size_alloc, size_set] at this
  have HV : Hid (KP P w ((w.setCell ⟨P, 4, none⟩ (.int .i64 ((p.deep + 1 : Nat) : Int))).alloc ez) ∧ ((w.setCell ⟨P, 4, none⟩ (.int .i64 ((p.deep + 1 : Nat) : Int))).alloc ez).heap[w.heap.size]? = some ez) := ⟨hkV, hrV⟩
  clear hm hV hkV hrV hz hd
  generalize ((p.deep + 1 : Nat) : Int) = D at *
  rcases bnd_some hz2 with ⟨x, hx, rfl⟩ | ⟨x, q, hx, hq⟩
  · have HC1 := HC.out _ hx
    clear HC
    go_enter Tryz.func106, Tryz.ntmps106
    go_wp2_with fail
    refine HC1.mono ?_
    rintro e w1 hpo
    obtain ⟨rfl, hk⟩ := bad_panic hpo HV.out.1
    exact ⟨rfl, rfl, hk⟩
  · have HC1 := HC.out _ hx
    clear HC
    obtain ⟨hd, hq2⟩ := iff_some hq
    have hd2 : 1 ≤ q.deep := of_decide_eq_true hd
    cases hq2
    go_enter Tryz.func106, Tryz.ntmps106
    go_wp2_with fail
    refine HC1.mono ?_
    rintro e w1 ⟨v, rfl, ⟨c, rfl, hx1⟩, hp1, hk1⟩
    have hr1 : w1.heap[w.heap.size]? = some ez := (hk1.blk _ (Array.getElem?_eq_some_iff.1 HV.out.2).1 (by omega)).trans HV.out.2
    have hs1 : w.heap.size < w1.heap.size := (Array.getElem?_eq_some_iff.1 hr1).1
    have hkw := HV.out.1.trans hk1
    obtain ⟨t1, r1, x1, g1⟩ := var5 hx1
    obtain ⟨-, i1, o1, -, j1⟩ := fin5 hr1 rfl hx1
    have hA : PsA P T ((w1.alloc ez).setCells w1.heap.size 0 c) q := hp1.keep (g1 P (by omega)) (g1 T (by omega))
    have d4 := hA.d4
    have e4 := hA.fz 4
    have hB := hA.deepTo (q.deep - 1) (by have := hA.deepLe; omega)
    have hkB : KP P w (((w1.alloc ez).setCells w1.heap.size 0 c).setCell ⟨P, 4, none⟩ (.int .i64 ((q.deep - 1 : Nat) : Int))) := ((hkw.trans (KP.of_below (alB w1 ez))).sets (by omega) c).setCell 4 _
    have sB : ∀ g, g ≠ P → g < w1.heap.size → (((w1.alloc ez).setCells w1.heap.size 0 c).setCell ⟨P, 4, none⟩ (.int .i64 ((q.deep - 1 : Nat) : Int))).heap[g]? = w1.heap[g]? := fun g hg hg2 => (Below.heap_setCell _ ⟨P, 4, none⟩ _ g hg).trans (g1 g hg2)
    have rB := (sB w.heap.size (by omega) hs1).trans hr1
    have xB : ExA (((w1.alloc ez).setCells w1.heap.size 0 c).setCell ⟨P, 4, none⟩ (.int .i64 ((q.deep - 1 : Nat) : Int))) (fun g => w.heap.size + 1 ≤ g) x c := hx1.keep (fun g hg hg2 => sB g (by omega) hg2) (fun g hg _ => hg)
    have aB : (((w1.alloc ez).setCells w1.heap.size 0 c).setCell ⟨P, 4, none⟩ (.int .i64 ((q.deep - 1 : Nat) : Int))).rangeAt w1.heap.size 0 c := fun j v hv => by
      rw [← r1 j v hv]
      have := Below.heap_setCell ((w1.alloc ez).setCells w1.heap.size 0 c) ⟨P, 4, none⟩ (.int .i64 ((q.deep - 1 : Nat) : Int)) w1.heap.size (by show ¬ _ = P; omega)
      simp [World.cell?, this]
    obtain ⟨t2, i2, o2, l2, j2⟩ := fin5 rB rfl xB
    have HE : Hid (PoA P T (VE w.heap.size) w (.ok (x, q.out)) (.returned (.agg c.toArray)) ((((w1.alloc ez).setCells w1.heap.size 0 c).setCell ⟨P, 4, none⟩ (.int .i64 ((q.deep - 1 : Nat) : Int))).setCells w.heap.size 0 c)) := poE_fin (Nat.le_refl _) (Nat.lt_succ_self _) xB hB hkB hPl hTl
    have HF : Hid _ := (⟨t1, i1, o1, j1, aB, t2, l2⟩ : _ ∧ _ ∧ _ ∧ _ ∧ _ ∧ _ ∧ _)
    have hw2 : IntKind.i64.wrap ((q.deep : Int) - 1) = ((q.deep - 1 : Nat) : Int) := by rw [IntKind.wrap_i64]; have := hA.deepLe; omega
    clear hA hB hkB sB rB xB aB t2 i2 o2 l2 j2 t1 i1 o1 j1 r1 x1 g1 hx1 hp1 hk1 hkw hr1 HC1 HV
    generalize ((q.deep - 1 : Nat) : Int) = D2 at *
    go_wp2_with (first
      | (refine wpList_load_mid rfl 38 (Operand.tmp 5) rfl w1.heap.size 0 rfl c _ HF.out.2.2.2.2.1 Tryz.underlying38 rfl HF.out.2.2.2.1 ?_)
      | (refine wpList_store_mid rfl 38 (Operand.tmp 5) (Operand.tmp 14) rfl w1.heap.size 0 c.toArray rfl rfl HF.out.1 HF.out.2.1 HF.out.2.2.1 ?_)
      | (refine wpList_store_mid rfl 38 (Operand.tmp 4) (Operand.tmp 22) rfl w.heap.size 0 c.toArray rfl rfl HF.out.2.2.2.2.2.1 HF.out.2.1 HF.out.2.2.1 ?_)
      | fail)
    refine bodyPost_ret (v := .agg c.toArray) (res_one Tryz.results106 _ _ rfl HF.out.2.2.2.2.2.2) rfl HE.out
end Go.Proofs.YtcaeeackccgclaaGreatDoor

/- A pair of what is ahead of a sign and what is behind it. -/
namespace Go.Proofs.YtcaeeackccgclaaGreatDoor
open Go.RowKit Go.Shelf
attribute [local go_sem ↓] fld0 fld1 fld2 fld3

theorem isS_self {t : Tk} {l : List (List UInt8)} (h : isS t l = true) : isS t [t.text] = true := by
  unfold isS at *
  simp at *
  exact h.1
theorem ExA.form {w : World} {S : Nat → Prop} {x : Ex} {c : List Value} (h : ExA w S x c) : ∃ a1 c1 a2 c2, c = [.int .i64 x.kind, .int .i64 x.num, .string (mkB x.text), .slice a1 x.kids.length c1, .slice a2 x.names.length c2] := by
  obtain ⟨kv, nv, vs, rfl, h1, h2, _⟩ := h.open
  obtain ⟨a1, c1, rfl⟩ := row_shape h1
  obtain ⟨a2, c2, rfl⟩ := row_shape h2
  exact ⟨a1, c1, a2, c2, rfl⟩
theorem PoA.okd {α : Type} {P T : Nat} {V : World → α → Value → Prop} {w : World} {a : α} {q : Ps} {e : Ending} {w' : World} (h : PoA P T V w (.ok (a, q)) e w') : ∃ v, e = .returned v ∧ V w' a v ∧ PsA P T w' q ∧ KP P w w' := h

theorem keepLR {P : Nat} {w W : World} {o1 o2 : Obj} (hPl : P < w.heap.size) (hk : ∀ g, g < ((w.alloc o1).alloc o2).heap.size → g ≠ P → W.heap[g]? = ((w.alloc o1).alloc o2).heap[g]?) : W.heap[w.heap.size]? = some o1 ∧ W.heap[w.heap.size + 1]? = some o2 := by
  have s1 : (w.alloc o1).heap.size = w.heap.size + 1 := World.size_alloc _ _
  have s2 : ((w.alloc o1).alloc o2).heap.size = w.heap.size + 1 + 1 := by rw [World.size_alloc, s1]
  refine ⟨(hk _ (by omega) (by omega)).trans ((heap_al _ _ _ (by omega)).trans (heap_alloc_new w _)), (hk _ (by omega) (by omega)).trans ?_⟩
  rw [← s1]
  exact heap_alloc_new _ _

theorem ob_le {b g o n c k : Nat} (h : (Value.slice (some ⟨b, o, none⟩) n c).ownBlock = some g) (hk : k ≤ b) : k ≤ g := by
  have h7 : b = g := by simpa [Value.ownBlock] using h
  omega
theorem sets5 (w : World) (b : Nat) (v0 v1 v2 v3 v4 : Value) : w.setCells b 0 [v0, v1, v2, v3, v4] = ((((w.setCell ⟨b, 0, none⟩ v0).setCell ⟨b, 1, none⟩ v1).setCell ⟨b, 2, none⟩ v2).setCell ⟨b, 3, none⟩ v3).setCell ⟨b, 4, none⟩ v4 := rfl
theorem cells5 {w : World} {R : Nat} (h : w.heap[R]? = some ez) : w.cell? ⟨R, 0, none⟩ = some (.int .i64 0) ∧ w.cell? ⟨R, 1, none⟩ = some (.int .i64 0) ∧ w.cell? ⟨R, 2, none⟩ = some (.string ⟨#[]⟩) ∧ w.cell? ⟨R, 3, none⟩ = some (.slice none 0 0) ∧ w.cell? ⟨R, 4, none⟩ = some (.slice none 0 0) ∧ w.frozen? ⟨R, 0, none⟩ = false ∧ w.frozen? ⟨R, 1, none⟩ = false ∧ w.frozen? ⟨R, 2, none⟩ = false ∧ w.frozen? ⟨R, 3, none⟩ = false ∧ w.frozen? ⟨R, 4, none⟩ = false := by
  refine ⟨?_, ?_, ?_, ?_, ?_, Lib.frozen_of_heap h 0, Lib.frozen_of_heap h 1, Lib.frozen_of_heap h 2, Lib.frozen_of_heap h 3, Lib.frozen_of_heap h 4⟩ <;> (rw [Lib.cell_of_heap h]; rfl)

set_option maxHeartbeats 8000000 in
set_option linter.unusedSimpArgs false in
set_option maxRecDepth 100000 in
theorem pair_any {P T F : Nat} {caps : Array Value} {w : World} {p : Ps} {m : Ps → Px Ex} (h : PsA P T w p) (hm : PartC P T F caps w m) {l : List (List UInt8)} (hl : p.sees l = true) {S : Nat → Prop} {x : Ex} {c : List Value} (hx : ExA w S x c) (hS : ∀ g, S g → g ≠ P) {z : Except Ft (Ex × Ps)} (hz : (bnd (m p.adv) fun y q => ok ⟨14, 0, p.nx.text, [x, y], []⟩ q) = some z) :
    Calls Tryz.prog 126 #[pt P, .agg c.toArray, .func (.func F) #[] caps] w (PoA P T (fun W y v => ∃ c', v = .agg c'.toArray ∧ ExA W (fun g => S g ∨ w.heap.size ≤ g) y c') w z) := by
  obtain ⟨a1, c1, a2, c2, hc⟩ := hx.form
  subst hc
  have hPl := h.lt
  have hTl := h.ltT
  have hent := hm.1
  obtain ⟨t, r, hp⟩ := sees_cons hl
  have hnx := adv_of hp
  have hts : tkS t.text p = some (.ok ((), p.adv)) := by
    unfold tkS
    rw [show p.sees [t.text] = true from by unfold Ps.sees at *; rw [hnx] at hl; rw [hnx]; exact isS_self hl]
    rfl
  have hW : PsA P T ((w.alloc (.cells #[.int .i64 x.kind, .int .i64 x.num, .string (mkB x.text), .slice a1 x.kids.length c1, .slice a2 x.names.length c2] 38)).alloc ez) p := (h.up (alB _ _)).up (alB _ _)
  have hkW : KP P w ((w.alloc (.cells #[.int .i64 x.kind, .int .i64 x.num, .string (mkB x.text), .slice a1 x.kids.length c1, .slice a2 x.names.length c2] 38)).alloc ez) := (KP.of_below (alB _ _)).trans (KP.of_below (alB _ _))
  have HN := next_any hW
  rw [hnx] at HN hz
  have HT : Hid (∀ V, PsA P T V p → Calls Tryz.prog 69 #[pt P, .string (mkB t.text)] V (PoA P T (fun _ _ v => v = .tuple #[]) V (.ok ((), p.adv)))) := fun V hV => takeSign_any hV t.text hts
  have HC : Hid (∀ V z', KP P w V → PsA P T V p.adv → m p.adv = some z' → Calls Tryz.prog F caps V (PoA P T (VE V.heap.size) V z')) := fun V z' hk hV hz' => hm.2 V _ z' hk hV hz'
  rcases bnd_some hz with ⟨y, hy, rfl⟩ | ⟨y, q, hy, hq⟩
  · go_enter Tryz.func126, Tryz.ntmps126
    go_wp2_with fail
    refine HN.mono ?_
    rintro e w1 ⟨rfl, hb1⟩
    have h1 := hW.up hb1
    have HT1 := HT.out w1 h1
    go_wp2_with fail
    refine HT1.mono ?_
    rintro e w2 ⟨v, rfl, rfl, h2, hk2⟩
    have hkw2 : KP P w w2 := (hkW.trans (KP.of_below hb1)).trans hk2
    obtain ⟨hL2, hR2⟩ := keepLR hPl (fun g hg hne => (hk2.blk g (Nat.lt_of_lt_of_le hg hb1.size) hne).trans (hb1.block g hg))
    have x0 : w2.cell? ⟨w.heap.size, 0, none⟩ = some (.int .i64 x.kind) := by rw [Lib.cell_of_heap hL2]; rfl
    have x1 : w2.cell? ⟨w.heap.size, 1, none⟩ = some (.int .i64 x.num) := by rw [Lib.cell_of_heap hL2]; rfl
    have x2 : w2.cell? ⟨w.heap.size, 2, none⟩ = some (.string (mkB x.text)) := by rw [Lib.cell_of_heap hL2]; rfl
    have x3 : w2.cell? ⟨w.heap.size, 3, none⟩ = some (.slice a1 x.kids.length c1) := by rw [Lib.cell_of_heap hL2]; rfl
    have x4 : w2.cell? ⟨w.heap.size, 4, none⟩ = some (.slice a2 x.names.length c2) := by rw [Lib.cell_of_heap hL2]; rfl
    have HQ : Hid (PsA P T w2 p.adv ∧ KP P w w2) := ⟨h2, hkw2⟩
    clear h2 hkw2 hk2 h1 hb1 hL2 hR2 HT1
    have HS : Hid (w2.drew.cell? ⟨w.heap.size, 0, none⟩ = some (.int .i64 x.kind) ∧ w2.drew.cell? ⟨w.heap.size, 1, none⟩ = some (.int .i64 x.num) ∧ w2.drew.cell? ⟨w.heap.size, 2, none⟩ = some (.string (mkB x.text)) ∧ w2.drew.cell? ⟨w.heap.size, 3, none⟩ = some (.slice a1 x.kids.length c1) ∧ w2.drew.cell? ⟨w.heap.size, 4, none⟩ = some (.slice a2 x.names.length c2)) := ⟨x0, x1, x2, x3, x4⟩
    go_wp2_with fail
    refine wp_region_held_drew (S := fun V => V.cell? ⟨w.heap.size, 0, none⟩ = some (.int .i64 x.kind) ∧ V.cell? ⟨w.heap.size, 1, none⟩ = some (.int .i64 x.num) ∧ V.cell? ⟨w.heap.size, 2, none⟩ = some (.string (mkB x.text)) ∧ V.cell? ⟨w.heap.size, 3, none⟩ = some (.slice a1 x.kids.length c1) ∧ V.cell? ⟨w.heap.size, 4, none⟩ = some (.slice a2 x.names.length c2)) (by kernel_rfl) HS.out (fun hHeld => ?_)
    refine wpAnyH_take (i := 0) (v := .string (mkB t.text)) rfl (by kernel_rfl) (by kernel_rfl) (by kernel_rfl) (fun _ _ _ h => h) (Or.inl ⟨by rfl, ?_⟩) (by assumption) ?_
    · intro V hSV
      try dsimp only at hSV
      go_simp
      try with_reducible rfl
    try simp only [Act.put, List.setIfInBounds_toArray, List.set_cons_zero, List.set_cons_succ]
    refine wpAnyH_take (i := 1) (v := .agg #[.int .i64 x.kind, .int .i64 x.num, .string (mkB x.text), .slice a1 x.kids.length c1, .slice a2 x.names.length c2]) rfl (by kernel_rfl) (by kernel_rfl) (by kernel_rfl) (fun _ _ _ h => h) (Or.inl ⟨by rfl, ?_⟩) (by assumption) ?_
    · intro V hSV
      try dsimp only at hSV
      go_simp
      try with_reducible rfl
    try simp only [Act.put, List.setIfInBounds_toArray, List.set_cons_zero, List.set_cons_succ]
    refine wpAnyH_take (i := 2) (v := .func (.func F) #[] caps) rfl (by kernel_rfl) (by kernel_rfl) (by kernel_rfl) (fun _ _ _ h => h) (Or.inl ⟨by rfl, ?_⟩) (by assumption) ?_
    · intro V hSV
      try dsimp only at hSV
      go_simp
      try with_reducible rfl
    try simp only [Act.put, List.setIfInBounds_toArray, List.set_cons_zero, List.set_cons_succ]
    refine wpAnyH_ready (rs := [3]) (by kernel_rfl) (by simp) (AllReadyH.cons rfl (fun K hK => ?_) AllReadyH.nil)
    go_simp
    refine (HC.out w2.drew _ HQ.out.2.drew (HQ.out.1.drewN 1) hy).mono ?_
    rintro e w3 hpo
    obtain ⟨rfl, hk3⟩ := bad_panic hpo HQ.out.2.drew
    exact ⟨rfl, rfl, hk3⟩
  · cases hq
    go_enter Tryz.func126, Tryz.ntmps126
    go_wp2_with fail
    refine HN.mono ?_
    rintro e w1 ⟨rfl, hb1⟩
    have h1 := hW.up hb1
    have HT1 := HT.out w1 h1
    go_wp2_with fail
    refine HT1.mono ?_
    rintro e w2 ⟨v, rfl, rfl, h2, hk2⟩
    have hkw2 : KP P w w2 := (hkW.trans (KP.of_below hb1)).trans hk2
    obtain ⟨hL2, hR2⟩ := keepLR hPl (fun g hg hne => (hk2.blk g (Nat.lt_of_lt_of_le hg hb1.size) hne).trans (hb1.block g hg))
    have x0 : w2.cell? ⟨w.heap.size, 0, none⟩ = some (.int .i64 x.kind) := by rw [Lib.cell_of_heap hL2]; rfl
    have x1 : w2.cell? ⟨w.heap.size, 1, none⟩ = some (.int .i64 x.num) := by rw [Lib.cell_of_heap hL2]; rfl
    have x2 : w2.cell? ⟨w.heap.size, 2, none⟩ = some (.string (mkB x.text)) := by rw [Lib.cell_of_heap hL2]; rfl
    have x3 : w2.cell? ⟨w.heap.size, 3, none⟩ = some (.slice a1 x.kids.length c1) := by rw [Lib.cell_of_heap hL2]; rfl
    have x4 : w2.cell? ⟨w.heap.size, 4, none⟩ = some (.slice a2 x.names.length c2) := by rw [Lib.cell_of_heap hL2]; rfl
    have HQ : Hid (PsA P T w2 p.adv ∧ KP P w w2 ∧ w2.heap[w.heap.size + 1]? = some ez ∧ w2.heap[w.heap.size]? = some (.cells #[.int .i64 x.kind, .int .i64 x.num, .string (mkB x.text), .slice a1 x.kids.length c1, .slice a2 x.names.length c2] 38 (0, 0))) := ⟨h2, hkw2, hR2, hL2⟩
    have HX : Hid (ExA w S x [.int .i64 x.kind, .int .i64 x.num, .string (mkB x.text), .slice a1 x.kids.length c1, .slice a2 x.names.length c2] ∧ (∀ g, S g → g ≠ P)) := ⟨hx, hS⟩
    clear h2 hkw2 hk2 h1 hb1 hL2 hR2 HT1 h hm hl hx hS hz HN hW hkW hp hnx hts
    have HS : Hid (w2.drew.cell? ⟨w.heap.size, 0, none⟩ = some (.int .i64 x.kind) ∧ w2.drew.cell? ⟨w.heap.size, 1, none⟩ = some (.int .i64 x.num) ∧ w2.drew.cell? ⟨w.heap.size, 2, none⟩ = some (.string (mkB x.text)) ∧ w2.drew.cell? ⟨w.heap.size, 3, none⟩ = some (.slice a1 x.kids.length c1) ∧ w2.drew.cell? ⟨w.heap.size, 4, none⟩ = some (.slice a2 x.names.length c2)) := ⟨x0, x1, x2, x3, x4⟩
    go_wp2_with fail
    refine wp_region_held_drew (S := fun V => V.cell? ⟨w.heap.size, 0, none⟩ = some (.int .i64 x.kind) ∧ V.cell? ⟨w.heap.size, 1, none⟩ = some (.int .i64 x.num) ∧ V.cell? ⟨w.heap.size, 2, none⟩ = some (.string (mkB x.text)) ∧ V.cell? ⟨w.heap.size, 3, none⟩ = some (.slice a1 x.kids.length c1) ∧ V.cell? ⟨w.heap.size, 4, none⟩ = some (.slice a2 x.names.length c2)) (by kernel_rfl) HS.out (fun hHeld => ?_)
    refine wpAnyH_take (i := 0) (v := .string (mkB t.text)) rfl (by kernel_rfl) (by kernel_rfl) (by kernel_rfl) (fun _ _ _ h => h) (Or.inl ⟨by rfl, ?_⟩) (by assumption) ?_
    · intro V hSV
      try dsimp only at hSV
      go_simp
      try with_reducible rfl
    try simp only [Act.put, List.setIfInBounds_toArray, List.set_cons_zero, List.set_cons_succ]
    refine wpAnyH_take (i := 1) (v := .agg #[.int .i64 x.kind, .int .i64 x.num, .string (mkB x.text), .slice a1 x.kids.length c1, .slice a2 x.names.length c2]) rfl (by kernel_rfl) (by kernel_rfl) (by kernel_rfl) (fun _ _ _ h => h) (Or.inl ⟨by rfl, ?_⟩) (by assumption) ?_
    · intro V hSV
      try dsimp only at hSV
      go_simp
      try with_reducible rfl
    try simp only [Act.put, List.setIfInBounds_toArray, List.set_cons_zero, List.set_cons_succ]
    refine wpAnyH_take (i := 2) (v := .func (.func F) #[] caps) rfl (by kernel_rfl) (by kernel_rfl) (by kernel_rfl) (fun _ _ _ h => h) (Or.inl ⟨by rfl, ?_⟩) (by assumption) ?_
    · intro V hSV
      try dsimp only at hSV
      go_simp
      try with_reducible rfl
    try simp only [Act.put, List.setIfInBounds_toArray, List.set_cons_zero, List.set_cons_succ]
    refine wpAnyH_ready (rs := [3]) (by kernel_rfl) (by simp) (AllReadyH.cons rfl (fun K hK => ?_) AllReadyH.nil)
    go_simp
    refine (HC.out w2.drew _ HQ.out.2.1.drew (HQ.out.1.drewN 1) hy).mono ?_
    rintro e w3 ⟨v, rfl, ⟨c', rfl, hx3⟩, hp3, hk3⟩
    obtain ⟨b1, d1, b2, d2, hc3⟩ := hx3.form
    subst hc3
    have hL3 : w3.heap[w.heap.size]? = some (.cells #[.int .i64 x.kind, .int .i64 x.num, .string (mkB x.text), .slice a1 x.kids.length c1, .slice a2 x.names.length c2] 38 (0, 0)) := (hk3.blk _ (Array.getElem?_eq_some_iff.1 HQ.out.2.2.2).1 (by omega)).trans HQ.out.2.2.2
    have hR3 : w3.heap[w.heap.size + 1]? = some ez := (hk3.blk _ (Array.getElem?_eq_some_iff.1 HQ.out.2.2.1).1 (by omega)).trans HQ.out.2.2.1
    have hS3 : w3.cell? ⟨w.heap.size, 0, none⟩ = some (.int .i64 x.kind) ∧ w3.cell? ⟨w.heap.size, 1, none⟩ = some (.int .i64 x.num) ∧ w3.cell? ⟨w.heap.size, 2, none⟩ = some (.string (mkB x.text)) ∧ w3.cell? ⟨w.heap.size, 3, none⟩ = some (.slice a1 x.kids.length c1) ∧ w3.cell? ⟨w.heap.size, 4, none⟩ = some (.slice a2 x.names.length c2) := by refine ⟨?_, ?_, ?_, ?_, ?_⟩ <;> (rw [Lib.cell_of_heap hL3]; rfl)
    have hL4 : (w3.alloc (.cells #[.int .i64 x.kind, .int .i64 x.num, .string (mkB x.text), .slice a1 x.kids.length c1, .slice a2 x.names.length c2, .int .i64 y.kind, .int .i64 y.num, .string (mkB y.text), .slice b1 y.kids.length d1, .slice b2 y.names.length d2] 38)).heap[w.heap.size]? = some (.cells #[.int .i64 x.kind, .int .i64 x.num, .string (mkB x.text), .slice a1 x.kids.length c1, .slice a2 x.names.length c2] 38 (0, 0)) := (heap_al w3 _ _ (Array.getElem?_eq_some_iff.1 hL3).1).trans hL3
    have hS4 : (w3.alloc (.cells #[.int .i64 x.kind, .int .i64 x.num, .string (mkB x.text), .slice a1 x.kids.length c1, .slice a2 x.names.length c2, .int .i64 y.kind, .int .i64 y.num, .string (mkB y.text), .slice b1 y.kids.length d1, .slice b2 y.names.length d2] 38)).cell? ⟨w.heap.size, 0, none⟩ = some (.int .i64 x.kind) ∧ (w3.alloc (.cells #[.int .i64 x.kind, .int .i64 x.num, .string (mkB x.text), .slice a1 x.kids.length c1, .slice a2 x.names.length c2, .int .i64 y.kind, .int .i64 y.num, .string (mkB y.text), .slice b1 y.kids.length d1, .slice b2 y.names.length d2] 38)).cell? ⟨w.heap.size, 1, none⟩ = some (.int .i64 x.num) ∧ (w3.alloc (.cells #[.int .i64 x.kind, .int .i64 x.num, .string (mkB x.text), .slice a1 x.kids.length c1, .slice a2 x.names.length c2, .int .i64 y.kind, .int .i64 y.num, .string (mkB y.text), .slice b1 y.kids.length d1, .slice b2 y.names.length d2] 38)).cell? ⟨w.heap.size, 2, none⟩ = some (.string (mkB x.text)) ∧ (w3.alloc (.cells #[.int .i64 x.kind, .int .i64 x.num, .string (mkB x.text), .slice a1 x.kids.length c1, .slice a2 x.names.length c2, .int .i64 y.kind, .int .i64 y.num, .string (mkB y.text), .slice b1 y.kids.length d1, .slice b2 y.names.length d2] 38)).cell? ⟨w.heap.size, 3, none⟩ = some (.slice a1 x.kids.length c1) ∧ (w3.alloc (.cells #[.int .i64 x.kind, .int .i64 x.num, .string (mkB x.text), .slice a1 x.kids.length c1, .slice a2 x.names.length c2, .int .i64 y.kind, .int .i64 y.num, .string (mkB y.text), .slice b1 y.kids.length d1, .slice b2 y.names.length d2] 38)).cell? ⟨w.heap.size, 4, none⟩ = some (.slice a2 x.names.length c2) := by refine ⟨?_, ?_, ?_, ?_, ?_⟩ <;> (rw [Lib.cell_of_heap hL4]; rfl)
    obtain ⟨y0, y1, y2, y3, y4, f0, f1, f2, f3, f4⟩ := cells5 ((heap_al w3 (.cells #[.int .i64 x.kind, .int .i64 x.num, .string (mkB x.text), .slice a1 x.kids.length c1, .slice a2 x.names.length c2, .int .i64 y.kind, .int .i64 y.num, .string (mkB y.text), .slice b1 y.kids.length d1, .slice b2 y.names.length d2] 38) _ (Array.getElem?_eq_some_iff.1 hR3).1).trans hR3)
    have HY : Hid (ExA w3 (fun g => w2.drew.heap.size ≤ g) y [.int .i64 y.kind, .int .i64 y.num, .string (mkB y.text), .slice b1 y.kids.length d1, .slice b2 y.names.length d2] ∧ PsA P T w3 q ∧ KP P w2.drew w3 ∧ w3.heap[w.heap.size + 1]? = some ez) := ⟨hx3, hp3, hk3, hR3⟩
    have hs3 : w.heap.size + 1 < w3.heap.size := (Array.getElem?_eq_some_iff.1 hR3).1
    have hs2 : w.heap.size + 1 < w2.heap.size := (Array.getElem?_eq_some_iff.1 HQ.out.2.2.1).1
    have hR4 : (w3.alloc (.cells #[.int .i64 x.kind, .int .i64 x.num, .string (mkB x.text), .slice a1 x.kids.length c1, .slice a2 x.names.length c2, .int .i64 y.kind, .int .i64 y.num, .string (mkB y.text), .slice b1 y.kids.length d1, .slice b2 y.names.length d2] 38)).heap[w.heap.size + 1]? = some ez := (heap_al w3 _ _ hs3).trans hR3
    have gF : ∀ g, g ≠ w.heap.size + 1 → g < w3.heap.size → ((w3.alloc (.cells #[.int .i64 x.kind, .int .i64 x.num, .string (mkB x.text), .slice a1 x.kids.length c1, .slice a2 x.names.length c2, .int .i64 y.kind, .int .i64 y.num, .string (mkB y.text), .slice b1 y.kids.length d1, .slice b2 y.names.length d2] 38)).setCells (w.heap.size + 1) 0 [.int .i64 14, .int .i64 0, .string (mkB t.text), .slice (some ⟨w3.heap.size, 0, none⟩) 2 2, .slice none 0 0]).heap[g]? = w3.heap[g]? := fun g hg hg2 => (heap_sets _ [.int .i64 14, .int .i64 0, .string (mkB t.text), .slice (some ⟨w3.heap.size, 0, none⟩) 2 2, .slice none 0 0] 0 _ g hg).trans (heap_al w3 _ g hg2)
    have gT : ((w3.alloc (.cells #[.int .i64 x.kind, .int .i64 x.num, .string (mkB x.text), .slice a1 x.kids.length c1, .slice a2 x.names.length c2, .int .i64 y.kind, .int .i64 y.num, .string (mkB y.text), .slice b1 y.kids.length d1, .slice b2 y.names.length d2] 38)).setCells (w.heap.size + 1) 0 [.int .i64 14, .int .i64 0, .string (mkB t.text), .slice (some ⟨w3.heap.size, 0, none⟩) 2 2, .slice none 0 0]).heap[w3.heap.size]? = some (.cells #[.int .i64 x.kind, .int .i64 x.num, .string (mkB x.text), .slice a1 x.kids.length c1, .slice a2 x.names.length c2, .int .i64 y.kind, .int .i64 y.num, .string (mkB y.text), .slice b1 y.kids.length d1, .slice b2 y.names.length d2] 38) := (heap_sets _ [.int .i64 14, .int .i64 0, .string (mkB t.text), .slice (some ⟨w3.heap.size, 0, none⟩) 2 2, .slice none 0 0] 0 _ _ (by omega)).trans (heap_alloc_new w3 _)
    have hL5 : ((w3.alloc (.cells #[.int .i64 x.kind, .int .i64 x.num, .string (mkB x.text), .slice a1 x.kids.length c1, .slice a2 x.names.length c2, .int .i64 y.kind, .int .i64 y.num, .string (mkB y.text), .slice b1 y.kids.length d1, .slice b2 y.names.length d2] 38)).setCells (w.heap.size + 1) 0 [.int .i64 14, .int .i64 0, .string (mkB t.text), .slice (some ⟨w3.heap.size, 0, none⟩) 2 2, .slice none 0 0]).heap[w.heap.size]? = some (.cells #[.int .i64 x.kind, .int .i64 x.num, .string (mkB x.text), .slice a1 x.kids.length c1, .slice a2 x.names.length c2] 38 (0, 0)) := (gF _ (by omega) (by omega)).trans hL3
    have hS5 : ((w3.alloc (.cells #[.int .i64 x.kind, .int .i64 x.num, .string (mkB x.text), .slice a1 x.kids.length c1, .slice a2 x.names.length c2, .int .i64 y.kind, .int .i64 y.num, .string (mkB y.text), .slice b1 y.kids.length d1, .slice b2 y.names.length d2] 38)).setCells (w.heap.size + 1) 0 [.int .i64 14, .int .i64 0, .string (mkB t.text), .slice (some ⟨w3.heap.size, 0, none⟩) 2 2, .slice none 0 0]).cell? ⟨w.heap.size, 0, none⟩ = some (.int .i64 x.kind) ∧ ((w3.alloc (.cells #[.int .i64 x.kind, .int .i64 x.num, .string (mkB x.text), .slice a1 x.kids.length c1, .slice a2 x.names.length c2, .int .i64 y.kind, .int .i64 y.num, .string (mkB y.text), .slice b1 y.kids.length d1, .slice b2 y.names.length d2] 38)).setCells (w.heap.size + 1) 0 [.int .i64 14, .int .i64 0, .string (mkB t.text), .slice (some ⟨w3.heap.size, 0, none⟩) 2 2, .slice none 0 0]).cell? ⟨w.heap.size, 1, none⟩ = some (.int .i64 x.num) ∧ ((w3.alloc (.cells #[.int .i64 x.kind, .int .i64 x.num, .string (mkB x.text), .slice a1 x.kids.length c1, .slice a2 x.names.length c2, .int .i64 y.kind, .int .i64 y.num, .string (mkB y.text), .slice b1 y.kids.length d1, .slice b2 y.names.length d2] 38)).setCells (w.heap.size + 1) 0 [.int .i64 14, .int .i64 0, .string (mkB t.text), .slice (some ⟨w3.heap.size, 0, none⟩) 2 2, .slice none 0 0]).cell? ⟨w.heap.size, 2, none⟩ = some (.string (mkB x.text)) ∧ ((w3.alloc (.cells #[.int .i64 x.kind, .int .i64 x.num, .string (mkB x.text), .slice a1 x.kids.length c1, .slice a2 x.names.length c2, .int .i64 y.kind, .int .i64 y.num, .string (mkB y.text), .slice b1 y.kids.length d1, .slice b2 y.names.length d2] 38)).setCells (w.heap.size + 1) 0 [.int .i64 14, .int .i64 0, .string (mkB t.text), .slice (some ⟨w3.heap.size, 0, none⟩) 2 2, .slice none 0 0]).cell? ⟨w.heap.size, 3, none⟩ = some (.slice a1 x.kids.length c1) ∧ ((w3.alloc (.cells #[.int .i64 x.kind, .int .i64 x.num, .string (mkB x.text), .slice a1 x.kids.length c1, .slice a2 x.names.length c2, .int .i64 y.kind, .int .i64 y.num, .string (mkB y.text), .slice b1 y.kids.length d1, .slice b2 y.names.length d2] 38)).setCells (w.heap.size + 1) 0 [.int .i64 14, .int .i64 0, .string (mkB t.text), .slice (some ⟨w3.heap.size, 0, none⟩) 2 2, .slice none 0 0]).cell? ⟨w.heap.size, 4, none⟩ = some (.slice a2 x.names.length c2) := by refine ⟨?_, ?_, ?_, ?_, ?_⟩ <;> (rw [Lib.cell_of_heap hL5]; rfl)
    have hl0 := (stN hR4 (c := [.int .i64 14, .int .i64 0, .string (mkB t.text), .slice (some ⟨w3.heap.size, 0, none⟩) 2 2, .slice none 0 0]) rfl szE (by simp [Value.oneCell']) Tryz.underlying38 rfl).2
    rw [sets5] at hl0
    have HL : Hid _ := hl0
    have hxF : ExA ((w3.alloc (.cells #[.int .i64 x.kind, .int .i64 x.num, .string (mkB x.text), .slice a1 x.kids.length c1, .slice a2 x.names.length c2, .int .i64 y.kind, .int .i64 y.num, .string (mkB y.text), .slice b1 y.kids.length d1, .slice b2 y.names.length d2] 38)).setCells (w.heap.size + 1) 0 [.int .i64 14, .int .i64 0, .string (mkB t.text), .slice (some ⟨w3.heap.size, 0, none⟩) 2 2, .slice none 0 0]) (fun g => S g ∨ w.heap.size ≤ g) x [.int .i64 x.kind, .int .i64 x.num, .string (mkB x.text), .slice a1 x.kids.length c1, .slice a2 x.names.length c2] := HX.out.1.keep (fun g hg hg2 => (gF g (by omega) (by omega)).trans ((hk3.blk g (by show g < w2.heap.size; omega) (HX.out.2 g hg)).trans (HQ.out.2.1.blk g hg2 (HX.out.2 g hg)))) (fun g hg _ => .inl hg)
    have hyF : ExA ((w3.alloc (.cells #[.int .i64 x.kind, .int .i64 x.num, .string (mkB x.text), .slice a1 x.kids.length c1, .slice a2 x.names.length c2, .int .i64 y.kind, .int .i64 y.num, .string (mkB y.text), .slice b1 y.kids.length d1, .slice b2 y.names.length d2] 38)).setCells (w.heap.size + 1) 0 [.int .i64 14, .int .i64 0, .string (mkB t.text), .slice (some ⟨w3.heap.size, 0, none⟩) 2 2, .slice none 0 0]) (fun g => S g ∨ w.heap.size ≤ g) y [.int .i64 y.kind, .int .i64 y.num, .string (mkB y.text), .slice b1 y.kids.length d1, .slice b2 y.names.length d2] := hx3.keep (fun g hg hg2 => gF g (by have : w2.heap.size ≤ g := hg; omega) hg2) (fun g hg _ => .inr (by have : w2.heap.size ≤ g := hg; omega))
    have hKF : KP P w ((w3.alloc (.cells #[.int .i64 x.kind, .int .i64 x.num, .string (mkB x.text), .slice a1 x.kids.length c1, .slice a2 x.names.length c2, .int .i64 y.kind, .int .i64 y.num, .string (mkB y.text), .slice b1 y.kids.length d1, .slice b2 y.names.length d2] 38)).setCells (w.heap.size + 1) 0 [.int .i64 14, .int .i64 0, .string (mkB t.text), .slice (some ⟨w3.heap.size, 0, none⟩) 2 2, .slice none 0 0]) := ((HQ.out.2.1.drew.trans hk3).trans (KP.of_below (alB w3 _))).sets (Nat.le_succ _) _
    have hPF : PsA P T ((w3.alloc (.cells #[.int .i64 x.kind, .int .i64 x.num, .string (mkB x.text), .slice a1 x.kids.length c1, .slice a2 x.names.length c2, .int .i64 y.kind, .int .i64 y.num, .string (mkB y.text), .slice b1 y.kids.length d1, .slice b2 y.names.length d2] 38)).setCells (w.heap.size + 1) 0 [.int .i64 14, .int .i64 0, .string (mkB t.text), .slice (some ⟨w3.heap.size, 0, none⟩) 2 2, .slice none 0 0]) q := hp3.keep (gF P (by omega) (by omega)) (gF T (by omega) (by omega))
    have he0 : PoA P T (fun W y v => ∃ c', v = .agg c'.toArray ∧ ExA W (fun g => S g ∨ w.heap.size ≤ g) y c') w (.ok ((⟨14, 0, t.text, [x, y], []⟩ : Ex), q)) (.returned (.agg ([.int .i64 14, .int .i64 0, .string (mkB t.text), .slice (some ⟨w3.heap.size, 0, none⟩) 2 2, .slice none 0 0]).toArray)) ((w3.alloc (.cells #[.int .i64 x.kind, .int .i64 x.num, .string (mkB x.text), .slice a1 x.kids.length c1, .slice a2 x.names.length c2, .int .i64 y.kind, .int .i64 y.num, .string (mkB y.text), .slice b1 y.kids.length d1, .slice b2 y.names.length d2] 38)).setCells (w.heap.size + 1) 0 [.int .i64 14, .int .i64 0, .string (mkB t.text), .slice (some ⟨w3.heap.size, 0, none⟩) 2 2, .slice none 0 0]) := ⟨_, rfl, ⟨_, rfl, ExA.make (x := ⟨14, 0, t.text, [x, y], []⟩) (vs := [[.int .i64 x.kind, .int .i64 x.num, .string (mkB x.text), .slice a1 x.kids.length c1, .slice a2 x.names.length c2], [.int .i64 y.kind, .int .i64 y.num, .string (mkB y.text), .slice b1 y.kids.length d1, .slice b2 y.names.length d2]]) ⟨rfl, .inr ⟨w3.heap.size, 2, _, rfl, Nat.zero_le _, gT, Nat.le_refl _, by decide, rfl, rfl⟩⟩ (World.ownsRow_nil _ _ _ _) (fun g hg => .inr (ob_le hg (by omega))) (fun g hg => by cases hg) ⟨hxF, hyF, trivial⟩⟩, hPF, hKF⟩
    rw [sets5] at he0
    have HE : Hid _ := he0
    clear hl0 he0
    clear hx3 hp3 hk3 hR3 hL3 hL4 hs3 hs2 hR4 gF gT hL5 hxF hyF hKF hPF
    refine hK.out _ _ hS3 (fun hHeld => ?_)
    clear hK K
    try simp only [Act.put, List.setIfInBounds_toArray, List.set_cons_zero, List.set_cons_succ]
    refine wpAnyH_ready (rs := [4]) (by kernel_rfl) (by simp) (AllReadyH.cons rfl (fun K hK => ?_) AllReadyH.nil)
    go_simp
    refine hK.out _ _ hS4 (fun hHeld => ?_)
    clear hK K
    try simp only [Act.put, List.setIfInBounds_toArray, List.set_cons_zero, List.set_cons_succ]
    refine wpAnyH_take (i := 5) (v := .agg #[.int .i64 14, .int .i64 0, .string (mkB t.text), .slice (some ⟨w3.heap.size, 0, none⟩) 2 2, .slice none 0 0]) rfl (by kernel_rfl) (by kernel_rfl) (by kernel_rfl) (fun _ _ _ h => h) (Or.inl ⟨by rfl, ?_⟩) (by assumption) ?_
    · intro V hSV
      try dsimp only at hSV
      go_simp
      try with_reducible rfl
    try simp only [Act.put, List.setIfInBounds_toArray, List.set_cons_zero, List.set_cons_succ]
    refine wpAnyH_ready (rs := [6]) (by kernel_rfl) (by simp) (AllReadyH.cons rfl (fun K hK => ?_) AllReadyH.nil)
    go_simp
    refine hK.out _ _ hS5 (fun hHeld => ?_)
    clear hK K
    refine wpAnyH_done (by kernel_rfl) ?_ _
    try simp only [Act.put, List.setIfInBounds_toArray, List.set_cons_zero, List.set_cons_succ]
    go_wp2
    refine bodyPost_ret (v := Value.agg #[Value.int IntKind.i64 14, Value.int IntKind.i64 0, Value.string (mkB t.text), Value.slice (some ⟨w3.heap.size, 0, none⟩) 2 2, Value.slice none 0 0]) (res_one Tryz.results126 _ _ rfl HL.out) rfl HE.out
end Go.Proofs.YtcaeeackccgclaaGreatDoor

/- The shelf's contracts, laid at this program. -/
namespace Go.Proofs.YtcaeeackccgclaaGreatDoor
open Go.RowKit Go.Shelf

def laysI_ren : Go.Shelf.Ren := ⟨fun | 171 => 55 | 243 => 82 | 246 => 114 | 283 => 129 | 284 => 130 | 285 => 131 | 286 => 132 | 129 => 142 | 317 => 141 | 318 => 143 | 319 => 144 | 320 => 145 | 337 => 152 | 338 => 153 | n => n, fun | 3 => 3 | 9 => 9 | 2 => 2 | 4 => 4 | 171 => 123 | 0 => 0 | 53 => 91 | 37 => 34 | 5 => 5 | 173 => 126 | 212 => 136 | 51 => 88 | 20 => 20 | 213 => 137 | 46 => 75 | 232 => 149 | 233 => 150 | n => n, fun | 17 => 1 | 18 => 4 | 19 => 5 | n => n⟩
theorem laysI : Go.Proofs.LaysM.n171 Tryz.prog laysI_ren := {
  mixed := by kernel_rfl
  f129 := Tryz.func142.trans (congrArg some (by kernel_rfl))
  f171 := Tryz.func55.trans (congrArg some (by kernel_rfl))
  f243 := Tryz.func82.trans (congrArg some (by kernel_rfl))
  f246 := Tryz.func114.trans (congrArg some (by kernel_rfl))
  f283 := Tryz.func129.trans (congrArg some (by kernel_rfl))
  f284 := Tryz.func130.trans (congrArg some (by kernel_rfl))
  f285 := Tryz.func131.trans (congrArg some (by kernel_rfl))
  f286 := Tryz.func132.trans (congrArg some (by kernel_rfl))
  f317 := Tryz.func141.trans (congrArg some (by kernel_rfl))
  f318 := Tryz.func143.trans (congrArg some (by kernel_rfl))
  f319 := Tryz.func144.trans (congrArg some (by kernel_rfl))
  f320 := Tryz.func145.trans (congrArg some (by kernel_rfl))
  f337 := Tryz.func152.trans (congrArg some (by kernel_rfl))
  f338 := Tryz.func153.trans (congrArg some (by kernel_rfl))
  t0 := Tryz.underlying0
  a0 := Tryz.isAgg0
  z0 := Tryz.sizeOf0
  v0 := Tryz.zeroValue0
  t2 := Tryz.underlying2
  a2 := Tryz.isAgg2
  z2 := Tryz.sizeOf2
  v2 := Tryz.zeroValue2
  t3 := Tryz.underlying3
  a3 := Tryz.isAgg3
  z3 := Tryz.sizeOf3
  v3 := Tryz.zeroValue3
  t4 := Tryz.underlying4
  a4 := Tryz.isAgg4
  z4 := Tryz.sizeOf4
  v4 := Tryz.zeroValue4
  t5 := Tryz.underlying5
  a5 := Tryz.isAgg5
  z5 := Tryz.sizeOf5
  v5 := Tryz.zeroValue5
  t9 := Tryz.underlying9
  a9 := Tryz.isAgg9
  z9 := Tryz.sizeOf9
  v9 := Tryz.zeroValue9
  t20 := Tryz.underlying20
  a20 := Tryz.isAgg20
  z20 := Tryz.sizeOf20
  v20 := Tryz.zeroValue20
  t37 := Tryz.underlying34
  a37 := Tryz.isAgg34
  z37 := Tryz.sizeOf34
  v37 := Tryz.zeroValue34
  t46 := Tryz.underlying75
  a46 := Tryz.isAgg75
  z46 := Tryz.sizeOf75
  v46 := Tryz.zeroValue75
  t51 := Tryz.underlying88
  a51 := Tryz.isAgg88
  z51 := Tryz.sizeOf88
  v51 := Tryz.zeroValue88
  t53 := Tryz.underlying91
  a53 := Tryz.isAgg91
  z53 := Tryz.sizeOf91
  v53 := Tryz.zeroValue91
  t171 := Tryz.underlying123
  a171 := Tryz.isAgg123
  z171 := Tryz.sizeOf123
  v171 := Tryz.zeroValue123
  t173 := Tryz.underlying126
  a173 := Tryz.isAgg126
  z173 := Tryz.sizeOf126
  v173 := Tryz.zeroValue126
  t212 := Tryz.underlying136
  a212 := Tryz.isAgg136
  z212 := Tryz.sizeOf136
  v212 := Tryz.zeroValue136
  t213 := Tryz.underlying137
  a213 := Tryz.isAgg137
  z213 := Tryz.sizeOf137
  t232 := Tryz.underlying149
  a232 := Tryz.isAgg149
  z232 := Tryz.sizeOf149
  v232 := Tryz.zeroValue149
  t233 := Tryz.underlying150
  a233 := Tryz.isAgg150
  z233 := Tryz.sizeOf150
  v233 := Tryz.zeroValue150
  g17 := by kernel_rfl
  g18 := by kernel_rfl
  g19 := by kernel_rfl
  i0 := by kernel_rfl
  i2 := by kernel_rfl
  i3 := by kernel_rfl
  i4 := by kernel_rfl
  i5 := by kernel_rfl
  i9 := by kernel_rfl
  i20 := by kernel_rfl
  i37 := by kernel_rfl
  i46 := by kernel_rfl
  i51 := by kernel_rfl
  i53 := by kernel_rfl
  i171 := by kernel_rfl
  i173 := by kernel_rfl
  i212 := by kernel_rfl
  i232 := by kernel_rfl
  i233 := by kernel_rfl
  m17 := by kernel_rfl
  m18 := by kernel_rfl
  m19 := by kernel_rfl }
end Go.Proofs.YtcaeeackccgclaaGreatDoor

/- What is written of an expression, plain; the writer and expressions in memory. -/
namespace Go.Proofs.YtcaeeackccgclaaGreatDoor
open Go.RowKit Go.Shelf

/-- What is written of many, with commas. -/
def wL (f : Ex → Option (List UInt8)) : Bool → List Ex → Option (List UInt8)
  | _, [] => some []
  | first, x :: r => match f x with
    | none => none
    | some a => match wL f false r with
      | none => none
      | some b => some ((bif first then a else 44 :: 32 :: a) ++ b)
/-- What is written of an expression: of a few kinds alone it is told. -/
def wE : Nat → Ex → Option (List UInt8)
  | 0, _ => none
  | n + 1, x => bif x.kind == 4 && decide (x.num ≤ 1000000) then some (Lib.decDigits x.num)
    else bif x.kind == 7 && decide (x.kids.length ≤ 1000000) then match wL (wE n) true x.kids with
      | none => none
      | some a => some (91 :: a ++ [93])
    else bif x.kind == 11 then match x.kids with
      | [a, b] => bif decide (a.kind < 12) then match wE n a with
          | none => none
          | some u => match wE n b with
            | none => none
            | some v => some (u ++ 91 :: v ++ [93])
        else none
      | _ => none
    else none
/-- What a writer's step leaves. -/
def WpO (B b : Nat) (n : Int) (l : List UInt8) (w : World) (e : Ending) (w' : World) : Prop := e = .returned (.tuple #[]) ∧ WrIs B b n (Lib.byteCells l) w' ∧ Kp B b w w' ∧ B ≤ w'.heap.size
theorem Kp.al {B : Nat} (b : Nat) {w : World} (hB : B ≤ w.heap.size) (o : Obj) : Kp B b w (w.alloc o) := ⟨(Below.refl B w).alloc hB o, (Lib.OthersKept.refl _ _ _).alloc o⟩
theorem WrAt.up {B b : Nat} {n : Int} {p : Value} {bs : List Value} {w w' : World} (h : WrAt B b n p bs w) (hb : ∀ g, g < w.heap.size → w'.heap[g]? = w.heap[g]?) : WrAt B b n p bs w' := by
  obtain ⟨hB, v, h1, h2, h3⟩ := h
  exact ⟨hB, v, (hb b (Array.getElem?_eq_some_iff.1 h1).1).trans h1, rowKeep h2 (fun g hg => hb g (h2.lt g hg).2), h3⟩
theorem WrIs.up {B b : Nat} {n : Int} {bs : List Value} {w w' : World} (h : WrIs B b n bs w) (hb : ∀ g, g < w.heap.size → w'.heap[g]? = w.heap[g]?) : WrIs B b n bs w' := h.imp (·.up hb) (·.up hb)
theorem WrIs.al {B b : Nat} {n : Int} {bs : List Value} {w : World} (h : WrIs B b n bs w) (o : Obj) : WrIs B b n bs (w.alloc o) := h.up fun g hg => heap_al w o g hg
theorem WrIs.lt {B b : Nat} {n : Int} {bs : List Value} {w : World} (h : WrIs B b n bs w) : b < w.heap.size := by
  rcases h with ⟨_, v, h1, _⟩ | ⟨_, v, h1, _⟩ <;> exact (Array.getElem?_eq_some_iff.1 h1).1
theorem Kp.other {B b : Nat} {w w' : World} (h : Kp B b w w') {g : Nat} {cur : Array Value} {e : TypeId} {fz : Nat × Nat} (hg : w.heap[g]? = some (.cells cur e fz)) (hb : g ≠ b) (he : e ≠ 5) : w'.heap[g]? = some (.cells cur e fz) := h.2 g _ hg (fun h => hb (by injection h)) (fun c fz h => by injection h with _ h2; exact he h2)
theorem Kp.row {B b : Nat} {w w' : World} (h : Kp B b w w') {base n sz : Nat} {e : TypeId} {v : Value} {xs : List Value} (hr : w.ownsRow base e sz v n xs) (hb : ∀ g, v.ownBlock = some g → g ≠ b) (he : e ≠ 5) : w'.ownsRow base e sz v n xs := by
  refine ⟨hr.1, ?_⟩
  rcases hr.2 with h2 | ⟨g, cap, cur, hv, h1, hg, r⟩
  · exact .inl h2
  · exact .inr ⟨g, cap, cur, hv, h1, h.other hg (hb g (by rw [hv]; rfl)) he, r⟩
theorem ExV.kpw {B b : Nat} {w w' : World} (hk : Kp B b w w') {S : Nat → Prop} (hS : ∀ g, S g → g ≠ b) : ∀ {n : Nat} {x : Ex} {c : List Value}, ExV w S n x c → ExV w' S n x c
  | _ + 1, _, _, ⟨kv, nv, vs, e, h1, h2, h3, h4, h5⟩ => ⟨kv, nv, vs, e, hk.row h1 (fun g hg => hS g (h3 g hg)) (by decide), hk.row h2 (fun g hg => hS g (h4 g hg)) (by decide), h3, h4, h5.mono fun _ _ f => ExV.kpw hk hS f⟩
theorem ExA.kpw {B b : Nat} {w w' : World} (hk : Kp B b w w') {S : Nat → Prop} (hS : ∀ g, S g → g ≠ b) {x : Ex} {c : List Value} (h : ExA w S x c) : ExA w' S x c := ⟨h.choose, h.choose_spec.kpw hk hS⟩
theorem bc_app (a b : List UInt8) : Lib.byteCells (a ++ b) = Lib.byteCells a ++ Lib.byteCells b := by simp [Lib.byteCells]
theorem bc_str (l : List UInt8) : Lib.strCells ⟨l.toArray⟩ = Lib.byteCells l := by simp [Lib.strCells, Lib.byteCells]
theorem bc_len (l : List UInt8) : (Lib.byteCells l).length = l.length := by simp [Lib.byteCells]
/-- A text is written. -/
theorem ws_any {B b : Nat} {n : Int} {l : List UInt8} {w : World} (h : WrIs B b n (Lib.byteCells l) w) (hB : B ≤ w.heap.size) (s : List UInt8) (hlen : l.length + s.length ≤ 1000000000) :
    Calls Tryz.prog 23 #[pt b, .string ⟨s.toArray⟩] w fun e w' => e = .returned (.tuple #[.int .i64 s.length, .nilIface]) ∧ WrIs B b n (Lib.byteCells (l ++ s)) w' ∧ Kp B b w w' ∧ B ≤ w'.heap.size := by
  have hsz : (⟨s.toArray⟩ : ByteArray).size = s.length := by show s.toArray.size = _; simp
  refine (wsW_any B b n _ ⟨s.toArray⟩ w h (by rw [bc_len, hsz]; omega) hB).mono ?_
  rintro e w' ⟨rfl, h1, h2⟩
  refine ⟨by rw [hsz], ?_, h2, Nat.le_trans hB h2.size⟩
  rw [bc_app, ← bc_str s]
  exact .inr h1
theorem wb_any {B b : Nat} {n : Int} {l : List UInt8} {w : World} (h : WrIs B b n (Lib.byteCells l) w) (hB : B ≤ w.heap.size) (c : UInt8) (hlen : l.length + 1 ≤ 1000000000) :
    Calls Tryz.prog 29 #[pt b, .int .u8 c.toNat] w fun e w' => e = .returned .nilIface ∧ WrIs B b n (Lib.byteCells (l ++ [c])) w' ∧ Kp B b w w' ∧ B ≤ w'.heap.size := by
  refine (wbW_any B b n _ c.toNat w h (by rw [bc_len]; omega) hB).mono ?_
  rintro e w' ⟨rfl, h1, h2⟩
  refine ⟨rfl, ?_, h2, Nat.le_trans hB h2.size⟩
  rw [bc_app]
  exact .inr h1
end Go.Proofs.YtcaeeackccgclaaGreatDoor

/- The writer: before, part. -/
namespace Go.Proofs.YtcaeeackccgclaaGreatDoor
open Go.RowKit Go.Shelf

def TabW (w : World) : Prop := Lib.TabIs Tryz.prog w "internal/strconv.uint64pow10" .u64 Lib.pow10Tab
theorem TabW.of_block {w w' : World} (h : TabW w) (hb : w'.heap[1]? = w.heap[1]?) : TabW w' := by
  have hg : Tryz.prog.globalNamed "internal/strconv.uint64pow10" = some 1 := by kernel_rfl
  unfold TabW Lib.TabIs World.var? at *
  rw [hg] at h ⊢
  simp only [Option.bind_some] at h ⊢
  rw [hb]
  exact h
theorem TabW.lt {w : World} (h : TabW w) : 1 < w.heap.size := by
  have hg : Tryz.prog.globalNamed "internal/strconv.uint64pow10" = some 1 := by kernel_rfl
  unfold TabW Lib.TabIs World.var? at h
  rw [hg] at h
  simp only [Option.bind_some] at h
  rcases Nat.lt_or_ge 1 w.heap.size with h1 | h1
  · exact h1
  · rw [Array.getElem?_eq_none h1] at h; cases h
theorem TabW.kp {B b : Nat} {w w' : World} (h : TabW w) (hk : Kp B b w w') (hB : 1 < B) : TabW w' := h.of_block (hk.1.block _ hB)
/-- What writes an expression of which it is told what is written. -/
def ExC (Y m : Nat) : Prop := ∀ (B b : Nat) (n : Int) (x : Ex) (out l : List UInt8) (w : World) (S : Nat → Prop) (c : List Value), wE m x = some out → WrIs B b n (Lib.byteCells l) w → B ≤ w.heap.size → 1 < B → TabW w → ExA w S x c → (∀ g, S g → g ≠ b) → l.length + out.length ≤ 1000000000 → Calls Tryz.prog Y #[pt b, .agg c.toArray] w (WpO B b n (l ++ out) w)
theorem five_of {w : World} {R : Nat} {v0 v1 v2 v3 v4 : Value} {t : TypeId} (h : w.heap[R]? = some (.cells #[v0, v1, v2, v3, v4] t (0, 0))) : w.cell? ⟨R, 0, none⟩ = some v0 ∧ w.cell? ⟨R, 1, none⟩ = some v1 ∧ w.cell? ⟨R, 2, none⟩ = some v2 ∧ w.cell? ⟨R, 3, none⟩ = some v3 ∧ w.cell? ⟨R, 4, none⟩ = some v4 := by
  refine ⟨?_, ?_, ?_, ?_, ?_⟩ <;> (rw [Lib.cell_of_heap h]; rfl)
theorem ExA.al {w : World} {S : Nat → Prop} {x : Ex} {c : List Value} (h : ExA w S x c) (o : Obj) : ExA (w.alloc o) S x c := h.keep (fun g _ hg => heap_al w o g hg) (fun _ hg _ => hg)

set_option maxHeartbeats 4000000 in
set_option maxRecDepth 100000 in
theorem before_any {m B b : Nat} {n : Int} {x : Ex} {out l : List UInt8} {w : World} {S : Nat → Prop} {c : List Value} (hE : ExC 39 m) (hx : wE m x = some out) (h : WrIs B b n (Lib.byteCells l) w) (hB : B ≤ w.heap.size) (hg : 1 < B) (ht : TabW w) (he : ExA w S x c) (hS : ∀ g, S g → g ≠ b) (ah : List UInt8) (hlen : l.length + ah.length + out.length ≤ 1000000000) :
    Calls Tryz.prog 27 #[pt b, .agg c.toArray, .string ⟨ah.toArray⟩] w (WpO B b n (l ++ ah ++ out) w) := by
  obtain ⟨a1, c1, a2, c2, hc⟩ := he.form
  subst hc
  have hbl := h.lt
  have hk0 : Kp B b w (w.alloc (.cells #[.int .i64 x.kind, .int .i64 x.num, .string (mkB x.text), .slice a1 x.kids.length c1, .slice a2 x.names.length c2] 38)) := Kp.al b hB _
  have hs0 : (w.alloc (.cells #[.int .i64 x.kind, .int .i64 x.num, .string (mkB x.text), .slice a1 x.kids.length c1, .slice a2 x.names.length c2] 38)).heap.size = w.heap.size + 1 := World.size_alloc _ _
  have HS := ws_any (h.al (.cells #[.int .i64 x.kind, .int .i64 x.num, .string (mkB x.text), .slice a1 x.kids.length c1, .slice a2 x.names.length c2] 38)) (by omega) ah (by omega)
  have HQ : Hid (Kp B b w (w.alloc (.cells #[.int .i64 x.kind, .int .i64 x.num, .string (mkB x.text), .slice a1 x.kids.length c1, .slice a2 x.names.length c2] 38)) ∧ (w.alloc (.cells #[.int .i64 x.kind, .int .i64 x.num, .string (mkB x.text), .slice a1 x.kids.length c1, .slice a2 x.names.length c2] 38)).heap[w.heap.size]? = some (.cells #[.int .i64 x.kind, .int .i64 x.num, .string (mkB x.text), .slice a1 x.kids.length c1, .slice a2 x.names.length c2] 38 (0, 0)) ∧ ExA (w.alloc (.cells #[.int .i64 x.kind, .int .i64 x.num, .string (mkB x.text), .slice a1 x.kids.length c1, .slice a2 x.names.length c2] 38)) S x [.int .i64 x.kind, .int .i64 x.num, .string (mkB x.text), .slice a1 x.kids.length c1, .slice a2 x.names.length c2] ∧ TabW (w.alloc (.cells #[.int .i64 x.kind, .int .i64 x.num, .string (mkB x.text), .slice a1 x.kids.length c1, .slice a2 x.names.length c2] 38))) := ⟨hk0, heap_alloc_new w _, he.al _, ht.kp hk0 hg⟩
  clear h hk0 ht he hs0
  go_enter Tryz.func27, Tryz.ntmps27
  go_wp2_with (go_at_call 23; refine HS.mono ?_; rintro e w1 ⟨rfl, h1, hk1, hB1⟩; obtain ⟨u0, u1, u2, u3, u4⟩ := five_of (hk1.other HQ.out.2.1 (by omega) (by decide)); have HE := hE B b n x out (l ++ ah) w1 S [.int .i64 x.kind, .int .i64 x.num, .string (mkB x.text), .slice a1 x.kids.length c1, .slice a2 x.names.length c2] hx h1 hB1 hg (HQ.out.2.2.2.kp hk1 hg) (HQ.out.2.2.1.kpw hk1 hS) hS (by rw [List.length_append]; omega); have HK := hk1; clear h1 hk1)
  refine HE.mono ?_
  rintro e w2 ⟨rfl, h2, hk2, hB2⟩
  go_wp2
  go_end0
  exact ⟨rfl, h2, (HQ.out.1.trans HK).trans hk2, hB2⟩

set_option maxHeartbeats 4000000 in
set_option maxRecDepth 100000 in
theorem part_any {m B b : Nat} {n : Int} {x : Ex} {out l : List UInt8} {w : World} {S : Nat → Prop} {c : List Value} (hE : ExC 39 m) (hx : wE m x = some out) (hk : x.kind < 12) (h : WrIs B b n (Lib.byteCells l) w) (hB : B ≤ w.heap.size) (hg : 1 < B) (ht : TabW w) (he : ExA w S x c) (hS : ∀ g, S g → g ≠ b) (hlen : l.length + out.length ≤ 1000000000) :
    Calls Tryz.prog 86 #[pt b, .agg c.toArray] w (WpO B b n (l ++ out) w) := by
  obtain ⟨a1, c1, a2, c2, hc⟩ := he.form
  subst hc
  have hbl := h.lt
  have hk0 : Kp B b w (w.alloc (.cells #[.int .i64 x.kind, .int .i64 x.num, .string (mkB x.text), .slice a1 x.kids.length c1, .slice a2 x.names.length c2] 38)) := Kp.al b hB _
  have hs0 : (w.alloc (.cells #[.int .i64 x.kind, .int .i64 x.num, .string (mkB x.text), .slice a1 x.kids.length c1, .slice a2 x.names.length c2] 38)).heap.size = w.heap.size + 1 := World.size_alloc _ _
  have HE := hE B b n x out l (w.alloc (.cells #[.int .i64 x.kind, .int .i64 x.num, .string (mkB x.text), .slice a1 x.kids.length c1, .slice a2 x.names.length c2] 38)) S [.int .i64 x.kind, .int .i64 x.num, .string (mkB x.text), .slice a1 x.kids.length c1, .slice a2 x.names.length c2] hx (h.al _) (by omega) hg (ht.kp hk0 hg) (he.al _) hS hlen
  have q1 : (((x.kind : Nat) : Int) == (12 : Int)) = false := by rw [beq_eq_false_iff_ne]; omega
  have q2 : (((x.kind : Nat) : Int) == (13 : Int)) = false := by rw [beq_eq_false_iff_ne]; omega
  have q3 : (((x.kind : Nat) : Int) == (14 : Int)) = false := by rw [beq_eq_false_iff_ne]; omega
  have HK : Hid (Kp B b w (w.alloc (.cells #[.int .i64 x.kind, .int .i64 x.num, .string (mkB x.text), .slice a1 x.kids.length c1, .slice a2 x.names.length c2] 38))) := hk0
  clear h hk0 ht he hs0 hE hx hk
  go_enter Tryz.func86, Tryz.ntmps86
  go_wp2_with fail
  refine HE.mono ?_
  rintro e w2 ⟨rfl, h2, hk2, hB2⟩
  go_wp2
  go_end0
  exact ⟨rfl, h2, HK.out.trans hk2, hB2⟩
end Go.Proofs.YtcaeeackccgclaaGreatDoor

/- The writer: lists. -/
namespace Go.Proofs.YtcaeeackccgclaaGreatDoor
open Go.RowKit Go.Shelf

theorem flat5 : ∀ (vs : List (List Value)) (_ : ∀ c ∈ vs, c.length = 5) (k : Nat) (c : List Value) (_ : vs[k]? = some c) (i : Nat) (_ : i < 5), vs.flatten[k * 5 + i]? = c[i]?
  | v :: vs, h, 0, c, hk, i, hi => by
    cases hk
    rw [Nat.zero_mul, Nat.zero_add, List.flatten_cons, List.getElem?_append_left (by rw [h v (by simp)]; exact hi)]
  | v :: vs, h, k + 1, c, hk, i, hi => by
    have hv := h v (by simp)
    rw [List.flatten_cons, List.getElem?_append_right (by rw [hv]; omega), hv, show (k + 1) * 5 + i - 5 = k * 5 + i from by omega]
    exact flat5 vs (fun c hc => h c (by simp [hc])) k c (by simpa using hk) i hi
theorem Fa.mem {α β : Type} {R : α → β → Prop} {P : β → Prop} (h : ∀ a b, R a b → P b) : ∀ {l : List α} {m : List β}, Fa R l m → ∀ b ∈ m, P b
  | [], [], _, _, hb => by cases hb
  | a :: l, b :: m, f, c, hc => by
    rcases List.mem_cons.1 hc with rfl | hc
    · exact h _ _ f.1
    · exact Fa.mem h f.2 c hc
theorem row_form {w : World} {B : Nat} {e : TypeId} {sz : Nat} {v : Value} {n : Nat} {xs : List Value} (h : w.ownsRow B e sz v n xs) (hn : 0 < n) : ∃ g cap, v = .slice (some ⟨g, 0, none⟩) n cap ∧ n ≤ cap ∧ ∀ j, j < n * sz → w.cell? ⟨g, j, none⟩ = xs[j]? := by
  rcases h.2 with ⟨_, e0⟩ | ⟨g, cap, cur, hv, h2, h3, h4, h5, h6, h7⟩
  · omega
  · exact ⟨g, cap, hv, h4, fun j hj => by rw [Lib.cell_of_heap h3, ← h7, List.getElem?_take_of_lt hj]; simp⟩
/-- A kid, where it lies. -/
theorem ExA.kid {w : World} {S : Nat → Prop} {x : Ex} {a1 a2 : Option Addr} {c1 c2 : Nat} (h : ExA w S x [.int .i64 x.kind, .int .i64 x.num, .string (mkB x.text), .slice a1 x.kids.length c1, .slice a2 x.names.length c2]) (k : Nat) (hk : k < x.kids.length) : ∃ g, a1 = some ⟨g, 0, none⟩ ∧ ∃ c, ExA w S x.kids[k] c ∧ ∀ i, i < 5 → w.cell? ⟨g, k * 5 + i, none⟩ = c[i]? := by
  obtain ⟨kv, nv, vs, e, h1, h2, h3, h4, h5⟩ := h.open
  injection e with _ e
  injection e with _ e
  injection e with _ e
  injection e with e1 e
  subst e1
  obtain ⟨g, cap, hv, _, hc⟩ := row_form h1 (by omega)
  cases hv
  have hvl := h5.len
  refine ⟨g, rfl, vs[k]'(by omega), Fa.get h5 k hk (by omega), fun i hi => ?_⟩
  rw [hc (k * 5 + i) (by have : k + 1 ≤ x.kids.length := hk; omega)]
  exact flat5 vs (Fa.mem (fun _ _ f => f.len) h5) k _ (List.getElem?_eq_getElem (by omega)) i hi

set_option maxHeartbeats 8000000 in
set_option maxRecDepth 100000 in
theorem wlisted_any {B b : Nat} {n : Int} {f : Ex → Option (List UInt8)} {kids : List Ex} {outs l : List UInt8} {w : World} (F : Nat) (p1 p2 : Value) (hent : ∀ args w, (callFunc F args).run Tryz.prog w = .ok (.enter F args) w) (hx : wL f true kids = some outs) (h : WrIs B b n (Lib.byteCells l) w) (hB : B ≤ w.heap.size) (op cl : List UInt8) (hn : kids.length ≤ 1000000) (hlen : l.length + op.length + outs.length + cl.length ≤ 1000000000)
    (hc : ∀ k (hk : k < kids.length) W l' out, Kp B b w W → WrIs B b n (Lib.byteCells l') W → B ≤ W.heap.size → f kids[k] = some out → l'.length + out.length ≤ 1000000000 → Calls Tryz.prog F #[.int .i64 k, p1, p2] W (WpO B b n (l' ++ out) W)) :
    Calls Tryz.prog 58 #[pt b, .string ⟨op.toArray⟩, .int .i64 kids.length, .string ⟨cl.toArray⟩, .func (.func F) #[] #[p1, p2]] w (WpO B b n (l ++ op ++ outs ++ cl) w) := by
  have HS := ws_any h hB op (by omega)
  have HC : Hid (∀ k (hk : k < kids.length) W l' out, Kp B b w W → WrIs B b n (Lib.byteCells l') W → B ≤ W.heap.size → f kids[k] = some out → l'.length + out.length ≤ 1000000000 → Calls Tryz.prog F #[.int .i64 k, p1, p2] W (WpO B b n (l' ++ out) W)) := hc
  have HX : Hid (wL f true kids = some outs) := hx
  have hni : (kids.length : Int) ≤ 1000000 := by omega
  clear h hc hx
  go_enter Tryz.func58, Tryz.ntmps58
  go_wp2_with (go_at_call 23; refine HS.mono ?_; rintro e w1 ⟨rfl, h1, hk1, hB1⟩; have HI : Hid (∃ l' rest, WrIs B b n (Lib.byteCells l') w1 ∧ Kp B b w w1 ∧ B ≤ w1.heap.size ∧ wL f true kids = some rest ∧ l' ++ rest = l ++ op ++ outs) := ⟨_, _, h1, hk1, hB1, HX.out, rfl⟩; clear h1 hk1 hB1 HX)
  go_loopw [17] (fun u wr => ∃ k : Nat, k ≤ kids.length ∧ u = .int .i64 (k : Int) ∧ Hid (∃ l' rest, WrIs B b n (Lib.byteCells l') wr ∧ Kp B b w wr ∧ B ≤ wr.heap.size ∧ wL f (decide (k = 0)) (kids.drop k) = some rest ∧ l' ++ rest = l ++ op ++ outs)) (fun u _ => kids.length - (intOf u).toNat)
  case atStart => exact ⟨0, Nat.zero_le _, rfl, HI⟩
  case round =>
    obtain ⟨k, hk, rfl, hrel⟩ := hrel
    obtain ⟨l', rest, hw, hkp, hBw, hr, hll⟩ := hrel.out
    have hll2 := congrArg List.length hll
    simp only [List.length_append] at hll2
    clear hrel HI HS
    by_cases hlt : k < kids.length
    · have hki : (k : Int) < (kids.length : Int) := by omega
      rw [List.drop_eq_getElem_cons hlt] at hr
      unfold wL at hr
      cases ha : f kids[k] with
      | none => rw [ha] at hr; cases hr
      | some a =>
      cases hb : wL f false (kids.drop (k + 1)) with
      | none => rw [ha, hb] at hr; cases hr
      | some bs =>
      rw [ha, hb] at hr
      replace hr : (bif decide (k = 0) then a else 44 :: 32 :: a) ++ bs = rest := by simpa using hr
      by_cases hk0 : k = 0
      · subst hk0
        have HE := HC.out 0 hlt wr l' a hkp hw hBw ha (by rw [← hr] at hll2; simp at hll2; omega)
        go_wp2_with fail
        refine HE.mono ?_
        rintro e w2 ⟨rfl, h2, hk2, hB2⟩
        have HI : Hid (∃ l'' rest, WrIs B b n (Lib.byteCells l'') w2 ∧ Kp B b w w2 ∧ B ≤ w2.heap.size ∧ wL f false (kids.drop 1) = some rest ∧ l'' ++ rest = l ++ op ++ outs) := ⟨l' ++ a, bs, h2, hkp.trans hk2, hB2, hb, by rw [← hll, ← hr]; simp⟩
        clear h2 hk2 hB2 HE hw hkp hBw
        go_wp2
        exact ⟨⟨1, by omega, by go_num, HI⟩, by simp [intOf]; omega⟩
      · have hkp0 : (0 : Int) < (k : Int) := by omega
        have hr2 : 44 :: 32 :: a ++ bs = rest := by simpa [hk0] using hr
        have HS := ws_any hw hBw [44, 32] (by rw [← hr2] at hll2; simp at hll2 ⊢; omega)
        go_wp2_with fail
        refine HS.mono ?_
        rintro e w2 ⟨rfl, h2, hk2, hB2⟩
        have HE := HC.out k hlt w2 (l' ++ [44, 32]) a (hkp.trans hk2) h2 hB2 ha (by rw [← hr2] at hll2; simp at hll2 ⊢; omega)
        go_wp2_with fail
        refine HE.mono ?_
        rintro e w3 ⟨rfl, h3, hk3, hB3⟩
        have HI : Hid (∃ l'' rest, WrIs B b n (Lib.byteCells l'') w3 ∧ Kp B b w w3 ∧ B ≤ w3.heap.size ∧ wL f (decide (k + 1 = 0)) (kids.drop (k + 1)) = some rest ∧ l'' ++ rest = l ++ op ++ outs) := ⟨l' ++ [44, 32] ++ a, bs, h3, (hkp.trans hk2).trans hk3, hB3, hb, by rw [← hll, ← hr2]; simp⟩
        clear h2 hk2 hB2 HE HS hw hkp hBw h3 hk3 hB3
        go_wp2
        exact ⟨⟨k + 1, by omega, by go_num, HI⟩, by simp [intOf]; omega⟩
    · obtain rfl : k = kids.length := by omega
      rw [List.drop_length] at hr
      have hr2 : rest = [] := by simpa [wL] using hr.symm
      subst hr2
      rw [List.append_nil] at hll
      subst hll
      have HS := ws_any hw hBw cl (by simp; omega)
      go_wp2_with (go_at_call 23; refine HS.mono ?_; rintro e w2 ⟨rfl, h2, hk2, hB2⟩)
      go_end0
      exact ⟨rfl, h2, hkp.trans hk2, hB2⟩

set_option maxHeartbeats 8000000 in
set_option maxRecDepth 100000 in
theorem madeE_any {m B b wb eb : Nat} {n : Int} {x : Ex} {a1 a2 : Option Addr} {c1 c2 : Nat} {W : World} {S : Nat → Prop} (hE : ExC 39 m) (hw : W.cell? ⟨wb, 0, none⟩ = some (pt b)) (he : W.heap[eb]? = some (.cells #[.int .i64 x.kind, .int .i64 x.num, .string (mkB x.text), .slice a1 x.kids.length c1, .slice a2 x.names.length c2] 38 (0, 0))) (hx : ExA W S x [.int .i64 x.kind, .int .i64 x.num, .string (mkB x.text), .slice a1 x.kids.length c1, .slice a2 x.names.length c2]) (hS : ∀ g, S g → g ≠ b) (hg : 1 < B) (ht : TabW W) (k : Nat) (hk : k < x.kids.length) {out l : List UInt8} (h : WrIs B b n (Lib.byteCells l) W) (hB : B ≤ W.heap.size) (ho : wE m x.kids[k] = some out) (hlen : l.length + out.length ≤ 1000000000) :
    Calls Tryz.prog 83 #[.int .i64 k, pt wb, pt eb] W (WpO B b n (l ++ out) W) := by
  obtain ⟨g, rfl, c, hxk, hcell⟩ := hx.kid k hk
  obtain ⟨_, _, _, u3, _⟩ := five_of he
  generalize hy : x.kids[k] = y at *
  obtain ⟨b1, d1, b2, d2, hc⟩ := hxk.form
  subst hc
  have v0 := hcell 0 (by decide)
  have v1 := hcell 1 (by decide)
  have v2 := hcell 2 (by decide)
  have v3 := hcell 3 (by decide)
  have v4 := hcell 4 (by decide)
  simp only [List.getElem?_cons_zero, List.getElem?_cons_succ, Nat.add_zero] at v0 v1 v2 v3 v4
  have hki : (k : Int) < (x.kids.length : Int) := by omega
  have HE : Hid (Calls Tryz.prog 39 #[pt b, .agg #[.int .i64 y.kind, .int .i64 y.num, .string (mkB y.text), .slice b1 y.kids.length d1, .slice b2 y.names.length d2]] W.drew (WpO B b n (l ++ out) W)) := (hE B b n y out l W.drew S [.int .i64 y.kind, .int .i64 y.num, .string (mkB y.text), .slice b1 y.kids.length d1, .slice b2 y.names.length d2] ho h hB hg (ht.of_block rfl) (hxk.keep (fun _ _ _ => rfl) (fun _ hg _ => hg)) hS hlen).mono fun e w' ⟨q1, q2, q3, q4⟩ => ⟨q1, q2, ⟨⟨q3.1.os, q3.1.tape, q3.1.output, q3.1.size, q3.1.block⟩, q3.2⟩, q4⟩
  clear hcell hxk hx he hE h hB ht hy
  go_enter Tryz.func83, Tryz.ntmps83
  go_wp2_with fail
  go_region_with (first
    | (go_at_call 39; refine HE.out.mono ?_; rintro e w2 ⟨rfl, h2, hk2, hB2⟩)
    | fail)
  all_goals
    go_wp2
    go_end0
    exact ⟨rfl, h2, hk2, hB2⟩
end Go.Proofs.YtcaeeackccgclaaGreatDoor

/- The writer: expressions. -/
namespace Go.Proofs.YtcaeeackccgclaaGreatDoor
open Go.RowKit Go.Shelf Go.Sort

theorem mk_func2 (fn : Fn) (first cap : Array Value) (w : World) : (Instr.makeFunc fn first cap).run Tryz.prog w = .ok (.func fn first cap) w := rfl
attribute [local go_sem] mk_func2
def mdW (b : Nat) (k : Array Value) (w : World) : World := (w.alloc (.cells #[pt b] 54)).alloc (.cells k 38)
theorem md_facts {B b : Nat} {n : Int} {bs : List Value} {w : World} (k : Array Value) (h : WrIs B b n bs w) (hB : B ≤ w.heap.size) : WrIs B b n bs (mdW b k w) ∧ Kp B b w (mdW b k w) ∧ (mdW b k w).heap[w.heap.size]? = some (.cells #[pt b] 54 (0, 0)) ∧ (mdW b k w).heap[w.heap.size + 1]? = some (.cells k 38 (0, 0)) ∧ B ≤ (mdW b k w).heap.size := by
  have s0 : (w.alloc (.cells #[pt b] 54)).heap.size = w.heap.size + 1 := World.size_alloc _ _
  have hk1 : Kp B b w (w.alloc (.cells #[pt b] 54)) := Kp.al b hB _
  refine ⟨(h.al _).al _, hk1.trans (Kp.al b (by omega) _), (heap_al _ _ _ (by omega)).trans (heap_alloc_new w _), ?_, by unfold mdW; rw [World.size_alloc, s0]; omega⟩
  have := heap_alloc_new (w.alloc (.cells #[pt b] 54)) (.cells k 38)
  rwa [s0] at this
theorem box_of {w : World} {R : Nat} {v : Value} {t : TypeId} (h : w.heap[R]? = some (.cells #[v] t (0, 0))) : w.cell? ⟨R, 0, none⟩ = some v := by rw [Lib.cell_of_heap h]; rfl

set_option maxHeartbeats 8000000 in
set_option maxRecDepth 100000 in
theorem madeL_any {m B b : Nat} {n : Int} {x : Ex} {outs l : List UInt8} {w : World} {S : Nat → Prop} {c : List Value} (hE : ExC 39 m) (hkd : x.kind = 7) (hx : wL (wE m) true x.kids = some outs) (h : WrIs B b n (Lib.byteCells l) w) (hB : B ≤ w.heap.size) (hg : 1 < B) (ht : TabW w) (he : ExA w S x c) (hS : ∀ g, S g → g ≠ b) (hn : x.kids.length ≤ 1000000) (hlen : l.length + outs.length + 2 ≤ 1000000000) :
    Calls Tryz.prog 57 #[pt b, .agg c.toArray] w (WpO B b n (l ++ (91 :: outs ++ [93])) w) := by
  obtain ⟨a1, c1, a2, c2, hc⟩ := he.form
  subst hc
  have hbl := h.lt
  obtain ⟨h0, hk0, hw0, he0, hB0⟩ := md_facts #[.int .i64 x.kind, .int .i64 x.num, .string (mkB x.text), .slice a1 x.kids.length c1, .slice a2 x.names.length c2] h hB
  have cw := box_of hw0
  have HL : Calls Tryz.prog 58 #[pt b, .string ⟨#[91]⟩, .int .i64 x.kids.length, .string ⟨#[93]⟩, .func (.func 83) #[] #[pt w.heap.size, pt (w.heap.size + 1)]] (mdW b #[.int .i64 x.kind, .int .i64 x.num, .string (mkB x.text), .slice a1 x.kids.length c1, .slice a2 x.names.length c2] w) (WpO B b n (l ++ [91] ++ outs ++ [93]) (mdW b #[.int .i64 x.kind, .int .i64 x.num, .string (mkB x.text), .slice a1 x.kids.length c1, .slice a2 x.names.length c2] w)) :=
    wlisted_any 83 (pt w.heap.size) (pt (w.heap.size + 1)) (enters_of Tryz.func83 (by kernel_rfl) rfl) hx h0 hB0 [91] [93] hn (by simp; omega) fun k hk W l' out hkW hW hBW ho hl2 =>
      madeE_any hE (box_of (hkW.other hw0 (by omega) (by decide))) (hkW.other he0 (by omega) (by decide)) ((ExA.kpw hk0 hS he).kpw hkW hS) hS hg ((ht.kp hk0 hg).kp hkW hg) k hk hW hBW ho hl2
  obtain ⟨u0, u1, u2, u3, u4⟩ := five_of he0
  have HK : Hid (Kp B b w (mdW b #[.int .i64 x.kind, .int .i64 x.num, .string (mkB x.text), .slice a1 x.kids.length c1, .slice a2 x.names.length c2] w)) := hk0
  have hq : (((x.kind : Nat) : Int) == (7 : Int)) = true := by rw [hkd]; rfl
  clear h h0 hk0 hw0 he0 he ht hx hE hB0 hkd
  unfold mdW at *
  go_enter Tryz.func57, Tryz.ntmps57
  go_wp2_with fail
  refine HL.mono ?_
  rintro e w2 ⟨rfl, h2, hk2, hB2⟩
  go_wp2
  go_end0
  exact ⟨rfl, by simpa using h2, HK.out.trans hk2, hB2⟩
theorem Kp.un {B b : Nat} {w w' : World} (h : Kp B b w.drew w') : Kp B b w w' := ⟨⟨h.1.os, h.1.tape, h.1.output, h.1.size, h.1.block⟩, h.2⟩

set_option maxHeartbeats 8000000 in
set_option maxRecDepth 100000 in
theorem madeI_any {m B b : Nat} {n : Int} {x y z : Ex} {o1 o2 l : List UInt8} {w : World} {S : Nat → Prop} {c : List Value} (hE : ExC 39 m) (hkd : x.kind = 11) (hks : x.kids = [y, z]) (hyk : y.kind < 12) (hy : wE m y = some o1) (hz : wE m z = some o2) (h : WrIs B b n (Lib.byteCells l) w) (hB : B ≤ w.heap.size) (hg : 1 < B) (ht : TabW w) (he : ExA w S x c) (hS : ∀ g, S g → g ≠ b) (hlen : l.length + o1.length + o2.length + 2 ≤ 1000000000) :
    Calls Tryz.prog 57 #[pt b, .agg c.toArray] w (WpO B b n (l ++ (o1 ++ 91 :: o2 ++ [93])) w) := by
  obtain ⟨a1, c1, a2, c2, hc⟩ := he.form
  subst hc
  have hbl := h.lt
  obtain ⟨h0, hk0, hw0, he0, hB0⟩ := md_facts #[.int .i64 x.kind, .int .i64 x.num, .string (mkB x.text), .slice a1 x.kids.length c1, .slice a2 x.names.length c2] h hB
  have cw := box_of hw0
  obtain ⟨u0, u1, u2, u3, u4⟩ := five_of he0
  have hxW := ExA.kpw hk0 hS he
  have hl2 : x.kids.length = 2 := by rw [hks]; rfl
  obtain ⟨g, rfl, cy, hxy, hcy⟩ := hxW.kid 0 (by omega)
  obtain ⟨g2, hg2, cz, hxz, hcz⟩ := hxW.kid 1 (by omega)
  cases hg2
  have ey : x.kids[0]'(by omega) = y := by simp [hks]
  have ezz : x.kids[1]'(by omega) = z := by simp [hks]
  rw [ey] at hxy
  rw [ezz] at hxz
  obtain ⟨b1, d1, b2, d2, e1⟩ := hxy.form
  subst e1
  obtain ⟨f1, g1, f2, g2, e2⟩ := hxz.form
  subst e2
  have v0 := hcy 0 (by decide)
  have v1 := hcy 1 (by decide)
  have v2 := hcy 2 (by decide)
  have v3 := hcy 3 (by decide)
  have v4 := hcy 4 (by decide)
  simp only [List.getElem?_cons_zero, List.getElem?_cons_succ, Nat.add_zero, Nat.zero_mul, Nat.zero_add] at v0 v1 v2 v3 v4
  have hgb : ∀ (V : World), Kp B b (mdW b #[.int .i64 x.kind, .int .i64 x.num, .string (mkB x.text), .slice (some ⟨g, 0, none⟩) x.kids.length c1, .slice a2 x.names.length c2] w) V → V.heap[g]? = (mdW b #[.int .i64 x.kind, .int .i64 x.num, .string (mkB x.text), .slice (some ⟨g, 0, none⟩) x.kids.length c1, .slice a2 x.names.length c2] w).heap[g]? := fun V hV => by
    obtain ⟨kv, nv, vs, e, q1, q2, q3, q4, q5⟩ := hxW.open
    injection e with _ e
    injection e with _ e
    injection e with _ e
    injection e with e1 e
    subst e1
    rcases q1.2 with ⟨hv, _⟩ | ⟨g', cap, cur, hv, _, hgg, _⟩
    · cases hv
    · cases hv
      rw [hgg]
      exact hV.other hgg (hS _ (q3 _ rfl)) (by decide)
  have HP : Hid (Calls Tryz.prog 86 #[pt b, .agg #[.int .i64 y.kind, .int .i64 y.num, .string (mkB y.text), .slice b1 y.kids.length d1, .slice b2 y.names.length d2]] (mdW b #[.int .i64 x.kind, .int .i64 x.num, .string (mkB x.text), .slice (some ⟨g, 0, none⟩) x.kids.length c1, .slice a2 x.names.length c2] w).drew (WpO B b n (l ++ o1) (mdW b #[.int .i64 x.kind, .int .i64 x.num, .string (mkB x.text), .slice (some ⟨g, 0, none⟩) x.kids.length c1, .slice a2 x.names.length c2] w).drew)) := part_any (w := (mdW b #[.int .i64 x.kind, .int .i64 x.num, .string (mkB x.text), .slice (some ⟨g, 0, none⟩) x.kids.length c1, .slice a2 x.names.length c2] w).drew) hE hy hyk h0 hB0 hg ((ht.kp hk0 hg).of_block rfl) (hxy.keep (fun _ _ _ => rfl) (fun _ q _ => q)) hS (by omega)
  have HF : Hid (∀ V, Kp B b (mdW b #[.int .i64 x.kind, .int .i64 x.num, .string (mkB x.text), .slice (some ⟨g, 0, none⟩) x.kids.length c1, .slice a2 x.names.length c2] w) V → (V.cell? ⟨w.heap.size, 0, none⟩ = some (pt b) ∧ V.cell? ⟨w.heap.size + 1, 3, none⟩ = some (.slice (some ⟨g, 0, none⟩) x.kids.length c1)) ∧ (V.cell? ⟨g, 5, none⟩ = some (.int .i64 z.kind) ∧ V.cell? ⟨g, 6, none⟩ = some (.int .i64 z.num) ∧ V.cell? ⟨g, 7, none⟩ = some (.string (mkB z.text)) ∧ V.cell? ⟨g, 8, none⟩ = some (.slice f1 z.kids.length g1) ∧ V.cell? ⟨g, 9, none⟩ = some (.slice f2 z.names.length g2)) ∧ ExA V S z [.int .i64 z.kind, .int .i64 z.num, .string (mkB z.text), .slice f1 z.kids.length g1, .slice f2 z.names.length g2] ∧ TabW V) := fun V hV => by
    have hcell : ∀ o, V.cell? ⟨g, o, none⟩ = (mdW b #[.int .i64 x.kind, .int .i64 x.num, .string (mkB x.text), .slice (some ⟨g, 0, none⟩) x.kids.length c1, .slice a2 x.names.length c2] w).cell? ⟨g, o, none⟩ := fun o => World.cell?_of_block (hgb V hV)
    refine ⟨⟨box_of (hV.other hw0 (by omega) (by decide)), (five_of (hV.other he0 (by omega) (by decide))).2.2.2.1⟩, ⟨?_, ?_, ?_, ?_, ?_⟩, hxz.kpw hV hS, (ht.kp hk0 hg).kp hV hg⟩
    · rw [hcell]; exact hcz 0 (by decide)
    · rw [hcell]; exact hcz 1 (by decide)
    · rw [hcell]; exact hcz 2 (by decide)
    · rw [hcell]; exact hcz 3 (by decide)
    · rw [hcell]; exact hcz 4 (by decide)
  have HK : Hid (Kp B b w (mdW b #[.int .i64 x.kind, .int .i64 x.num, .string (mkB x.text), .slice (some ⟨g, 0, none⟩) x.kids.length c1, .slice a2 x.names.length c2] w)) := hk0
  have hq7 : (((x.kind : Nat) : Int) == (7 : Int)) = false := by rw [hkd]; rfl
  have hq8 : (((x.kind : Nat) : Int) == (8 : Int)) = false := by rw [hkd]; rfl
  have hq9 : (((x.kind : Nat) : Int) == (9 : Int)) = false := by rw [hkd]; rfl
  have hq10 : (((x.kind : Nat) : Int) == (10 : Int)) = false := by rw [hkd]; rfl
  have hq11 : (((x.kind : Nat) : Int) == (11 : Int)) = true := by rw [hkd]; rfl
  clear h h0 hk0 hw0 he0 he ht hB0 hkd hxW hxy hxz hcy hcz hgb hy hyk ey ezz hks
  rw [hl2] at *
  unfold mdW at *
  go_enter Tryz.func57, Tryz.ntmps57
  go_wp2_with fail
  go_region_with (first
    | (go_at_call 86; refine HP.out.mono ?_; rintro e w1 ⟨rfl, h1, hk1, hB1⟩; obtain ⟨⟨p0, p1⟩, ⟨z0, z1, z2, z3, z4⟩, hz1, ht1⟩ := HF.out w1 hk1.un)
    | fail)
  all_goals
    have HBf : Hid (Calls Tryz.prog 27 #[pt b, .agg #[.int .i64 z.kind, .int .i64 z.num, .string (mkB z.text), .slice f1 z.kids.length g1, .slice f2 z.names.length g2], .string ⟨#[91]⟩] w1.drew (WpO B b n (l ++ o1 ++ [91] ++ o2) w1.drew)) := before_any (w := w1.drew) hE hz h1 hB1 hg (ht1.of_block rfl) (hz1.keep (fun _ _ _ => rfl) (fun _ q _ => q)) hS [91] (by simp; omega)
    have HK1 : Hid (Kp B b w w1) := HK.out.trans hk1.un
    have HF1 : Hid (∀ V, Kp B b w1 V → V.cell? ⟨w.heap.size, 0, none⟩ = some (pt b)) := fun V hV => (HF.out V (hk1.un.trans hV)).1.1
    clear h1 hk1 hB1 hz1 ht1 HF HP
    go_wp2_with fail
    go_region_with (first
      | (go_at_call 27; refine HBf.out.mono ?_; rintro e w3 ⟨rfl, h3, hk3, hB3⟩; have p3 := HF1.out w3 hk3.un)
      | fail)
    all_goals
      have HWb := wb_any h3 hB3 93 (by simp; omega)
      go_wp2_with (go_at_call 29; refine HWb.mono ?_; rintro e w4 ⟨rfl, h4, hk4, hB4⟩)
      go_end0
      exact ⟨rfl, by simpa using h4, (HK1.out.trans hk3.un).trans hk4, hB4⟩

theorem itoaS (k : Nat) (hk : k ≤ 1000000) (w : World) (h : TabW w) :
    Calls Tryz.prog 55 #[.int .i64 (k : Int)] w fun e w' => e = .returned (.string ⟨(Lib.decDigits k).toArray⟩) ∧ Below w.heap.size w w' := by
  refine (Any.strconv_Itoa laysI (k : Int) (by omega) (by omega) w h).mono ?_
  rintro e w' ⟨rfl, j, os, rfl⟩
  refine ⟨?_, ⟨rfl, rfl, rfl, ?_, ?_⟩⟩
  · have e : Lib.itoa (k : Int) = Lib.decDigits k := by
      unfold Lib.itoa
      rw [if_neg (by omega)]
      rfl
    rw [e]
    all_goals rfl
  · simp [grow]
  · intro g hg
    rw [heap_grow_old _ _ (by simpa using hg)]
    rfl

set_option maxHeartbeats 8000000 in
set_option maxRecDepth 100000 in
theorem exprI_any {B b : Nat} {n : Int} {x : Ex} {l : List UInt8} {w : World} {S : Nat → Prop} {c : List Value} (hkd : x.kind = 4) (hn : x.num ≤ 1000000) (h : WrIs B b n (Lib.byteCells l) w) (hB : B ≤ w.heap.size) (hg : 1 < B) (ht : TabW w) (he : ExA w S x c) (hlen : l.length + (Lib.decDigits x.num).length ≤ 1000000000) :
    Calls Tryz.prog 39 #[pt b, .agg c.toArray] w (WpO B b n (l ++ Lib.decDigits x.num) w) := by
  obtain ⟨a1, c1, a2, c2, hc⟩ := he.form
  subst hc
  have hk0 : Kp B b w (w.alloc (.cells #[.int .i64 x.kind, .int .i64 x.num, .string (mkB x.text), .slice a1 x.kids.length c1, .slice a2 x.names.length c2] 38)) := Kp.al b hB _
  have s0 : (w.alloc (.cells #[.int .i64 x.kind, .int .i64 x.num, .string (mkB x.text), .slice a1 x.kids.length c1, .slice a2 x.names.length c2] 38)).heap.size = w.heap.size + 1 := World.size_alloc _ _
  have HI : Hid (Calls Tryz.prog 55 #[.int .i64 (x.num : Int)] (w.alloc (.cells #[.int .i64 x.kind, .int .i64 x.num, .string (mkB x.text), .slice a1 x.kids.length c1, .slice a2 x.names.length c2] 38)).drew fun e w' => e = .returned (.string ⟨(Lib.decDigits x.num).toArray⟩) ∧ WrIs B b n (Lib.byteCells l) w' ∧ Kp B b w w' ∧ B ≤ w'.heap.size) := (itoaS x.num hn (w.alloc (.cells #[.int .i64 x.kind, .int .i64 x.num, .string (mkB x.text), .slice a1 x.kids.length c1, .slice a2 x.names.length c2] 38)).drew ((ht.kp hk0 hg).of_block rfl)).mono fun e w' ⟨q1, q2⟩ => by
    have q3 : ∀ g, g < (w.alloc (.cells #[.int .i64 x.kind, .int .i64 x.num, .string (mkB x.text), .slice a1 x.kids.length c1, .slice a2 x.names.length c2] 38)).heap.size → w'.heap[g]? = (w.alloc (.cells #[.int .i64 x.kind, .int .i64 x.num, .string (mkB x.text), .slice a1 x.kids.length c1, .slice a2 x.names.length c2] 38)).heap[g]? := q2.block
    have q4 : (w.alloc (.cells #[.int .i64 x.kind, .int .i64 x.num, .string (mkB x.text), .slice a1 x.kids.length c1, .slice a2 x.names.length c2] 38)).heap.size ≤ w'.heap.size := q2.size
    exact ⟨q1, (h.al _).up q3, hk0.trans ⟨⟨q2.os, q2.tape, q2.output, q4, fun g hg => q3 g (by omega)⟩, fun k o hk _ _ => (q3 k (Array.getElem?_eq_some_iff.1 hk).1).trans hk⟩, by omega⟩
  have q1 : (((x.kind : Nat) : Int) == (1 : Int)) = false := by rw [hkd]; rfl
  have q2 : (((x.kind : Nat) : Int) == (2 : Int)) = false := by rw [hkd]; rfl
  have q3 : (((x.kind : Nat) : Int) == (3 : Int)) = false := by rw [hkd]; rfl
  have q4 : (((x.kind : Nat) : Int) == (4 : Int)) = true := by rw [hkd]; rfl
  clear hk0 ht he h hkd s0
  go_enter Tryz.func39, Tryz.ntmps39
  go_wp2_with fail
  go_region_with (first
    | (go_at_call 55; refine HI.out.mono ?_; rintro e w1 ⟨rfl, h1, hk1, hB1⟩; have HW := ws_any h1 hB1 (Lib.decDigits x.num) hlen; clear h1 hB1)
    | (go_at_call 23; refine HW.mono ?_; rintro e w2 ⟨rfl, h2, hk2, hB2⟩)
    | fail)
  all_goals
    go_wp2
    go_end0
    exact ⟨rfl, h2, hk1.trans hk2, hB2⟩

set_option maxHeartbeats 8000000 in
set_option maxRecDepth 100000 in
theorem exprM_any {B b : Nat} {n : Int} {x : Ex} {out l : List UInt8} {w : World} {S : Nat → Prop} {c : List Value} (hkd : 7 ≤ x.kind) (h : WrIs B b n (Lib.byteCells l) w) (hB : B ≤ w.heap.size) (hg : 1 < B) (ht : TabW w) (he : ExA w S x c)
    (hM : ∀ V, WrIs B b n (Lib.byteCells l) V → B ≤ V.heap.size → TabW V → ExA V S x c → Calls Tryz.prog 57 #[pt b, .agg c.toArray] V (WpO B b n (l ++ out) V)) :
    Calls Tryz.prog 39 #[pt b, .agg c.toArray] w (WpO B b n (l ++ out) w) := by
  obtain ⟨a1, c1, a2, c2, hc⟩ := he.form
  subst hc
  have hk0 : Kp B b w (w.alloc (.cells #[.int .i64 x.kind, .int .i64 x.num, .string (mkB x.text), .slice a1 x.kids.length c1, .slice a2 x.names.length c2] 38)) := Kp.al b hB _
  have s0 : (w.alloc (.cells #[.int .i64 x.kind, .int .i64 x.num, .string (mkB x.text), .slice a1 x.kids.length c1, .slice a2 x.names.length c2] 38)).heap.size = w.heap.size + 1 := World.size_alloc _ _
  have HE := hM (w.alloc (.cells #[.int .i64 x.kind, .int .i64 x.num, .string (mkB x.text), .slice a1 x.kids.length c1, .slice a2 x.names.length c2] 38)) (h.al _) (by omega) (ht.kp hk0 hg) (he.al _)
  have q1 : (((x.kind : Nat) : Int) == (1 : Int)) = false := by rw [beq_eq_false_iff_ne]; omega
  have q2 : (((x.kind : Nat) : Int) == (2 : Int)) = false := by rw [beq_eq_false_iff_ne]; omega
  have q3 : (((x.kind : Nat) : Int) == (3 : Int)) = false := by rw [beq_eq_false_iff_ne]; omega
  have q4 : (((x.kind : Nat) : Int) == (4 : Int)) = false := by rw [beq_eq_false_iff_ne]; omega
  have q5 : (((x.kind : Nat) : Int) == (5 : Int)) = false := by rw [beq_eq_false_iff_ne]; omega
  have q6 : (((x.kind : Nat) : Int) == (6 : Int)) = false := by rw [beq_eq_false_iff_ne]; omega
  have HK : Hid (Kp B b w (w.alloc (.cells #[.int .i64 x.kind, .int .i64 x.num, .string (mkB x.text), .slice a1 x.kids.length c1, .slice a2 x.names.length c2] 38))) := hk0
  clear hk0 ht he h hkd s0 hM
  go_enter Tryz.func39, Tryz.ntmps39
  go_wp2_with fail
  refine HE.mono ?_
  rintro e w2 ⟨rfl, h2, hk2, hB2⟩
  go_wp2
  go_end0
  exact ⟨rfl, h2, HK.out.trans hk2, hB2⟩
end Go.Proofs.YtcaeeackccgclaaGreatDoor
