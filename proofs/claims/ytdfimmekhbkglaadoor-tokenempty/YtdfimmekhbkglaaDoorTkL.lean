/- A line, with all that its brackets go on over. -/
import Derived.Test.YtdfimmekhbkglaaDoorTkZ
import Derived.Test.YtdfimmekhbkglaaDoorTkI
namespace Go.Proofs.YtdfimmekhbkglaaDoor
open Go.RowKit Go.Shelf

theorem ErrR.low {B : Nat} {w w' : World} (h : ErrR w) (hg : 1 < B) (hb : Below B w w') : ErrR w' := by
  obtain ⟨ev, h1, h2⟩ := h
  exact ⟨ev, (hb.cell (p := ⟨1, 0, none⟩) hg).trans h1, h2⟩

theorem row_shape {w : World} {base : Nat} {e : TypeId} {size : Nat} {v : Value} {n : Nat} {xs : List Value} (h : w.ownsRow base e size v n xs) : ∃ ao cap, v = .slice ao n cap := by
  rcases h.2 with ⟨a, b⟩ | ⟨g, cap, cur, hv, _⟩
  · subst b; exact ⟨none, 0, a⟩
  · exact ⟨_, cap, hv⟩

theorem line_err {L : List UInt8} {p : Sp} {x : Ft} (h : toksF L (L.length + 1) (skp p.opn L.length (L.drop p.pos)) (p.skip L) = .error x) : lineF L p = .error x := by
  unfold lineF; rw [h]
theorem line_ok {L : List UInt8} {p q : Sp} (h : toksF L (L.length + 1) (skp p.opn L.length (L.drop p.pos)) (p.skip L) = .ok q) : lineF L p = if 0 < q.opn then .error (1, q.pos) else if p.toks.length < q.toks.length then .ok (q.add 6) else .ok q := by
  unfold lineF; rw [h]
theorem toks_end {L : List UInt8} {f i : Nat} {r : Sp} (hf : L.length - r.pos < f) (h : endL L r = true) : toksF L f i r = .ok r := by
  cases f with
  | zero => omega
  | succ f => unfold toksF; rw [if_pos h]
theorem toks_ref {L : List UInt8} {f i : Nat} {r : Sp} (hf : L.length - r.pos < f) (h : endL L r = false) (h2 : refu L r i ≠ 0) : toksF L f i r = .error (refu L r i, r.pos) := by
  cases f with
  | zero => omega
  | succ f => unfold toksF; rw [if_neg (by rw [h]; decide), if_pos h2]
theorem toks_bad {L : List UInt8} {f i : Nat} {r : Sp} {x : Ft} (hf : L.length - r.pos < f) (h : endL L r = false) (h2 : refu L r i = 0) (h3 : tok1 L (r.come i) = .error x) : toksF L f i r = .error x := by
  cases f with
  | zero => omega
  | succ f => unfold toksF; rw [if_neg (by rw [h]; decide), if_neg (by rw [h2]; decide), h3]
theorem toks_go {L : List UInt8} {f i : Nat} {r q : Sp} (hf : L.length - r.pos < f) (h : endL L r = false) (h2 : refu L r i = 0) (h3 : tok1 L (r.come i) = .ok q) : toksF L f i r = toksF L (f - 1) (q.skip L).top (q.skip L) := by
  cases f with
  | zero => omega
  | succ f =>
    conv => lhs; unfold toksF
    rw [if_neg (by rw [h]; decide), if_neg (by rw [h2]; decide), h3]
    rfl

set_option maxHeartbeats 8000000 in
set_option maxRecDepth 100000 in
theorem line_any {B P : Nat} {L : List UInt8} {tv iv : Value} {w : World} {p : Sp} (h : TS B P L tv iv w p) (hL : L.length ≤ 6000) (hk : SpOk L p 1) (hg : 1 < B) (hr : ErrR w) :
    Calls Tryd.prog 17 #[.pointer (some ⟨P, 0, none⟩)] w fun e w' => StP B P L w (lineF L p) e w' := by
  have c1 := h.c1
  have c2 := h.c2
  have H : Hid (TS B P L tv iv w p ∧ SpOk L p 1 ∧ ErrR w ∧ 1 < B) := ⟨h, hk, hr, hg⟩
  have HSk : Hid (∀ n, Calls Tryd.prog 19 #[.pointer (some ⟨P, 0, none⟩)] (w.drewN n) fun e w' => e = .returned (.tuple #[]) ∧ TS B P L tv iv w' (p.skip L) ∧ Below B w w') := fun n => (skip_any (h.drewN n) hL hk.pos).mono fun e w' ⟨a, b, c, _⟩ => ⟨a, b, (below_drewN (Below.refl B w) n).trans c⟩
  obtain ⟨ao, cap, htv⟩ := row_shape h.ot
  have hsk := skip_ok (L := L) hk.pos
  have HOk : Hid (SpOk L (p.skip L) 1) := ⟨hsk.2, hk.ins.of rfl, hk.i31, hk.o30, by show p.toks.length + p.ins.length ≤ 4 * (p.skip L).pos + 1; have := hk.cnt; omega⟩
  have hps : ((p.skip L).pos : Int) - (p.pos : Int) = (skp p.opn L.length (L.drop p.pos) : Int) := by
    show ((p.pos + skp p.opn L.length (L.drop p.pos) : Nat) : Int) - _ = _
    omega
  have hsk2 := hsk.2
  have hsl : (skp p.opn L.length (L.drop p.pos) : Int) ≤ 6000 := by
    have := skp_len p.opn L.length (L.drop p.pos)
    rw [List.length_drop] at this
    omega
  have hwp : IntKind.i64.wrap (skp p.opn L.length (L.drop p.pos) : Int) = (skp p.opn L.length (L.drop p.pos) : Int) := by rw [IntKind.wrap_i64]; omega
  obtain ⟨i0, hi0⟩ : ∃ i0, i0 = skp p.opn L.length (L.drop p.pos) := ⟨_, rfl⟩
  obtain ⟨p0, hp0⟩ : ∃ p0, p0 = p.skip L := ⟨_, rfl⟩
  have HErr : Hid (∀ x, toksF L (L.length + 1) i0 p0 = .error x → lineF L p = .error x) := fun x hx => line_err (by rw [← hi0, ← hp0]; exact hx)
  have HFin : Hid (∀ q, toksF L (L.length + 1) i0 p0 = .ok q → toksF L (L.length + 1) (skp p.opn L.length (L.drop p.pos)) (p.skip L) = .ok q) := fun q hx => by rw [← hi0, ← hp0]; exact hx
  rw [← hp0] at hps HOk HSk hsk2
  rw [← hi0] at hps hsl hwp
  clear h hk hr hi0 hp0 hsk hg
  subst htv
  go_enter Tryd.func17, Tryd.ntmps17
  go_wp2
  go_quiet (fail)
  go_wp2_with fail
  refine (HSk.out nq).mono ?_
  rintro e w1 ⟨rfl, hts1, hb1⟩
  have d1 := hts1.c1
  have H1 : Hid (TS B P L (.slice ao p.toks.length cap) iv w1 p0 ∧ Below B w w1) := ⟨hts1, hb1⟩
  clear hts1 hb1 HSk c1 c2
  go_wp2
  go_loopw [4] (fun v wr => ∃ (i f : Nat) (r : Sp) (tv2 iv2 : Value), v = .int .i64 (i : Int) ∧ r.pos ≤ L.length ∧ Hid (TS B P L tv2 iv2 wr r ∧ Below B w wr ∧ SpOk L r 1 ∧ L.length - r.pos < f ∧ toksF L (L.length + 1) i0 p0 = toksF L f i r)) (fun _ wr => L.length - posOf P wr)
  case atStart => exact ⟨i0, L.length + 1, p0, _, _, rfl, hsk2, H1.out.1, H1.out.2, HOk.out, by omega, rfl⟩
  case round =>
    obtain ⟨i, f, r, tv2, iv2, rfl, hrp, HR⟩ := hrel
    clear H1 HOk d1 hps hsl hwp hsk2
    have HEd : Hid (∀ n, Calls Tryd.prog 16 #[.pointer (some ⟨P, 0, none⟩)] (wr.drewN n) fun e w' => e = .returned (.bool (decide (r.pos = L.length))) ∧ ∃ m, w' = wr.drewN m) := fun n => (ended_any (HR.out.1.drewN n)).mono fun e w' ⟨a, m, b⟩ => ⟨a, n + m, by rw [b, World.drewN_drewN]⟩
    have HSe : Hid (∀ n, Calls Tryd.prog 20 #[.pointer (some ⟨P, 0, none⟩), .int .u8 (10 : Nat)] (wr.drewN n) fun e w' => e = .returned (.bool (decide ((L.getD r.pos 0).toNat = 10))) ∧ ∃ m, w' = wr.drewN m) := fun n => (sees_any (HR.out.1.drewN n) hrp 10 (by decide)).mono fun e w' ⟨a, m, b⟩ => ⟨a, n + m, by rw [b, World.drewN_drewN]⟩
    by_cases hen : r.pos = L.length
    · rw [show decide (r.pos = L.length) = true from by simpa using hen] at HEd
      have HEnd : Hid (toksF L (L.length + 1) (skp p.opn L.length (L.drop p.pos)) (p.skip L) = .ok r) := HFin.out r (HR.out.2.2.2.2.trans (toks_end HR.out.2.2.2.1 (by unfold endL; rw [show decide (r.pos = L.length) = true from by simpa using hen]; rfl)))
      clear hen HSe
      go_wp2_with fail
      refine (HEd.out 0).mono ?_
      rintro e w' ⟨rfl, n, rfl⟩
      have HZ : Hid (TS B P L tv2 iv2 (wr.drewN n) r ∧ Below B w (wr.drewN n)) := ⟨HR.out.1.drewN n, below_drewN HR.out.2.1 n⟩
      generalize wr.drewN n = w5 at *
      have z4 := HZ.out.1.c4
      have z2 := HZ.out.1.c2
      have HGu : Hid (Calls Tryd.prog 24 #[.pointer (some ⟨P, 0, none⟩), .int .i64 1] w5 fun e w' => e = PF 1 r.pos ∧ w' = w5) := giveUp_any HZ.out.1 1
      have HAd : Hid (∀ n, Calls Tryd.prog 25 #[.pointer (some ⟨P, 0, none⟩), .int .i64 (6 : Nat)] (w5.drewN n) fun e w' => e = .returned (.tuple #[]) ∧ ∃ tv', TS B P L tv' iv2 w' (r.add 6) ∧ Below B (w5.drewN n) w') := fun n => add_any (HZ.out.1.drewN n) 6 (by have := HR.out.2.2.1.cnt; have := HR.out.2.2.1.pos; omega)
      obtain ⟨ao2, cap2, htv2⟩ := row_shape HZ.out.1.ot
      have hoi : ((0 : Int) < (r.opn : Int)) ↔ 0 < r.opn := by omega
      have hli : ((p.toks.length : Int) < (r.toks.length : Int)) ↔ p.toks.length < r.toks.length := by omega
      by_cases ho : 0 < r.opn
      · have hod : decide ((0 : Int) < (r.opn : Int)) = true := by simpa using ho
        have HRV : Hid (lineF L p = .error (1, r.pos)) := by show _ = _; rw [line_ok HEnd.out, if_pos ho]
        generalize (r.opn : Int) = oi at *
        have hop : (0 : Int) < oi := by simpa using hod
        clear hli hoi ho hod
        go_wp2_with fail
        refine HGu.out.mono ?_
        rintro e w' ⟨rfl, rfl⟩
        go_wp2
        refine ⟨rfl, fun k z hz => ?_, fun q hq => ?_, HZ.out.2⟩
        · rw [HRV.out] at hz; cases hz; rfl
        · rw [HRV.out] at hq; cases hq
      · have hop : ¬ (0 : Int) < (r.opn : Int) := by omega
        have HRV : Hid (lineF L p = if p.toks.length < r.toks.length then .ok (r.add 6) else .ok r) := by show _ = _; rw [line_ok HEnd.out, if_neg ho]
        subst htv2
        by_cases hl : p.toks.length < r.toks.length
        · have hlt : (p.toks.length : Int) < (r.toks.length : Int) := by omega
          have HRV2 : Hid (lineF L p = .ok (r.add 6)) := by show _ = _; rw [HRV.out, if_pos hl]
          generalize (r.opn : Int) = oi at *
          clear hli hoi ho hl
          go_wp2_with fail
          refine (HAd.out 0).mono ?_
          rintro e w' ⟨rfl, tv6, hts6, hb6⟩
          have HW : Hid (TS B P L tv6 iv2 w' (r.add 6) ∧ Below B w w') := ⟨hts6, HZ.out.2.trans hb6⟩
          clear hts6 hb6
          go_wp2
          go_end0
          refine ⟨fun k z hz => ?_, fun q hq => ?_, HW.out.2⟩
          · rw [HRV2.out] at hz; cases hz
          · rw [HRV2.out] at hq; cases hq; exact ⟨rfl, _, _, HW.out.1⟩
        · have hlt : ¬ (p.toks.length : Int) < (r.toks.length : Int) := by omega
          have HRV2 : Hid (lineF L p = .ok r) := by show _ = _; rw [HRV.out, if_neg hl]
          generalize (r.opn : Int) = oi at *
          clear hli hoi ho hl
          go_wp2
          go_end0
          refine ⟨fun k z hz => ?_, fun q hq => ?_, HZ.out.2⟩
          · rw [HRV2.out] at hz; cases hz
          · rw [HRV2.out] at hq; cases hq; exact ⟨rfl, _, _, HZ.out.1⟩
    · rw [show decide (r.pos = L.length) = false from by simpa using hen] at HEd
      by_cases hse : (L.getD r.pos 0).toNat = 10
      · rw [show decide ((L.getD r.pos 0).toNat = 10) = true from by simpa using hse] at HSe
        have HEnd : Hid (toksF L (L.length + 1) (skp p.opn L.length (L.drop p.pos)) (p.skip L) = .ok r) := HFin.out r (HR.out.2.2.2.2.trans (toks_end HR.out.2.2.2.1 (by unfold endL; rw [at_drop, show decide ((L.getD r.pos 0).toNat = 10) = true from by simpa using hse]; simp)))
        clear hen hse
        go_wp2_with fail
        refine (HEd.out 0).mono ?_
        rintro e w' ⟨rfl, n0, rfl⟩
        go_wp2_with fail
        refine (HSe.out n0).mono ?_
        rintro e w' ⟨rfl, n, rfl⟩
        have HZ : Hid (TS B P L tv2 iv2 (wr.drewN n) r ∧ Below B w (wr.drewN n)) := ⟨HR.out.1.drewN n, below_drewN HR.out.2.1 n⟩
        generalize wr.drewN n = w5 at *
        have z4 := HZ.out.1.c4
        have z2 := HZ.out.1.c2
        have HGu : Hid (Calls Tryd.prog 24 #[.pointer (some ⟨P, 0, none⟩), .int .i64 1] w5 fun e w' => e = PF 1 r.pos ∧ w' = w5) := giveUp_any HZ.out.1 1
        have HAd : Hid (∀ n, Calls Tryd.prog 25 #[.pointer (some ⟨P, 0, none⟩), .int .i64 (6 : Nat)] (w5.drewN n) fun e w' => e = .returned (.tuple #[]) ∧ ∃ tv', TS B P L tv' iv2 w' (r.add 6) ∧ Below B (w5.drewN n) w') := fun n => add_any (HZ.out.1.drewN n) 6 (by have := HR.out.2.2.1.cnt; have := HR.out.2.2.1.pos; omega)
        obtain ⟨ao2, cap2, htv2⟩ := row_shape HZ.out.1.ot
        have hoi : ((0 : Int) < (r.opn : Int)) ↔ 0 < r.opn := by omega
        have hli : ((p.toks.length : Int) < (r.toks.length : Int)) ↔ p.toks.length < r.toks.length := by omega
        by_cases ho : 0 < r.opn
        · have hod : decide ((0 : Int) < (r.opn : Int)) = true := by simpa using ho
          have HRV : Hid (lineF L p = .error (1, r.pos)) := by show _ = _; rw [line_ok HEnd.out, if_pos ho]
          generalize (r.opn : Int) = oi at *
          have hop : (0 : Int) < oi := by simpa using hod
          clear hli hoi ho hod
          go_wp2_with fail
          refine HGu.out.mono ?_
          rintro e w' ⟨rfl, rfl⟩
          go_wp2
          refine ⟨rfl, fun k z hz => ?_, fun q hq => ?_, HZ.out.2⟩
          · rw [HRV.out] at hz; cases hz; rfl
          · rw [HRV.out] at hq; cases hq
        · have hop : ¬ (0 : Int) < (r.opn : Int) := by omega
          have HRV : Hid (lineF L p = if p.toks.length < r.toks.length then .ok (r.add 6) else .ok r) := by show _ = _; rw [line_ok HEnd.out, if_neg ho]
          subst htv2
          by_cases hl : p.toks.length < r.toks.length
          · have hlt : (p.toks.length : Int) < (r.toks.length : Int) := by omega
            have HRV2 : Hid (lineF L p = .ok (r.add 6)) := by show _ = _; rw [HRV.out, if_pos hl]
            generalize (r.opn : Int) = oi at *
            clear hli hoi ho hl
            go_wp2_with fail
            refine (HAd.out 0).mono ?_
            rintro e w' ⟨rfl, tv6, hts6, hb6⟩
            have HW : Hid (TS B P L tv6 iv2 w' (r.add 6) ∧ Below B w w') := ⟨hts6, HZ.out.2.trans hb6⟩
            clear hts6 hb6
            go_wp2
            go_end0
            refine ⟨fun k z hz => ?_, fun q hq => ?_, HW.out.2⟩
            · rw [HRV2.out] at hz; cases hz
            · rw [HRV2.out] at hq; cases hq; exact ⟨rfl, _, _, HW.out.1⟩
          · have hlt : ¬ (p.toks.length : Int) < (r.toks.length : Int) := by omega
            have HRV2 : Hid (lineF L p = .ok r) := by show _ = _; rw [HRV.out, if_neg hl]
            generalize (r.opn : Int) = oi at *
            clear hli hoi ho hl
            go_wp2
            go_end0
            refine ⟨fun k z hz => ?_, fun q hq => ?_, HZ.out.2⟩
            · rw [HRV2.out] at hz; cases hz
            · rw [HRV2.out] at hq; cases hq; exact ⟨rfl, _, _, HZ.out.1⟩
      · rw [show decide ((L.getD r.pos 0).toNat = 10) = false from by simpa using hse] at HSe
        have hne : endL L r = false := by
          unfold endL
          rw [at_drop, show decide ((L.getD r.pos 0).toNat = 10) = false from by simpa using hse, show decide (r.pos = L.length) = false from by simpa using hen]
          rfl
        have hrl : r.pos < L.length := by omega
        have hk := HR.out.2.2.1
        have hcnt := hk.cnt
        have h31 := hk.i31
        have HRf : Hid (∀ n, Calls Tryd.prog 21 #[.pointer (some ⟨P, 0, none⟩), .int .i64 i] (wr.drewN n) fun e w' => RefP (refu L r i) r.pos e ∧ TS B P L tv2 iv2 w' r ∧ Below B w w') := fun n =>
          (refuse_any (HR.out.1.drewN n) hL hrl i (List.length_pos_iff.2 hk.ins.ne) (by omega) (H.out.2.2.1.low H.out.2.2.2 (below_drewN HR.out.2.1 n))).mono fun e w' ⟨a, b⟩ => ⟨a, (HR.out.1.drewN n).up b, (below_drewN HR.out.2.1 n).trans (b.mono (by have := (HR.out.1.drewN n).lt; have := HR.out.1.hB; omega))⟩
        go_wp2_with fail
        refine (HEd.out 0).mono ?_
        rintro e w' ⟨rfl, n0, rfl⟩
        go_wp2_with fail
        refine (HSe.out n0).mono ?_
        rintro e w' ⟨rfl, n, rfl⟩
        go_wp2_with fail
        refine (HRf.out n).mono ?_
        rintro e w2 ⟨hrf, hts2, hb2⟩
        by_cases hr0 : refu L r i = 0
        · obtain rfl := hrf.1 hr0
          obtain ⟨r1, r2, r3, r4, r5⟩ := refu_zero hr0
          obtain ⟨ca, cb, cc, cd, ce⟩ := come_ok hk.ins i
          have hrp2 := hk.pos
          have ho30 := hk.o30
          have HCo : Hid (Calls Tryd.prog 18 #[.pointer (some ⟨P, 0, none⟩), .int .i64 i] w2 fun e w' => e = .returned (.tuple #[]) ∧ ∃ tv' iv', TS B P L tv' iv' w' (r.come i) ∧ Below B w2 w') := come_any hts2 hk.ins i (by omega)
          have HTo : Hid (∀ (W : World) (tv3 iv3 : Value), TS B P L tv3 iv3 W (r.come i) → Calls Tryd.prog 22 #[.pointer (some ⟨P, 0, none⟩)] W fun e w' => StP B P L W (tok1 L (r.come i)) e w') := fun W tv3 iv3 hW => token_any hW hL (by rw [ca]; exact hrl) (by omega) (by rw [cb]; omega) (by rw [ca]; exact r1) (by rw [ca]; exact r3) (by rw [ca, cb]; exact r2)
          have HBad : Hid (∀ x, tok1 L (r.come i) = .error x → lineF L p = .error x) := fun x hx => HErr.out _ (HR.out.2.2.2.2.trans (toks_bad HR.out.2.2.2.1 hne hr0 hx))
          have HGo : Hid (∀ q, tok1 L (r.come i) = .ok q → toksF L (L.length + 1) i0 p0 = toksF L (f - 1) (q.skip L).top (q.skip L) ∧ SpOk L (q.skip L) 1 ∧ r.pos < (q.skip L).pos ∧ q.pos ≤ L.length) := fun q hx => ⟨HR.out.2.2.2.2.trans (toks_go HR.out.2.2.2.1 hne hr0 hx), (turn_ok hk hrl hr0 hx).1, (turn_ok hk hrl hr0 hx).2, (tok1_ok hx (by rw [ca]; exact hrl) (by rw [ca]; exact r1) (by rw [ca, cb]; intro ho; have := r4 ho; omega) (by rw [cb]; exact ho30)).2.1⟩
          have HB2 : Hid (Below B w w2) := hb2
          clear r1 r2 r3 r4 r5 ca cb cc cd ce hts2 hb2 hr0 hrf hne hcnt h31 hk hen hse HRf HSe HEd
          generalize r.come i = rc at *
          go_wp2_with fail
          refine HCo.out.mono ?_
          rintro e w3 ⟨rfl, tv3, iv3, hts3, hb3⟩
          have HTo3 : Hid (Calls Tryd.prog 22 #[.pointer (some ⟨P, 0, none⟩)] w3 fun e w' => StP B P L w3 (tok1 L rc) e w') := HTo.out w3 tv3 iv3 hts3
          have HB3 : Hid (Below B w w3) := HB2.out.trans hb3
          clear hts3 hb3 HTo HCo HB2
          cases htk : tok1 L rc with
          | error x =>
            obtain ⟨k0, y⟩ := x
            have HRV : Hid (lineF L p = .error (k0, y)) := HBad.out _ htk
            rw [htk] at HTo3
            clear htk HBad HGo
            go_wp2_with fail
            refine HTo3.out.mono ?_
            rintro e w4 ⟨h1, -, hb4⟩
            obtain rfl := h1 k0 y rfl
            go_wp2
            refine ⟨rfl, fun k z hz => ?_, fun q hq => ?_, HB3.out.trans hb4⟩
            · rw [HRV.out] at hz; cases hz; rfl
            · rw [HRV.out] at hq; cases hq
          | ok q =>
            have HG := HGo.out q htk
            have HGq : Hid (toksF L (L.length + 1) i0 p0 = toksF L (f - 1) (q.skip L).top (q.skip L) ∧ SpOk L (q.skip L) 1 ∧ r.pos < (q.skip L).pos ∧ q.pos ≤ L.length) := HG
            rw [htk] at HTo3
            clear htk HBad HGo HG
            go_wp2_with fail
            refine HTo3.out.mono ?_
            rintro e w4 ⟨-, h2, hb4⟩
            obtain ⟨rfl, tv4, iv4, hts4⟩ := h2 q rfl
            have HSk : Hid (Calls Tryd.prog 19 #[.pointer (some ⟨P, 0, none⟩)] w4 fun e w' => e = .returned (.tuple #[]) ∧ TS B P L tv4 iv4 w' (q.skip L) ∧ Below B w w') := (skip_any hts4 hL HGq.out.2.2.2).mono fun e w' ⟨a, b, c, _⟩ => ⟨a, b, (HB3.out.trans hb4).trans c⟩
            clear h2 hts4 hb4 HTo3 HB3
            go_wp2_with fail
            refine HSk.out.mono ?_
            rintro e w5 ⟨rfl, hts5, hb5⟩
            have HIn : Hid (Calls Tryd.prog 23 #[.pointer (some ⟨P, 0, none⟩)] w5 fun e w' => e = .returned (.int .i64 (q.skip L).top) ∧ ∃ n, w' = w5.drewN n) := in_any hts5 (List.length_pos_iff.2 HGq.out.2.1.ins.ne) (by have := HGq.out.2.1.i31; omega)
            have H5 : Hid (TS B P L tv4 iv4 w5 (q.skip L) ∧ Below B w w5) := ⟨hts5, hb5⟩
            clear hts5 hb5 HSk
            go_wp2_with fail
            refine HIn.out.mono ?_
            rintro e w' ⟨rfl, m, rfl⟩
            go_wp2
            refine ⟨⟨(q.skip L).top, f - 1, q.skip L, tv4, iv4, rfl, HGq.out.2.1.pos, H5.out.1.drewN m, below_drewN H5.out.2 m, HGq.out.2.1, ?_, HGq.out.1⟩, ?_⟩
            · have := HR.out.2.2.2.1; have := HGq.out.2.2.1; have := HGq.out.2.1.pos; omega
            · rw [(H5.out.1.drewN m).posOf, HR.out.1.posOf]
              have := HGq.out.2.2.1; have := HGq.out.2.1.pos; omega
        · obtain rfl := hrf.2 hr0
          have HRV : Hid (lineF L p = .error (refu L r i, r.pos)) := HErr.out _ (HR.out.2.2.2.2.trans (toks_ref HR.out.2.2.2.1 hne hr0))
          go_wp2
          refine ⟨rfl, fun k z hz => ?_, fun q hq => ?_, hb2⟩
          · rw [HRV.out] at hz; cases hz; rfl
          · rw [HRV.out] at hq; cases hq
end Go.Proofs.YtdfimmekhbkglaaDoor
