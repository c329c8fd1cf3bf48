/- All lines of a source. -/
import Derived.Test.YtdfimmekhbkglaaDoorTkL
namespace Go.Proofs.YtdfimmekhbkglaaDoor
open Go.RowKit Go.Shelf

theorem toksF_ok (L : List UInt8) : ∀ (f i : Nat) (p q : Sp), SpOk L p 1 → toksF L f i p = .ok q → SpOk L q 1 ∧ p.pos ≤ q.pos := by
  intro f
  induction f with
  | zero => intro i p q _ h; cases h
  | succ f ih =>
    intro i p q hk h
    unfold toksF at h
    split at h
    · cases h; exact ⟨hk, Nat.le_refl _⟩
    rename_i he
    split at h
    · cases h
    rename_i hr
    split at h
    · cases h
    rename_i t ht
    have hp : p.pos < L.length := by
      have := hk.pos
      rcases Nat.lt_or_ge p.pos L.length with h1 | h1
      · exact h1
      · exfalso; apply he; unfold endL
        rw [show decide (p.pos = L.length) = true from by simp; omega]; rfl
    have hr0 : refu L p i = 0 := by
      rcases Nat.eq_zero_or_pos (refu L p i) with e | e
      · exact e
      · exact absurd (by omega) hr
    obtain ⟨a, b⟩ := turn_ok hk hp hr0 ht
    obtain ⟨c, d⟩ := ih _ _ _ a h
    exact ⟨c, by omega⟩
theorem lineF_ok {L : List UInt8} {p q : Sp} (hk : SpOk L p 1) (h : lineF L p = .ok q) : SpOk L q 2 ∧ p.pos ≤ q.pos := by
  have hs := skip_ok (L := L) hk.pos
  have hk1 : SpOk L (p.skip L) 1 := ⟨hs.2, hk.ins.of rfl, hk.i31, hk.o30, by show p.toks.length + p.ins.length ≤ 4 * (p.skip L).pos + 1; have := hk.cnt; omega⟩
  unfold lineF at h
  split at h
  · cases h
  rename_i r hr
  obtain ⟨a, b⟩ := toksF_ok L _ _ _ _ hk1 hr
  split at h
  · cases h
  split at h
  · cases h
    refine ⟨⟨a.pos, a.ins.of rfl, a.i31, a.o30, ?_⟩, by show p.pos ≤ r.pos; omega⟩
    show (r.toks ++ [_]).length + r.ins.length ≤ 4 * r.pos + 2
    have := a.cnt
    simp only [List.length_append, List.length_singleton]
    omega
  · cases h
    exact ⟨⟨a.pos, a.ins, a.i31, a.o30, by have := a.cnt; omega⟩, by omega⟩

theorem lines_end {L : List UInt8} {f : Nat} {r : Sp} (hf : 0 < f) (h : r.pos = L.length) : linesF L f r = .ok (r.come 0) := by
  cases f with
  | zero => omega
  | succ f => unfold linesF; rw [if_pos h]
theorem lines_bad {L : List UInt8} {f : Nat} {r : Sp} {x : Ft} (hf : 0 < f) (h : ¬ r.pos = L.length) (h2 : lineF L r = .error x) : linesF L f r = .error x := by
  cases f with
  | zero => omega
  | succ f => unfold linesF; rw [if_neg h, h2]
theorem lines_last {L : List UInt8} {f : Nat} {r q : Sp} (hf : 0 < f) (h : ¬ r.pos = L.length) (h2 : lineF L r = .ok q) (h3 : q.pos = L.length) : linesF L f r = linesF L f q := by
  rw [lines_end hf h3]
  cases f with
  | zero => omega
  | succ f => unfold linesF; rw [if_neg h, h2]; simp only; rw [if_pos h3]
theorem lines_go {L : List UInt8} {f : Nat} {r q : Sp} (hf : 0 < f) (h : ¬ r.pos = L.length) (h2 : lineF L r = .ok q) (h3 : ¬ q.pos = L.length) : linesF L f r = linesF L (f - 1) { q with pos := q.pos + 1 } := by
  cases f with
  | zero => omega
  | succ f =>
    conv => lhs; unfold linesF
    rw [if_neg h, h2]
    simp only
    rw [if_neg h3]
    rfl

/-- What the round of all lines begins with. -/
def LnI (B P : Nat) (L : List UInt8) (w wr : World) (p r : Sp) (tv iv : Value) (f : Nat) : Prop :=
  TS B P L tv iv wr r ∧ Below B w wr ∧ SpOk L r 2 ∧ (r.pos < L.length → SpOk L r 1) ∧ L.length - r.pos < f ∧ linesF L (L.length + 1) p = linesF L f r

set_option maxHeartbeats 8000000 in
set_option maxRecDepth 100000 in
theorem lines_any {B P : Nat} {L : List UInt8} {tv iv : Value} {w : World} {p : Sp} (h : TS B P L tv iv w p) (hL : L.length ≤ 6000) (hk : SpOk L p 1) (hg : 1 < B) (hr : ErrR w) :
    Calls Tryd.prog 14 #[.pointer (some ⟨P, 0, none⟩)] w fun e w' => StP B P L w (linesF L (L.length + 1) p) e w' := by
  have H : Hid (ErrR w ∧ 1 < B) := ⟨hr, hg⟩
  have H1 : Hid (LnI B P L w w p p tv iv (L.length + 1)) := ⟨h, Below.refl B w, ⟨hk.pos, hk.ins, hk.i31, hk.o30, by have := hk.cnt; omega⟩, fun _ => hk, by omega, rfl⟩
  have hp := hk.pos
  clear h hk hg hr
  go_enter Tryd.func14, Tryd.ntmps14
  go_wp2
  go_loopw [] (fun wr => ∃ (f : Nat) (r : Sp) (tv2 iv2 : Value), r.pos ≤ L.length ∧ Hid (LnI B P L w wr p r tv2 iv2 f)) (fun wr => L.length - posOf P wr)
  case atStart => exact ⟨_, _, _, _, hp, H1⟩
  case round =>
    obtain ⟨f, r, tv2, iv2, hrp, HR⟩ := hrel
    clear H1
    have HEd : Hid (∀ (W : World) (q : Sp) (t v : Value), TS B P L t v W q → Calls Tryd.prog 16 #[.pointer (some ⟨P, 0, none⟩)] W fun e w' => e = .returned (.bool (decide (q.pos = L.length))) ∧ ∃ m, w' = W.drewN m) := fun W q t v hW => ended_any hW
    by_cases hen : r.pos = L.length
    · have HEd0 : Hid (Calls Tryd.prog 16 #[.pointer (some ⟨P, 0, none⟩)] wr fun e w' => e = .returned (.bool true) ∧ ∃ m, w' = wr.drewN m) := by
        have := HEd.out wr r _ _ HR.out.1
        rwa [show decide (r.pos = L.length) = true from by simpa using hen] at this
      have HRV : Hid (linesF L (L.length + 1) p = .ok (r.come 0)) := HR.out.2.2.2.2.2.trans (lines_end (by have := HR.out.2.2.2.2.1; omega) hen)
      have HCo : Hid (∀ n, Calls Tryd.prog 18 #[.pointer (some ⟨P, 0, none⟩), .int .i64 0] (wr.drewN n) fun e w' => e = .returned (.tuple #[]) ∧ ∃ tv' iv', TS B P L tv' iv' w' (r.come 0) ∧ Below B (wr.drewN n) w') := fun n => come_any (HR.out.1.drewN n) HR.out.2.2.1.ins 0 (by have := HR.out.2.2.1.cnt; have := HR.out.2.2.1.pos; omega)
      clear hen HEd
      go_wp2_with fail
      refine HEd0.out.mono ?_
      rintro e w' ⟨rfl, n, rfl⟩
      go_wp2_with fail
      refine (HCo.out n).mono ?_
      rintro e w' ⟨rfl, tv3, iv3, hts3, hb3⟩
      have H3 : Hid (TS B P L tv3 iv3 w' (r.come 0) ∧ Below B w w') := ⟨hts3, (below_drewN HR.out.2.1 n).trans hb3⟩
      clear hts3 hb3
      go_wp2
      go_end0
      refine ⟨fun k z hz => ?_, fun q hq => ?_, H3.out.2⟩
      · rw [HRV.out] at hz; cases hz
      · rw [HRV.out] at hq; cases hq; exact ⟨rfl, _, _, H3.out.1⟩
    · have hrl : r.pos < L.length := by omega
      have HEd0 : Hid (Calls Tryd.prog 16 #[.pointer (some ⟨P, 0, none⟩)] wr fun e w' => e = .returned (.bool false) ∧ ∃ m, w' = wr.drewN m) := by
        have := HEd.out wr r _ _ HR.out.1
        rwa [show decide (r.pos = L.length) = false from by simpa using hen] at this
      have hk := HR.out.2.2.2.1 hrl
      have HLi : Hid (∀ n, Calls Tryd.prog 17 #[.pointer (some ⟨P, 0, none⟩)] (wr.drewN n) fun e w' => StP B P L (wr.drewN n) (lineF L r) e w') := fun n => line_any (HR.out.1.drewN n) hL hk H.out.2 (H.out.1.low H.out.2 (below_drewN HR.out.2.1 n))
      have hf0 : 0 < f := by have := HR.out.2.2.2.2.1; omega
      go_wp2_with fail
      refine HEd0.out.mono ?_
      rintro e w' ⟨rfl, n, rfl⟩
      cases hli : lineF L r with
      | error x =>
        obtain ⟨k0, y⟩ := x
        have HRV : Hid (linesF L (L.length + 1) p = .error (k0, y)) := HR.out.2.2.2.2.2.trans (lines_bad hf0 hen hli)
        rw [hli] at HLi
        clear hli
        go_wp2_with fail
        refine (HLi.out n).mono ?_
        rintro e w4 ⟨h1, -, hb4⟩
        obtain rfl := h1 k0 y rfl
        have HB4 : Hid (Below B w w4) := (below_drewN HR.out.2.1 n).trans hb4
        clear hb4 h1
        go_wp2
        refine ⟨rfl, fun k z hz => ?_, fun q hq => ?_, HB4.out⟩
        · rw [HRV.out] at hz; cases hz; rfl
        · rw [HRV.out] at hq; cases hq
      | ok q =>
        obtain ⟨hq2, hqp⟩ := lineF_ok hk hli
        have hql := hq2.pos
        have HLa : Hid (q.pos = L.length → linesF L (L.length + 1) p = linesF L f q) := fun h3 => HR.out.2.2.2.2.2.trans (lines_last hf0 hen hli h3)
        have HGo : Hid (¬ q.pos = L.length → linesF L (L.length + 1) p = linesF L (f - 1) { q with pos := q.pos + 1 }) := fun h3 => HR.out.2.2.2.2.2.trans (lines_go hf0 hen hli h3)
        have HQ : Hid (SpOk L q 2) := hq2
        rw [hli] at HLi
        clear hli hk hq2
        go_wp2_with fail
        refine (HLi.out n).mono ?_
        rintro e w4 ⟨-, h2, hb4⟩
        obtain ⟨rfl, tv4, iv4, hts4⟩ := h2 q rfl
        have H4 : Hid (TS B P L tv4 iv4 w4 q ∧ Below B w w4) := ⟨hts4, (below_drewN HR.out.2.1 n).trans hb4⟩
        clear h2 hb4 hts4 HLi HEd0
        by_cases hq : q.pos = L.length
        · have HEd1 : Hid (Calls Tryd.prog 16 #[.pointer (some ⟨P, 0, none⟩)] w4 fun e w' => e = .returned (.bool true) ∧ ∃ m, w' = w4.drewN m) := by
            have := HEd.out w4 q _ _ H4.out.1
            rwa [show decide (q.pos = L.length) = true from by simpa using hq] at this
          clear HEd
          go_wp2_with fail
          refine HEd1.out.mono ?_
          rintro e w' ⟨rfl, m, rfl⟩
          go_wp2
          refine ⟨⟨f, q, tv4, iv4, hql, H4.out.1.drewN m, below_drewN H4.out.2 m, HQ.out, fun hh => by omega, by omega, HLa.out hq⟩, ?_⟩
          rw [(H4.out.1.drewN m).posOf, HR.out.1.posOf]
          omega
        · have HEd1 : Hid (Calls Tryd.prog 16 #[.pointer (some ⟨P, 0, none⟩)] w4 fun e w' => e = .returned (.bool false) ∧ ∃ m, w' = w4.drewN m) := by
            have := HEd.out w4 q _ _ H4.out.1
            rwa [show decide (q.pos = L.length) = false from by simpa using hq] at this
          have HGo' : Hid (linesF L (L.length + 1) p = linesF L (f - 1) { q with pos := q.pos + 1 }) := HGo.out hq
          have hfr := HR.out.2.2.2.2.1
          clear HEd HLa HGo
          go_wp2_with fail
          refine HEd1.out.mono ?_
          rintro e w' ⟨rfl, m, rfl⟩
          have d1 := (H4.out.1.drewN m).c1
          have f1 := (H4.out.1.drewN m).fz 1
          have hqi : (q.pos : Int) < (L.length : Int) := by omega
          have hLi : (L.length : Int) ≤ 6000 := by omega
          obtain ⟨y, hy⟩ : ∃ y, y = q.pos + 1 := ⟨_, rfl⟩
          have hyi : (q.pos : Int) + 1 = (y : Int) := by omega
          have hwr : IntKind.i64.wrap (y : Int) = (y : Int) := by rw [IntKind.wrap_i64]; omega
          have HS5 : Hid (TS B P L tv4 iv4 ((w4.drewN m).setCell ⟨P, 1, none⟩ (.int .i64 (y : Int))) { q with pos := y }) := (H4.out.1.drewN m).setPos y (fun g => rfl)
          have HB5 : Hid (Below B w ((w4.drewN m).setCell ⟨P, 1, none⟩ (.int .i64 (y : Int)))) := (below_drewN H4.out.2 m).setCell (p := ⟨P, 1, none⟩) H4.out.1.hB _
          have HY : Hid (y = q.pos + 1) := hy
          clear hy hq hfr
          go_wp2
          have hy := HY.out
          have hfr := HR.out.2.2.2.2.1
          refine ⟨⟨f - 1, { q with pos := y }, tv4, iv4, by show y ≤ _; omega, HS5.out, HB5.out, ?_, fun _ => ?_, by show L.length - y < _; omega, by rw [hy]; exact HGo'.out⟩, ?_⟩
          · exact ⟨by show y ≤ _; omega, HQ.out.ins.of rfl, HQ.out.i31, HQ.out.o30, by show q.toks.length + q.ins.length ≤ 4 * y + 2; have := HQ.out.cnt; omega⟩
          · exact ⟨by show y ≤ _; omega, HQ.out.ins.of rfl, HQ.out.i31, HQ.out.o30, by show q.toks.length + q.ins.length ≤ 4 * y + 1; have := HQ.out.cnt; omega⟩
          · rw [HS5.out.posOf, HR.out.1.posOf]
            show L.length - y < _
            omega
end Go.Proofs.YtdfimmekhbkglaaDoor
