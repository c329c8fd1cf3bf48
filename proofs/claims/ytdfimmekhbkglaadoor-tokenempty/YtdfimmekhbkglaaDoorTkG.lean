/- A sign is taken. -/
import Derived.Test.YtdfimmekhbkglaaDoorTkO
namespace Go.Proofs.YtdfimmekhbkglaaDoor
open Go.RowKit Go.Shelf

theorem sgn_le (l : List UInt8) (h0 : 0 < l.length) : sgn l ≤ l.length := by
  unfold sgn
  cases h : two2 l with
  | true =>
    have h2 : 2 ≤ l.length := by
      match l, h0 with
      | [a], _ => simp [two2] at h
      | a :: b :: r, _ => simp
    simpa using h2
  | false =>
    cases isSg1 (l.getD 0 0)
    · simp
    · simp; omega

set_option maxHeartbeats 4000000 in
set_option maxRecDepth 100000 in
theorem sign_any {B P : Nat} {L : List UInt8} {tv iv : Value} {w : World} {p : Sp} (h : TS B P L tv iv w p) (hL : L.length ≤ 6000) (hp : p.pos < L.length) (hs : 0 < sgn (L.drop p.pos)) (ho : p.opn ≤ 1000) (hcl : isCls (L.getD p.pos 0) = true → 0 < p.opn) :
    Calls Tryd.prog 41 #[.pointer (some ⟨P, 0, none⟩)] w fun e w' => e = .returned (.string (mkB ((L.drop p.pos).take (sgn (L.drop p.pos))))) ∧ TS B P L tv iv w' { p with pos := p.pos + sgn (L.drop p.pos), opn := if isOpn (L.getD p.pos 0) then p.opn + 1 else if isCls (L.getD p.pos 0) then p.opn - 1 else p.opn } ∧ Below B w w' ∧ ∀ g : Nat, g ≠ P → w'.heap[g]? = w.heap[g]? := by
  have hrl : 0 < (L.drop p.pos).length := by rw [List.length_drop]; omega
  have HRe : Hid (∀ n, Calls Tryd.prog 30 #[.pointer (some ⟨P, 0, none⟩)] (w.drewN n) fun e w' => e = .returned (.string (mkB (L.drop p.pos))) ∧ Dr w w') := fun n => (rest_any (h.drewN n) (by omega)).mono fun e w' ⟨a, m, b⟩ => ⟨a, by rw [b]; exact Dr.drewN ⟨n, rfl⟩ m⟩
  have HSz : Hid (∀ W, Calls Tryd.prog 43 #[.string (mkB (L.drop p.pos))] W fun e w' => e = .returned (.int .i64 (sgn (L.drop p.pos))) ∧ w' = W) := fun W => signSize_any _ W hrl (by rw [List.length_drop]; omega)
  have HOp : Hid (∀ W, Calls Tryd.prog 35 #[.int .u8 (L.getD p.pos 0).toNat] W fun e w' => e = .returned (.bool (isOpn (L.getD p.pos 0))) ∧ w' = W) := fun W => isOpening_any _ W
  have HCl : Hid (∀ W, Calls Tryd.prog 31 #[.int .u8 (L.getD p.pos 0).toNat] W fun e w' => e = .returned (.bool (isCls (L.getD p.pos 0))) ∧ w' = W) := fun W => isClosing_any _ W
  have hsl := sl_front (L.drop p.pos) (sgn (L.drop p.pos)) _ rfl (sgn_le _ hrl)
  have hsg := sgn_le _ hrl
  rw [List.length_drop] at hsg
  have htl : ((L.drop p.pos).take (sgn (L.drop p.pos))).length = sgn (L.drop p.pos) := by rw [List.length_take, List.length_drop]; omega
  have hts : (mkB ((L.drop p.pos).take (sgn (L.drop p.pos)))).size = sgn (L.drop p.pos) := by rw [mk_size, htl]
  have hs0 : 0 < (mkB ((L.drop p.pos).take (sgn (L.drop p.pos)))).size := by rw [hts]; exact hs
  have hg0 := mk_get _ 0 hs0
  have hgd : ((L.drop p.pos).take (sgn (L.drop p.pos))).getD 0 0 = L.getD p.pos 0 := by
    rw [← at_drop L, List.getD_eq_getElem?_getD, List.getD_eq_getElem?_getD, List.getElem?_take_of_lt hs]
  rw [hgd] at hg0
  have hexcl : isOpn (L.getD p.pos 0) = true → isCls (L.getD p.pos 0) = false := by
    unfold isOpn isCls
    intro h
    simp at h ⊢
    omega
  have HS1 : Hid (∀ W w', Dr w W → (∀ g : Nat, w'.heap[g]? = (W.setCell ⟨P, 1, none⟩ (.int .i64 ((p.pos + sgn (L.drop p.pos) : Nat) : Int))).heap[g]?) → TS B P L tv iv w' { p with pos := p.pos + sgn (L.drop p.pos) }) := fun W w' hW hw => by
    obtain ⟨n, rfl⟩ := hW
    exact (h.drewN n).setPos _ hw
  have hrs : (mkB (L.drop p.pos)).size = L.length - p.pos := by rw [mk_size, List.length_drop]
  have HPB : Hid (B ≤ P) := h.hB
  have c1 := h.c1
  have f1 := h.fz 1
  have HX : Hid (L.length ≤ 6000 ∧ p.pos + sgn (L.drop p.pos) ≤ L.length) := ⟨hL, by omega⟩
  generalize mkB ((L.drop p.pos).take (sgn (L.drop p.pos))) = t at *
  generalize mkB (L.drop p.pos) = rs at *
  generalize sgn (L.drop p.pos) = k at *
  generalize isOpn (L.getD p.pos 0) = b1 at *
  generalize isCls (L.getD p.pos 0) = b2 at *
  generalize L.getD p.pos 0 = c0 at *
  have hki : (k : Int) ≤ 6000 := by omega
  have hpi : (p.pos : Int) ≤ 6000 := by omega
  obtain ⟨y, hy⟩ : ∃ y, y = p.pos + k := ⟨_, rfl⟩
  have hyi : (p.pos : Int) + (k : Int) = (y : Int) := by omega
  have hwr : IntKind.i64.wrap (y : Int) = (y : Int) := by rw [IntKind.wrap_i64]; omega
  have hko : (k : Int) ≤ (rs.size : Int) := by omega
  rw [← hy] at HS1 HX
  rw [← hy]
  clear h hrl hsg hgd htl hy hp
  cases b1 with
  | true =>
    have hb2 : b2 = false := hexcl rfl
    subst hb2
    have hoi : (p.opn : Int) + 1 = ((p.opn + 1 : Nat) : Int) := by omega
    have how : IntKind.i64.wrap ((p.opn + 1 : Nat) : Int) = ((p.opn + 1 : Nat) : Int) := by rw [IntKind.wrap_i64]; omega
    have hob : (p.opn : Int) ≤ 1000 := by omega
    clear hexcl hcl
    go_enter Tryd.func41, Tryd.ntmps41
    go_wp2_with fail
    refine (HRe.out 0).mono ?_
    rintro e w1 ⟨rfl, n1, rfl⟩
    go_wp2_with fail
    refine (HRe.out n1).mono ?_
    rintro e w2 ⟨rfl, n2, rfl⟩
    go_wp2_with fail
    refine (HSz.out _).mono ?_
    rintro e w' ⟨rfl, rfl⟩
    have HT1 : Hid (TS B P L tv iv ((w.drewN n2).setCell ⟨P, 1, none⟩ (.int .i64 (y : Int))) { p with pos := y } ∧ Below B w ((w.drewN n2).setCell ⟨P, 1, none⟩ (.int .i64 (y : Int))) ∧ ∀ g : Nat, g ≠ P → ((w.drewN n2).setCell ⟨P, 1, none⟩ (.int .i64 (y : Int))).heap[g]? = w.heap[g]?) := ⟨HS1.out (w.drewN n2) _ ⟨n2, rfl⟩ (fun g => rfl), (below_drewN (Below.refl B w) n2).setCell (p := ⟨P, 1, none⟩) HPB.out _, fun g hg => Below.heap_setCell (w.drewN n2) ⟨P, 1, none⟩ _ g hg⟩
    go_wp2_with fail
    refine (HOp.out _).mono ?_
    rintro e w' ⟨rfl, rfl⟩
    have d4 := HT1.out.1.c4
    have g4 := HT1.out.1.fz 4
    generalize (w.drewN n2).setCell ⟨P, 1, none⟩ (.int .i64 (y : Int)) = w3 at *
    have HT2 : Hid (TS B P L tv iv (w3.setCell ⟨P, 4, none⟩ (.int .i64 ((p.opn + 1 : Nat) : Int))) { p with pos := y, opn := p.opn + 1 } ∧ Below B w (w3.setCell ⟨P, 4, none⟩ (.int .i64 ((p.opn + 1 : Nat) : Int))) ∧ ∀ g : Nat, g ≠ P → (w3.setCell ⟨P, 4, none⟩ (.int .i64 ((p.opn + 1 : Nat) : Int))).heap[g]? = w.heap[g]?) := ⟨HT1.out.1.setOpn _ (fun g => rfl), HT1.out.2.1.setCell (p := ⟨P, 4, none⟩) HPB.out _, fun g hg => (Below.heap_setCell w3 ⟨P, 4, none⟩ _ g hg).trans (HT1.out.2.2 g hg)⟩
    generalize hoo : p.opn + 1 = o1 at *
    have HOO : Hid (({ p with pos := y, opn := o1 } : Sp) = { p with pos := y, opn := p.opn + 1 }) := by show _ = _; rw [hoo]
    clear hoo
    go_wp2_with fail
    refine (HCl.out _).mono ?_
    rintro e w' ⟨rfl, rfl⟩
    go_wp2
    go_ret
    exact ⟨rfl, by have := HT2.out.1; rw [HOO.out] at this; exact this, HT2.out.2.1, HT2.out.2.2⟩
  | false =>
    cases b2 with
    | true =>
      have h0 := hcl rfl
      obtain ⟨o1, ho1⟩ : ∃ o1, p.opn = o1 + 1 := ⟨p.opn - 1, by omega⟩
      have hoi : (p.opn : Int) - 1 = (o1 : Int) := by omega
      have how : IntKind.i64.wrap (o1 : Int) = (o1 : Int) := by rw [IntKind.wrap_i64]; omega
      have hoe : p.opn - 1 = o1 := by omega
      have hob : (p.opn : Int) ≤ 1000 := by omega
      rw [hoe]
      clear hexcl hcl ho1 hoe
      go_enter Tryd.func41, Tryd.ntmps41
      go_wp2_with fail
      refine (HRe.out 0).mono ?_
      rintro e w1 ⟨rfl, n1, rfl⟩
      go_wp2_with fail
      refine (HRe.out n1).mono ?_
      rintro e w2 ⟨rfl, n2, rfl⟩
      go_wp2_with fail
      refine (HSz.out _).mono ?_
      rintro e w' ⟨rfl, rfl⟩
      have HT1 : Hid (TS B P L tv iv ((w.drewN n2).setCell ⟨P, 1, none⟩ (.int .i64 (y : Int))) { p with pos := y } ∧ Below B w ((w.drewN n2).setCell ⟨P, 1, none⟩ (.int .i64 (y : Int))) ∧ ∀ g : Nat, g ≠ P → ((w.drewN n2).setCell ⟨P, 1, none⟩ (.int .i64 (y : Int))).heap[g]? = w.heap[g]?) := ⟨HS1.out (w.drewN n2) _ ⟨n2, rfl⟩ (fun g => rfl), (below_drewN (Below.refl B w) n2).setCell (p := ⟨P, 1, none⟩) HPB.out _, fun g hg => Below.heap_setCell (w.drewN n2) ⟨P, 1, none⟩ _ g hg⟩
      go_wp2_with fail
      refine (HOp.out _).mono ?_
      rintro e w' ⟨rfl, rfl⟩
      go_wp2_with fail
      refine (HCl.out _).mono ?_
      rintro e w' ⟨rfl, rfl⟩
      have d4 := HT1.out.1.c4
      have g4 := HT1.out.1.fz 4
      generalize (w.drewN n2).setCell ⟨P, 1, none⟩ (.int .i64 (y : Int)) = w3 at *
      have HT2 : Hid (TS B P L tv iv (w3.setCell ⟨P, 4, none⟩ (.int .i64 ((o1 : Nat) : Int))) { p with pos := y, opn := o1 } ∧ Below B w (w3.setCell ⟨P, 4, none⟩ (.int .i64 ((o1 : Nat) : Int))) ∧ ∀ g : Nat, g ≠ P → (w3.setCell ⟨P, 4, none⟩ (.int .i64 ((o1 : Nat) : Int))).heap[g]? = w.heap[g]?) := ⟨HT1.out.1.setOpn _ (fun g => rfl), HT1.out.2.1.setCell (p := ⟨P, 4, none⟩) HPB.out _, fun g hg => (Below.heap_setCell w3 ⟨P, 4, none⟩ _ g hg).trans (HT1.out.2.2 g hg)⟩
      go_wp2
      go_ret
      exact ⟨rfl, HT2.out.1, HT2.out.2.1, HT2.out.2.2⟩
    | false =>
      clear hexcl hcl
      go_enter Tryd.func41, Tryd.ntmps41
      go_wp2_with fail
      refine (HRe.out 0).mono ?_
      rintro e w1 ⟨rfl, n1, rfl⟩
      go_wp2_with fail
      refine (HRe.out n1).mono ?_
      rintro e w2 ⟨rfl, n2, rfl⟩
      go_wp2_with fail
      refine (HSz.out _).mono ?_
      rintro e w' ⟨rfl, rfl⟩
      have HT1 : Hid (TS B P L tv iv ((w.drewN n2).setCell ⟨P, 1, none⟩ (.int .i64 (y : Int))) { p with pos := y } ∧ Below B w ((w.drewN n2).setCell ⟨P, 1, none⟩ (.int .i64 (y : Int))) ∧ ∀ g : Nat, g ≠ P → ((w.drewN n2).setCell ⟨P, 1, none⟩ (.int .i64 (y : Int))).heap[g]? = w.heap[g]?) := ⟨HS1.out (w.drewN n2) _ ⟨n2, rfl⟩ (fun g => rfl), (below_drewN (Below.refl B w) n2).setCell (p := ⟨P, 1, none⟩) HPB.out _, fun g hg => Below.heap_setCell (w.drewN n2) ⟨P, 1, none⟩ _ g hg⟩
      go_wp2_with fail
      refine (HOp.out _).mono ?_
      rintro e w' ⟨rfl, rfl⟩
      go_wp2_with fail
      refine (HCl.out _).mono ?_
      rintro e w' ⟨rfl, rfl⟩
      go_wp2
      go_ret
      exact ⟨rfl, HT1.out.1, HT1.out.2.1, HT1.out.2.2⟩
end Go.Proofs.YtdfimmekhbkglaaDoor
