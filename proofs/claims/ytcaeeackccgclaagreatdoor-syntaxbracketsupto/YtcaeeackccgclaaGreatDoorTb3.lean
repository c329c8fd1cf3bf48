/- A text between quotes. -/
import Derived.Test.YtcaeeackccgclaaGreatDoorTb2
namespace Go.Proofs.YtcaeeackccgclaaGreatDoor
open Go.RowKit Go.Shelf

/-- Only the splitter's block has turned, of those that were. -/
def OnlyP (P : Nat) (w w' : World) : Prop := ∀ g : Nat, g < w.heap.size → g ≠ P → w'.heap[g]? = w.heap[g]?

/-- What an escape stands for. -/
def esc (d : Nat) : Option Nat := if d = 110 then some 10 else if d = 116 then some 9 else if d = 92 then some 92 else if d = 34 then some 34 else none

set_option maxHeartbeats 4000000 in
theorem escaped_yes {B P : Nat} {L : List UInt8} {tv iv : Value} {w : World} {p : Sp} (h : TS B P L tv iv w p) (hL : L.length ≤ 6000) (hp : p.pos < L.length) (x : Nat) (hx : esc (L.getD p.pos 0).toNat = some x) :
    Calls Tryz.prog 120 #[.pointer (some ⟨P, 0, none⟩)] w fun e w' => e = .returned (.int .u8 x) ∧ TS B P L tv iv w' { p with pos := p.pos + 1 } ∧ Below B w w' ∧ ∀ g : Nat, g ≠ P → w'.heap[g]? = w.heap[g]? := by
  have HSe : Hid (∀ n (c : Nat), c ≠ 0 → Calls Tryz.prog 61 #[.pointer (some ⟨P, 0, none⟩), .int .u8 c] (w.drewN n) fun e w' => e = .returned (.bool (decide ((L.getD p.pos 0).toNat = c))) ∧ Dr w w') := fun n c hc => (sees_any (h.drewN n) (by omega) c hc).mono fun e w' ⟨a, m, b⟩ => ⟨a, by rw [b]; exact Dr.drewN ⟨n, rfl⟩ m⟩
  have HSP : Hid (∀ n w', (∀ g : Nat, w'.heap[g]? = ((w.drewN n).setCell ⟨P, 1, none⟩ (.int .i64 ((p.pos + 1 : Nat) : Int))).heap[g]?) → TS B P L tv iv w' { p with pos := p.pos + 1 }) := fun n w' hw => (h.drewN n).setPos _ hw
  have c0 := h.c0
  have c1 := h.c1
  have f1 := h.fz 1
  have hsz := mk_size L
  have hs0 : p.pos < (mkB L).size := by rw [hsz]; exact hp
  have hg := mk_get L p.pos hs0
  have HPB : Hid (B ≤ P) := h.hB
  have hpi : (p.pos : Int) < (L.length : Int) := by omega
  have hli : (L.length : Int) ≤ 6000 := by omega
  obtain ⟨y, hy⟩ : ∃ y, y = p.pos + 1 := ⟨_, rfl⟩
  rw [← hy] at HSP
  rw [← hy]
  have hp1 : (p.pos : Int) + 1 = (y : Int) := by omega
  have hwr : IntKind.i64.wrap (y : Int) = (y : Int) := by rw [IntKind.wrap_i64]; omega
  generalize hd : (L.getD p.pos 0).toNat = d at *
  have hgd : ((mkB L)[p.pos].toNat : Int) = (d : Int) := by rw [hg, hd]
  unfold esc at hx
  have hend : ∀ (m : Nat), TS B P L tv iv ((w.drewN m).setCell ⟨P, 1, none⟩ (.int .i64 (y : Int))) { p with pos := y } ∧ Below B w ((w.drewN m).setCell ⟨P, 1, none⟩ (.int .i64 (y : Int))) ∧ ∀ g : Nat, g ≠ P → ((w.drewN m).setCell ⟨P, 1, none⟩ (.int .i64 (y : Int))).heap[g]? = w.heap[g]? := fun m => ⟨HSP.out m _ (fun g => rfl), (below_drewN (Below.refl B w) m).setCell (p := ⟨P, 1, none⟩) HPB.out _, fun g hg => Below.heap_setCell (w.drewN m) ⟨P, 1, none⟩ _ g hg⟩
  have HEN : Hid (∀ (m : Nat), TS B P L tv iv ((w.drewN m).setCell ⟨P, 1, none⟩ (.int .i64 (y : Int))) { p with pos := y } ∧ Below B w ((w.drewN m).setCell ⟨P, 1, none⟩ (.int .i64 (y : Int))) ∧ ∀ g : Nat, g ≠ P → ((w.drewN m).setCell ⟨P, 1, none⟩ (.int .i64 (y : Int))).heap[g]? = w.heap[g]?) := hend
  clear h hend HSP hg hd hy
  by_cases h1 : d = 110
  · rw [if_pos h1] at hx
    obtain rfl : 10 = x := Option.some.inj hx
    have A : Hid (∀ n, Calls Tryz.prog 61 #[.pointer (some ⟨P, 0, none⟩), .int .u8 110] (w.drewN n) fun e w' => e = .returned (.bool true) ∧ Dr w w') := fun n => by
      have h9 := HSe.out n 110 (by decide)
      rwa [show decide (d = 110) = true from by simpa using h1] at h9
    clear hx h1 HSe
    go_enter Tryz.func120, Tryz.ntmps120
    go_wp2_with fail
    refine (A.out 0).mono ?_
    rintro e w' ⟨rfl, nA, rfl⟩
    go_wp2
    go_ret
    exact ⟨rfl, (HEN.out nA).1, (HEN.out nA).2.1, (HEN.out nA).2.2⟩
  · rw [if_neg h1] at hx
    have A : Hid (∀ n, Calls Tryz.prog 61 #[.pointer (some ⟨P, 0, none⟩), .int .u8 110] (w.drewN n) fun e w' => e = .returned (.bool false) ∧ Dr w w') := fun n => by
      have h9 := HSe.out n 110 (by decide)
      rwa [show decide (d = 110) = false from by simpa using h1] at h9
    by_cases h2 : d = 116
    · rw [if_pos h2] at hx
      obtain rfl : 9 = x := Option.some.inj hx
      have C : Hid (∀ n, Calls Tryz.prog 61 #[.pointer (some ⟨P, 0, none⟩), .int .u8 116] (w.drewN n) fun e w' => e = .returned (.bool true) ∧ Dr w w') := fun n => by
        have h9 := HSe.out n 116 (by decide)
        rwa [show decide (d = 116) = true from by simpa using h2] at h9
      clear hx h1 h2 HSe
      go_enter Tryz.func120, Tryz.ntmps120
      go_wp2_with fail
      refine (A.out 0).mono ?_
      rintro e w' ⟨rfl, nA, rfl⟩
      go_wp2_with fail
      refine (C.out nA).mono ?_
      rintro e w' ⟨rfl, nC, rfl⟩
      go_wp2
      go_ret
      exact ⟨rfl, (HEN.out nC).1, (HEN.out nC).2.1, (HEN.out nC).2.2⟩
    · rw [if_neg h2] at hx
      have C : Hid (∀ n, Calls Tryz.prog 61 #[.pointer (some ⟨P, 0, none⟩), .int .u8 116] (w.drewN n) fun e w' => e = .returned (.bool false) ∧ Dr w w') := fun n => by
        have h9 := HSe.out n 116 (by decide)
        rwa [show decide (d = 116) = false from by simpa using h2] at h9
      by_cases h3 : d = 92
      · rw [if_pos h3] at hx
        obtain rfl : 92 = x := Option.some.inj hx
        have D : Hid (∀ n, Calls Tryz.prog 61 #[.pointer (some ⟨P, 0, none⟩), .int .u8 92] (w.drewN n) fun e w' => e = .returned (.bool true) ∧ Dr w w') := fun n => by
          have h9 := HSe.out n 92 (by decide)
          rwa [show decide (d = 92) = true from by simpa using h3] at h9
        subst h3
        clear hx h1 h2 HSe
        go_enter Tryz.func120, Tryz.ntmps120
        go_wp2_with fail
        refine (A.out 0).mono ?_
        rintro e w' ⟨rfl, nA, rfl⟩
        go_wp2_with fail
        refine (C.out nA).mono ?_
        rintro e w' ⟨rfl, nC, rfl⟩
        go_wp2_with fail
        refine (D.out nC).mono ?_
        rintro e w' ⟨rfl, nD, rfl⟩
        go_wp2
        go_quiet (fail)
        go_wp2
        go_ret
        exact ⟨rfl, (HEN.out _).1, (HEN.out _).2.1, (HEN.out _).2.2⟩
      · rw [if_neg h3] at hx
        have D : Hid (∀ n, Calls Tryz.prog 61 #[.pointer (some ⟨P, 0, none⟩), .int .u8 92] (w.drewN n) fun e w' => e = .returned (.bool false) ∧ Dr w w') := fun n => by
          have h9 := HSe.out n 92 (by decide)
          rwa [show decide (d = 92) = false from by simpa using h3] at h9
        by_cases h4 : d = 34
        · rw [if_pos h4] at hx
          obtain rfl : 34 = x := Option.some.inj hx
          have E : Hid (∀ n, Calls Tryz.prog 61 #[.pointer (some ⟨P, 0, none⟩), .int .u8 34] (w.drewN n) fun e w' => e = .returned (.bool true) ∧ Dr w w') := fun n => by
            have h9 := HSe.out n 34 (by decide)
            rwa [show decide (d = 34) = true from by simpa using h4] at h9
          subst h4
          clear hx h1 h2 h3 HSe
          go_enter Tryz.func120, Tryz.ntmps120
          go_wp2_with fail
          refine (A.out 0).mono ?_
          rintro e w' ⟨rfl, nA, rfl⟩
          go_wp2_with fail
          refine (C.out nA).mono ?_
          rintro e w' ⟨rfl, nC, rfl⟩
          go_wp2_with fail
          refine (D.out nC).mono ?_
          rintro e w' ⟨rfl, nD, rfl⟩
          go_wp2_with fail
          refine (E.out nD).mono ?_
          rintro e w' ⟨rfl, nE, rfl⟩
          go_wp2
          go_quiet (fail)
          go_wp2
          go_ret
          exact ⟨rfl, (HEN.out _).1, (HEN.out _).2.1, (HEN.out _).2.2⟩
        · rw [if_neg h4] at hx
          cases hx

set_option maxHeartbeats 4000000 in
theorem escaped_no {B P : Nat} {L : List UInt8} {tv iv : Value} {w : World} {p : Sp} (h : TS B P L tv iv w p) (hp : p.pos ≤ L.length) (hx : esc (L.getD p.pos 0).toNat = none) :
    Calls Tryz.prog 120 #[.pointer (some ⟨P, 0, none⟩)] w fun e w' => e = PF 1 p.pos ∧ ∃ n, w' = w.drewN n := by
  have HSe : Hid (∀ n (c : Nat), c ≠ 0 → Calls Tryz.prog 61 #[.pointer (some ⟨P, 0, none⟩), .int .u8 c] (w.drewN n) fun e w' => e = .returned (.bool (decide ((L.getD p.pos 0).toNat = c))) ∧ Dr w w') := fun n c hc => (sees_any (h.drewN n) hp c hc).mono fun e w' ⟨a, m, b⟩ => ⟨a, by rw [b]; exact Dr.drewN ⟨n, rfl⟩ m⟩
  have HGu : Hid (∀ n, Calls Tryz.prog 65 #[.pointer (some ⟨P, 0, none⟩), .int .i64 1] (w.drewN n) fun e w' => e = PF 1 p.pos ∧ w' = w.drewN n) := fun n => giveUp_any (h.drewN n) 1
  generalize (L.getD p.pos 0).toNat = d at *
  unfold esc at hx
  have h1 : ¬ d = 110 := fun e => by rw [if_pos e] at hx; cases hx
  rw [if_neg h1] at hx
  have h2 : ¬ d = 116 := fun e => by rw [if_pos e] at hx; cases hx
  rw [if_neg h2] at hx
  have h3 : ¬ d = 92 := fun e => by rw [if_pos e] at hx; cases hx
  rw [if_neg h3] at hx
  have h4 : ¬ d = 34 := fun e => by rw [if_pos e] at hx; cases hx
  have A : Hid (∀ n, Calls Tryz.prog 61 #[.pointer (some ⟨P, 0, none⟩), .int .u8 110] (w.drewN n) fun e w' => e = .returned (.bool false) ∧ Dr w w') := fun n => by
    have h9 := HSe.out n 110 (by decide)
    rwa [show decide (d = 110) = false from by simpa using h1] at h9
  have C : Hid (∀ n, Calls Tryz.prog 61 #[.pointer (some ⟨P, 0, none⟩), .int .u8 116] (w.drewN n) fun e w' => e = .returned (.bool false) ∧ Dr w w') := fun n => by
    have h9 := HSe.out n 116 (by decide)
    rwa [show decide (d = 116) = false from by simpa using h2] at h9
  have D : Hid (∀ n, Calls Tryz.prog 61 #[.pointer (some ⟨P, 0, none⟩), .int .u8 92] (w.drewN n) fun e w' => e = .returned (.bool false) ∧ Dr w w') := fun n => by
    have h9 := HSe.out n 92 (by decide)
    rwa [show decide (d = 92) = false from by simpa using h3] at h9
  have E : Hid (∀ n, Calls Tryz.prog 61 #[.pointer (some ⟨P, 0, none⟩), .int .u8 34] (w.drewN n) fun e w' => e = .returned (.bool false) ∧ Dr w w') := fun n => by
    have h9 := HSe.out n 34 (by decide)
    rwa [show decide (d = 34) = false from by simpa using h4] at h9
  clear hx h1 h2 h3 h4 HSe h
  go_enter Tryz.func120, Tryz.ntmps120
  go_wp2_with fail
  refine (A.out 0).mono ?_
  rintro e w' ⟨rfl, nA, rfl⟩
  go_wp2_with fail
  refine (C.out nA).mono ?_
  rintro e w' ⟨rfl, nC, rfl⟩
  go_wp2_with fail
  refine (D.out nC).mono ?_
  rintro e w' ⟨rfl, nD, rfl⟩
  go_wp2_with fail
  refine (E.out nD).mono ?_
  rintro e w' ⟨rfl, nE, rfl⟩
  go_wp2_with fail
  refine (HGu.out nE).mono ?_
  rintro e w' ⟨rfl, rfl⟩
  go_wp2
  exact ⟨rfl, rfl, nE, rfl⟩

theorem escaped_no' {B P : Nat} {L : List UInt8} {tv iv : Value} {w : World} {p : Sp} (h : TS B P L tv iv w p) (hp : p.pos ≤ L.length) (hx : esc (L.getD p.pos 0).toNat = none) :
    Calls Tryz.prog 120 #[.pointer (some ⟨P, 0, none⟩)] w fun e w' => e = PF 1 p.pos ∧ Below B w w' ∧ ∀ g : Nat, g ≠ P → w'.heap[g]? = w.heap[g]? := (escaped_no h hp hx).mono fun _ _ ⟨a, n, b⟩ => ⟨a, by rw [b]; exact below_drewN (Below.refl _ _) n, by rw [b]; exact fun _ _ => rfl⟩
end Go.Proofs.YtcaeeackccgclaaGreatDoor

/- What a text between quotes says. -/
namespace Go.Proofs.YtcaeeackccgclaaGreatDoor
open Go.RowKit Go.Shelf

theorem bd_keep {B b : Nat} {bs : List Value} {w w' : World} (h : BdIs B b bs w) (hh : ∀ g : Nat, B ≤ g → w'.heap[g]? = w.heap[g]?) : BdIs B b bs w' := by
  rcases h with ⟨hB, v, hbk, hown, hne⟩ | ⟨hB, v, hbk, hown, hne⟩
  · exact Or.inl ⟨hB, v, (hh b hB).trans hbk, own_heap hown fun g hg => hh g (hown.lt g hg).1, hne⟩
  · exact Or.inr ⟨hB, v, (hh b hB).trans hbk, own_heap hown fun g hg => hh g (hown.lt g hg).1, hne⟩
theorem stL_both (B b : Nat) (l : List UInt8) (w : World) (h : BdIs B b (Lib.byteCells l) w) (hBw : B ≤ w.heap.size) :
    Calls Tryz.prog 12 #[.pointer (some ⟨b, 0, none⟩)] w fun e w' => e = .returned (.string (mkB l)) ∧ Below B w w' := by
  by_cases h0 : l = []
  · subst h0
    exact stL_zero B b w h hBw
  · exact stL_any B b l w h h0
theorem TS.keep2 {B P : Nat} {L : List UInt8} {tv iv : Value} {w : World} {p : Sp} (h : TS B P L tv iv w p) {C : Nat} (hP : P < C) (ht : ∀ g, tv.ownBlock = some g → g < C) (hi : ∀ g, iv.ownBlock = some g → g < C) {w' : World} (hh : ∀ g : Nat, g < C → w'.heap[g]? = w.heap[g]?) : TS B P L tv iv w' p :=
  ⟨h.hB, (hh P hP).trans h.blk, own_heap h.ot fun g hg => hh g (ht g hg), own_heap h.oi fun g hg => hh g (hi g hg), h.nt, h.ni, h.nn⟩

/-- What is left of a call that may give up in a text. -/
def TxtP (B P : Nat) (L : List UInt8) (tv iv : Value) (w : World) (p : Sp) (r : Except Nat (List UInt8 × Nat)) (e : Ending) (w' : World) : Prop :=
  (∀ y, r = .error y → e = PF 1 y) ∧ (∀ t y, r = .ok (t, y) → e = .returned (.string (mkB t)) ∧ TS B P L tv iv w' { p with pos := y } ∧ y ≤ L.length) ∧ Below B w w' ∧ OnlyP P w w'
/-- One step of reading a text. -/
theorem txt_more : ∀ (f g : Nat) (r said : List UInt8) (x : Nat), r.length < f → r.length < g → txt f r said x = txt g r said x := by
  intro f
  induction f with
  | zero => intro g r said x h; omega
  | succ f ih =>
    intro g r said x h1 h2
    cases g with
    | zero => omega
    | succ g =>
      unfold txt
      by_cases h0 : r = []
      · simp only [if_pos h0]
      · have hl : 0 < r.length := List.length_pos_iff.2 h0
        simp only [if_neg h0]
        by_cases c1 : (r.getD 0 0).toNat = 34
        · simp only [if_pos c1]
        · simp only [if_neg c1]
          have hd2 : (r.drop 2).length < f ∧ (r.drop 2).length < g := by rw [List.length_drop]; omega
          by_cases c2 : (r.getD 0 0).toNat = 92
          · simp only [if_pos c2]
            rw [ih g (r.drop 2) _ _ hd2.1 hd2.2, ih g (r.drop 2) _ _ hd2.1 hd2.2, ih g (r.drop 2) _ _ hd2.1 hd2.2]
          · simp only [if_neg c2]
            by_cases c3 : rch isPl r = 0
            · simp only [if_pos c3]
            · simp only [if_neg c3]
              exact ih g _ _ _ (by rw [List.length_drop]; omega) (by rw [List.length_drop]; omega)
theorem drop_nil {L : List UInt8} {x : Nat} (h : L.drop x = []) : L.getD x 0 = 0 := by
  rw [← at_drop, h]
  rfl
theorem txt_quote (f : Nat) (L said : List UInt8) (x : Nat) (h : (L.getD x 0).toNat = 34) : txt (f + 1) (L.drop x) said x = .ok (said, x + 1) := by
  unfold txt
  have h0 : L.drop x ≠ [] := fun e => by rw [drop_nil e] at h; cases h
  simp only [if_neg h0, at_drop, if_pos h]
theorem txt_esc (f : Nat) (L said : List UInt8) (x y : Nat) (h : (L.getD x 0).toNat = 92) (he : esc (L.getD (x + 1) 0).toNat = some y) : txt (f + 1) (L.drop x) said x = txt f (L.drop (x + 2)) (said ++ [UInt8.ofNat y]) (x + 2) := by
  conv => lhs; unfold txt
  have h0 : L.drop x ≠ [] := fun e => by rw [drop_nil e] at h; cases h
  have hd : ∀ k, (L.drop x).drop k = L.drop (x + k) := fun k => by rw [List.drop_drop]
  simp only [if_neg h0, at_drop, hd, h, show ¬ (92 = 34) from by decide, if_false, if_true]
  have h1 : L.drop (x + 1) ≠ [] := fun e => by rw [drop_nil e] at he; simp [esc] at he
  simp only [if_neg h1]
  unfold esc at he
  by_cases c1 : (L.getD (x + 1) 0).toNat = 110
  · rw [if_pos c1] at he
    obtain rfl := Option.some.inj he
    rw [if_pos c1]
    rfl
  · rw [if_neg c1] at he
    rw [if_neg c1]
    by_cases c2 : (L.getD (x + 1) 0).toNat = 116
    · rw [if_pos c2] at he
      obtain rfl := Option.some.inj he
      rw [if_pos c2]
      rfl
    · rw [if_neg c2] at he
      rw [if_neg c2]
      have e2 : ∀ z : Nat, (L.getD (x + 1) 0).toNat = z → L.getD (x + 1) 0 = UInt8.ofNat z := fun z hz => by rw [← hz]; simp
      by_cases c3 : (L.getD (x + 1) 0).toNat = 92
      · rw [if_pos c3] at he
        obtain rfl := Option.some.inj he
        rw [if_pos (Or.inl c3), e2 92 c3]
      · rw [if_neg c3] at he
        by_cases c4 : (L.getD (x + 1) 0).toNat = 34
        · rw [if_pos c4] at he
          obtain rfl := Option.some.inj he
          rw [if_pos (Or.inr c4), e2 34 c4]
        · rw [if_neg c4] at he
          cases he
theorem txt_noesc (f : Nat) (L said : List UInt8) (x : Nat) (h : (L.getD x 0).toNat = 92) (he : esc (L.getD (x + 1) 0).toNat = none) : txt (f + 1) (L.drop x) said x = .error (x + 1) := by
  unfold txt
  have h0 : L.drop x ≠ [] := fun e => by rw [drop_nil e] at h; cases h
  have hd : ∀ k, (L.drop x).drop k = L.drop (x + k) := fun k => by rw [List.drop_drop]
  simp only [if_neg h0, at_drop, hd, h, show ¬ (92 = 34) from by decide, if_false, if_true]
  unfold esc at he
  have c1 : ¬ (L.getD (x + 1) 0).toNat = 110 := fun e => by rw [if_pos e] at he; cases he
  rw [if_neg c1] at he
  have c2 : ¬ (L.getD (x + 1) 0).toNat = 116 := fun e => by rw [if_pos e] at he; cases he
  rw [if_neg c2] at he
  have c3 : ¬ (L.getD (x + 1) 0).toNat = 92 := fun e => by rw [if_pos e] at he; cases he
  rw [if_neg c3] at he
  have c4 : ¬ (L.getD (x + 1) 0).toNat = 34 := fun e => by rw [if_pos e] at he; cases he
  rw [if_neg c1, if_neg c2, if_neg (show ¬ ((L.getD (x + 1) 0).toNat = 92 ∨ (L.getD (x + 1) 0).toNat = 34) from fun e => e.elim c3 c4)]
  split <;> rfl
theorem txt_stop (f : Nat) (L said : List UInt8) (x : Nat) (h1 : ¬ (L.getD x 0).toNat = 34) (h2 : ¬ (L.getD x 0).toNat = 92) (h3 : rch isPl (L.drop x) = 0) : txt (f + 1) (L.drop x) said x = .error x := by
  unfold txt
  simp only [at_drop, if_neg h1, if_neg h2, if_pos h3]
  split <;> rfl
theorem txt_plain (f : Nat) (L said : List UInt8) (x : Nat) (h1 : ¬ (L.getD x 0).toNat = 34) (h2 : ¬ (L.getD x 0).toNat = 92) (h3 : rch isPl (L.drop x) ≠ 0) : txt (f + 1) (L.drop x) said x = txt f (L.drop (x + rch isPl (L.drop x))) (said ++ (L.drop x).take (rch isPl (L.drop x))) (x + rch isPl (L.drop x)) := by
  have h0 : L.drop x ≠ [] := fun e => by rw [e] at h3; exact h3 rfl
  conv => lhs; unfold txt
  simp only [at_drop, if_neg h1, if_neg h2, if_neg h3, if_neg h0]
  rw [List.drop_drop]

set_option maxHeartbeats 8000000 in
set_option maxRecDepth 100000 in
theorem text_any {B P : Nat} {L : List UInt8} {tv iv : Value} {w : World} {p : Sp} (h : TS B P L tv iv w p) (hL : L.length ≤ 6000) (hp : p.pos < L.length) :
    Calls Tryz.prog 98 #[.pointer (some ⟨P, 0, none⟩)] w fun e w' => TxtP B P L tv iv w p (txt ((L.drop p.pos).length + 1) ((L.drop p.pos).drop 1) [] (p.pos + 1)) e w' := by
  have hBl : B ≤ w.heap.size := by have := h.hB; have := h.lt; omega
  obtain ⟨C, hC⟩ : ∃ C, C = w.heap.size := ⟨_, rfl⟩
  have HC : Hid (P < C ∧ B ≤ P ∧ (∀ g, tv.ownBlock = some g → g < C) ∧ (∀ g, iv.ownBlock = some g → g < C) ∧ B ≤ C ∧ C = w.heap.size) := by
    rw [hC]
    exact ⟨h.lt, h.hB, fun g hg => (h.ot.lt g hg).2, fun g hg => (h.oi.lt g hg).2, hBl, rfl⟩
  obtain ⟨w0, hw0⟩ : ∃ w0, w0 = w.alloc (.cells #[.pointer none, .slice none 0 0] 43) := ⟨_, rfl⟩
  have H0 : Hid (TS B P L tv iv w0 p ∧ Below B w w0 ∧ OnlyP P w w0 ∧ BdIs C C [] w0 ∧ w0.heap.size = C + 1) := by
    rw [hw0, hC]
    exact ⟨h.up ((Below.refl _ _).alloc (Nat.le_refl _) _), (Below.refl _ _).alloc hBl _, fun g hg _ => heap_al w _ g hg, Lib.fresh_isBuilder _ _ w, by rw [World.size_alloc]⟩
  have c1 := H0.out.1.c1
  have f1 := H0.out.1.fz 1
  obtain ⟨y0, hy0⟩ : ∃ y0, y0 = p.pos + 1 := ⟨_, rfl⟩
  have H1 : Hid (TS B P L tv iv (w0.setCell ⟨P, 1, none⟩ (.int .i64 (y0 : Int))) { p with pos := y0 } ∧ Below B w (w0.setCell ⟨P, 1, none⟩ (.int .i64 (y0 : Int))) ∧ OnlyP P w (w0.setCell ⟨P, 1, none⟩ (.int .i64 (y0 : Int))) ∧ BdIs C C (Lib.byteCells []) (w0.setCell ⟨P, 1, none⟩ (.int .i64 (y0 : Int))) ∧ C ≤ (w0.setCell ⟨P, 1, none⟩ (.int .i64 (y0 : Int))).heap.size) := by
    have k : ∀ g : Nat, g ≠ P → (w0.setCell ⟨P, 1, none⟩ (.int .i64 (y0 : Int))).heap[g]? = w0.heap[g]? := fun g hg => Below.heap_setCell w0 ⟨P, 1, none⟩ _ g hg
    have b1 : Below B w (w0.setCell ⟨P, 1, none⟩ (.int .i64 (y0 : Int))) := H0.out.2.1.setCell (p := ⟨P, 1, none⟩) HC.out.2.1 _
    refine ⟨H0.out.1.setPos _ (fun g => rfl), b1, fun g hg hp => (k g hp).trans (H0.out.2.2.1 g hg hp), bd_keep H0.out.2.2.2.1 fun g hg => k g (by have := HC.out.1; omega), ?_⟩
    have h9 := b1.size
    have h8 := HC.out.2.2.2.2.2
    omega
  have hp1 : (p.pos : Int) + 1 = (y0 : Int) := by omega
  have hpi : (p.pos : Int) ≤ 6000 := by omega
  have hwr : IntKind.i64.wrap (y0 : Int) = (y0 : Int) := by rw [IntKind.wrap_i64]; omega
  obtain ⟨RES, hRES⟩ : ∃ RES, RES = txt ((L.drop p.pos).length + 1) ((L.drop p.pos).drop 1) [] (p.pos + 1) := ⟨_, rfl⟩
  rw [← hRES]
  have HRES : Hid (RES = txt (L.length + 1) (L.drop y0) [] y0) := by
    show _ = _
    rw [hRES, List.drop_drop, ← hy0]
    exact txt_more _ _ _ _ _ (by rw [List.length_drop, List.length_drop]; omega) (by rw [List.length_drop]; omega)
  have hy0l : y0 ≤ L.length := by omega
  have hCw : w.heap.size = C := hC.symm
  subst hw0
  clear h hRES hy0 hC
  go_enter Tryz.func98, Tryz.ntmps98
  go_wp2
  go_loopw [4] (fun _ wr => ∃ (x f : Nat) (said : List UInt8), x ≤ L.length ∧ Hid ((L.drop x).length < f ∧ said.length ≤ x ∧ RES = txt f (L.drop x) said x) ∧ Hid (TS B P L tv iv wr { p with pos := x } ∧ Below B w wr ∧ OnlyP P w wr ∧ BdIs C C (Lib.byteCells said) wr ∧ C ≤ wr.heap.size)) (fun _ wr => L.length - posOf P wr)
  case atStart => exact ⟨y0, L.length + 1, [], hy0l, ⟨by rw [List.length_drop]; omega, by simp, HRES.out⟩, H1.out⟩
  case round =>
    obtain ⟨x, f, said, hx, HF, HT⟩ := hrel
    clear H0 H1 HRES
    have hx6 : x ≤ 6000 := by omega
    obtain ⟨f', hf'⟩ : ∃ f', f = f' + 1 := ⟨f - 1, by have := HF.out.1; omega⟩
    subst hf'
    have HSe : Hid (∀ n (c : Nat), c ≠ 0 → Calls Tryz.prog 61 #[.pointer (some ⟨P, 0, none⟩), .int .u8 c] (wr.drewN n) fun e w' => e = .returned (.bool (decide ((L.getD x 0).toNat = c))) ∧ Dr wr w') := fun n c hc => (sees_any (HT.out.1.drewN n) hx c hc).mono fun e w' ⟨a, m, b⟩ => ⟨a, by rw [b]; exact Dr.drewN ⟨n, rfl⟩ m⟩
    have d1 := HT.out.1.c1
    have g1 := HT.out.1.fz 1
    by_cases hq : (L.getD x 0).toNat = 34
    · have HX : Hid (RES = .ok (said, x + 1)) := HF.out.2.2.trans (txt_quote f' L said x hq)
      have HSA : Hid (∀ n, Calls Tryz.prog 61 #[.pointer (some ⟨P, 0, none⟩), .int .u8 (34 : Nat)] (wr.drewN n) fun e w' => e = .returned (.bool true) ∧ Dr wr w') := fun n => by
        have h9 := HSe.out n 34 (by decide)
        rwa [show decide ((L.getD x 0).toNat = 34) = true from by simpa using hq] at h9
      have hxl : x < L.length := by
        rcases Nat.lt_or_ge x L.length with h | h
        · exact h
        · rw [List.getD_eq_getElem?_getD, List.getElem?_eq_none h] at hq; cases hq
      obtain ⟨y, hy⟩ : ∃ y, y = x + 1 := ⟨_, rfl⟩
      rw [← hy] at HX
      have hxy : (x : Int) + 1 = (y : Int) := by omega
      have hxi : (x : Int) ≤ 6000 := by omega
      have hyl : y ≤ L.length := by omega
      have hyw : IntKind.i64.wrap (y : Int) = (y : Int) := by rw [IntKind.wrap_i64]; omega
      have HST : Hid (∀ n, TS B P L tv iv ((wr.drewN n).setCell ⟨P, 1, none⟩ (.int .i64 (y : Int))) { p with pos := y } ∧ Below B w ((wr.drewN n).setCell ⟨P, 1, none⟩ (.int .i64 (y : Int))) ∧ OnlyP P w ((wr.drewN n).setCell ⟨P, 1, none⟩ (.int .i64 (y : Int))) ∧ BdIs C C (Lib.byteCells said) ((wr.drewN n).setCell ⟨P, 1, none⟩ (.int .i64 (y : Int))) ∧ C ≤ ((wr.drewN n).setCell ⟨P, 1, none⟩ (.int .i64 (y : Int))).heap.size) := fun n => by
        have k : ∀ g : Nat, g ≠ P → ((wr.drewN n).setCell ⟨P, 1, none⟩ (.int .i64 (y : Int))).heap[g]? = wr.heap[g]? := fun g hg => Below.heap_setCell (wr.drewN n) ⟨P, 1, none⟩ _ g hg
        have b1 : Below B wr ((wr.drewN n).setCell ⟨P, 1, none⟩ (.int .i64 (y : Int))) := (below_drewN (Below.refl B wr) n).setCell (p := ⟨P, 1, none⟩) HC.out.2.1 _
        refine ⟨(HT.out.1.drewN n).setPos _ (fun g => rfl), HT.out.2.1.trans b1, fun g hg hp => (k g hp).trans (HT.out.2.2.1 g hg hp), bd_keep HT.out.2.2.2.1 fun g hg => k g (by have := HC.out.1; omega), ?_⟩
        have h9 := b1.size
        have h8 := HT.out.2.2.2.2
        omega
      clear hq HSe hy hxl
      go_wp2_with fail
      refine (HSA.out 0).mono ?_
      rintro e w1 ⟨rfl, n1, rfl⟩
      go_wp2_with fail
      refine (stL_both C C said _ (HST.out n1).2.2.2.1 (HST.out n1).2.2.2.2).mono ?_
      rintro e w2 ⟨rfl, hb2⟩
      have HE2 : Hid (TS B P L tv iv w2 { p with pos := y } ∧ Below B w w2 ∧ OnlyP P w w2) := ⟨(HST.out n1).1.keep2 HC.out.1 HC.out.2.2.1 HC.out.2.2.2.1 (fun g hg => hb2.block g hg), (HST.out n1).2.1.trans (hb2.mono HC.out.2.2.2.2.1), fun g hg hp => (hb2.block g (by have := HC.out.2.2.2.2.2; omega)).trans ((HST.out n1).2.2.1 g hg hp)⟩
      clear hb2
      go_wp2
      go_ret
      refine ⟨fun z hz => ?_, fun t z hz => ?_, HE2.out.2.1, HE2.out.2.2⟩
      · rw [HX.out] at hz; cases hz
      · rw [HX.out] at hz
        cases hz
        exact ⟨rfl, HE2.out.1, hyl⟩
    · have HSA : Hid (∀ n, Calls Tryz.prog 61 #[.pointer (some ⟨P, 0, none⟩), .int .u8 (34 : Nat)] (wr.drewN n) fun e w' => e = .returned (.bool false) ∧ Dr wr w') := fun n => by
        have h9 := HSe.out n 34 (by decide)
        rwa [show decide ((L.getD x 0).toNat = 34) = false from by simpa using hq] at h9
      by_cases hb : (L.getD x 0).toNat = 92
      · have HSB : Hid (∀ n, Calls Tryz.prog 61 #[.pointer (some ⟨P, 0, none⟩), .int .u8 (92 : Nat)] (wr.drewN n) fun e w' => e = .returned (.bool true) ∧ Dr wr w') := fun n => by
          have h9 := HSe.out n 92 (by decide)
          rwa [show decide ((L.getD x 0).toNat = 92) = true from by simpa using hb] at h9
        have hxl : x < L.length := by
          rcases Nat.lt_or_ge x L.length with h | h
          · exact h
          · rw [List.getD_eq_getElem?_getD, List.getElem?_eq_none h] at hb; cases hb
        have HES : Hid (∀ z, esc (L.getD (x + 1) 0).toNat = some z → RES = txt f' (L.drop (x + 2)) (said ++ [UInt8.ofNat z]) (x + 2)) := fun z hz => HF.out.2.2.trans (txt_esc f' L said x z hb hz)
        have HEN : Hid (esc (L.getD (x + 1) 0).toNat = none → RES = .error (x + 1)) := fun hz => HF.out.2.2.trans (txt_noesc f' L said x hb hz)
        obtain ⟨y, hy⟩ : ∃ y, y = x + 1 := ⟨_, rfl⟩
        rw [← hy] at HES HEN
        have hxy : (x : Int) + 1 = (y : Int) := by omega
        have hxi : (x : Int) ≤ 6000 := by omega
        have hyl : y ≤ L.length := by omega
        have hyw : IntKind.i64.wrap (y : Int) = (y : Int) := by rw [IntKind.wrap_i64]; omega
        have HST : Hid (∀ n, TS B P L tv iv ((wr.drewN n).setCell ⟨P, 1, none⟩ (.int .i64 (y : Int))) { p with pos := y } ∧ Below B w ((wr.drewN n).setCell ⟨P, 1, none⟩ (.int .i64 (y : Int))) ∧ OnlyP P w ((wr.drewN n).setCell ⟨P, 1, none⟩ (.int .i64 (y : Int))) ∧ BdIs C C (Lib.byteCells said) ((wr.drewN n).setCell ⟨P, 1, none⟩ (.int .i64 (y : Int))) ∧ C ≤ ((wr.drewN n).setCell ⟨P, 1, none⟩ (.int .i64 (y : Int))).heap.size) := fun n => by
          have k : ∀ g : Nat, g ≠ P → ((wr.drewN n).setCell ⟨P, 1, none⟩ (.int .i64 (y : Int))).heap[g]? = wr.heap[g]? := fun g hg => Below.heap_setCell (wr.drewN n) ⟨P, 1, none⟩ _ g hg
          have b1 : Below B wr ((wr.drewN n).setCell ⟨P, 1, none⟩ (.int .i64 (y : Int))) := (below_drewN (Below.refl B wr) n).setCell (p := ⟨P, 1, none⟩) HC.out.2.1 _
          refine ⟨(HT.out.1.drewN n).setPos _ (fun g => rfl), HT.out.2.1.trans b1, fun g hg hp => (k g hp).trans (HT.out.2.2.1 g hg hp), bd_keep HT.out.2.2.2.1 fun g hg => k g (by have := HC.out.1; omega), ?_⟩
          have h9 := b1.size
          have h8 := HT.out.2.2.2.2
          omega
        clear hq hb HSe
        cases he : esc (L.getD y 0).toNat with
        | none =>
          have HX := HEN.out he
          have HXX : Hid (RES = .error y) := HX
          have HNO : Hid (∀ n, Calls Tryz.prog 120 #[.pointer (some ⟨P, 0, none⟩)] ((wr.drewN n).setCell ⟨P, 1, none⟩ (.int .i64 (y : Int))) fun e w' => e = PF 1 y ∧ Below B w w' ∧ OnlyP P w w') := fun n => (escaped_no' (HST.out n).1 hyl he).mono fun e w' ⟨a, b, c⟩ => ⟨a, (HST.out n).2.1.trans b, fun g hg hp => (c g hp).trans ((HST.out n).2.2.1 g hg hp)⟩
          clear HX HEN HES he hy
          go_wp2_with fail
          refine (HSA.out 0).mono ?_
          rintro e w1 ⟨rfl, n1, rfl⟩
          go_wp2_with fail
          refine (HSB.out n1).mono ?_
          rintro e w2 ⟨rfl, n2, rfl⟩
          go_wp2_with fail
          refine (HNO.out n2).mono ?_
          rintro e w3 ⟨rfl, hb3, ho3⟩
          go_wp2
          refine ⟨rfl, fun z hz => ?_, fun t z hz => ?_, hb3, ho3⟩
          · rw [HXX.out] at hz; cases hz; rfl
          · rw [HXX.out] at hz; cases hz
        | some z =>
          have HX := HES.out z he
          have hz256 : z < 256 := by
            unfold esc at he
            repeat' split at he
            all_goals (first | cases he; decide | cases he)
          have hyl2 : y < L.length := by
            rcases Nat.lt_or_ge y L.length with h | h
            · exact h
            · rw [List.getD_eq_getElem?_getD, List.getElem?_eq_none h] at he; cases he
          have HYE : Hid (∀ n, Calls Tryz.prog 120 #[.pointer (some ⟨P, 0, none⟩)] ((wr.drewN n).setCell ⟨P, 1, none⟩ (.int .i64 (y : Int))) fun e w' => e = .returned (.int .u8 z) ∧ TS B P L tv iv w' { p with pos := y + 1 } ∧ Below B w w' ∧ OnlyP P w w' ∧ BdIs C C (Lib.byteCells said) w' ∧ C ≤ w'.heap.size) := fun n => (escaped_yes (HST.out n).1 hL hyl2 z he).mono fun e w' ⟨a, b, c, d⟩ => ⟨a, b, (HST.out n).2.1.trans c, fun g hg hp => (d g hp).trans ((HST.out n).2.2.1 g hg hp), bd_keep (HST.out n).2.2.2.1 fun g hg => d g (by have := HC.out.1; omega), by have h8 := (HST.out n).2.2.2.2; have h9 := c.size; omega⟩
          have HXX : Hid (RES = txt f' (L.drop (y + 1)) (said ++ [UInt8.ofNat z]) (y + 1) ∧ (L.drop (y + 1)).length < f' ∧ (said ++ [UInt8.ofNat z]).length ≤ y + 1 ∧ Lib.byteCells (said ++ [UInt8.ofNat z]) = Lib.byteCells said ++ [.int .u8 z]) := by
            refine ⟨by rw [HX, hy], ?_, ?_, ?_⟩
            · have := HF.out.1
              rw [List.length_drop] at this ⊢
              omega
            · have := HF.out.2.1
              rw [List.length_append]
              simp only [List.length_cons, List.length_nil]
              omega
            · have e2 : (UInt8.ofNat z).toNat = z := by simp [UInt8.toNat_ofNat']; omega
              simp [Lib.byteCells, e2]
          have HSL : Hid (said.length ≤ 6000) := by have := HF.out.2.1; show _ ≤ _; omega
          have HXY : Hid (y = x + 1) := hy
          clear HX HEN HES he hy
          go_wp2_with fail
          refine (HSA.out 0).mono ?_
          rintro e w1 ⟨rfl, n1, rfl⟩
          go_wp2_with fail
          refine (HSB.out n1).mono ?_
          rintro e w2 ⟨rfl, n2, rfl⟩
          go_wp2_with fail
          refine (HYE.out n2).mono ?_
          rintro e w3 ⟨rfl, hts3, hb3, ho3, hd3, hc3⟩
          have H3 : Hid (TS B P L tv iv w3 { p with pos := y + 1 } ∧ Below B w w3 ∧ OnlyP P w w3 ∧ BdIs C C (Lib.byteCells said) w3 ∧ C ≤ w3.heap.size) := ⟨hts3, hb3, ho3, hd3, hc3⟩
          clear hts3 hb3 ho3 hd3 hc3
          go_wp2_with fail
          refine (wbL_any C C (Lib.byteCells said) z _ H3.out.2.2.2.1 (by rw [Lib.byteCells_length]; have := HSL.out; omega) H3.out.2.2.2.2).mono ?_
          rintro e w4 ⟨rfl, hd4, hk4⟩
          have H4 : Hid (TS B P L tv iv w4 { p with pos := y + 1 } ∧ Below B w w4 ∧ OnlyP P w w4 ∧ BdIs C C (Lib.byteCells (said ++ [UInt8.ofNat z])) w4 ∧ C ≤ w4.heap.size) := ⟨H3.out.1.keep2 HC.out.1 HC.out.2.2.1 HC.out.2.2.2.1 (fun g hg => hk4.1.block g hg), H3.out.2.1.trans (hk4.1.mono HC.out.2.2.2.2.1), fun g hg hp => (hk4.1.block g (by have := HC.out.2.2.2.2.2; omega)).trans (H3.out.2.2.1 g hg hp), by rw [HXX.out.2.2.2]; exact Or.inr hd4, by have h8 := H3.out.2.2.2.2; have h9 := hk4.1.size; omega⟩
          clear hd4 hk4
          go_wp2
          refine ⟨⟨y + 1, f', said ++ [UInt8.ofNat z], by omega, ⟨HXX.out.2.1, HXX.out.2.2.1, HXX.out.1⟩, H4⟩, ?_⟩
          rw [H4.out.1.posOf, HT.out.1.posOf]
          show L.length - (y + 1) < L.length - x
          have := HXY.out
          omega
      · have HSB : Hid (∀ n, Calls Tryz.prog 61 #[.pointer (some ⟨P, 0, none⟩), .int .u8 (92 : Nat)] (wr.drewN n) fun e w' => e = .returned (.bool false) ∧ Dr wr w') := fun n => by
          have h9 := HSe.out n 92 (by decide)
          rwa [show decide ((L.getD x 0).toNat = 92) = false from by simpa using hb] at h9
        have HTk : Hid (∀ n, Calls Tryz.prog 88 #[.pointer (some ⟨P, 0, none⟩), .func (.func 121) #[] #[]] (wr.drewN n) fun e w' => e = .returned (.string (mkB ((L.drop x).take (rch isPl (L.drop x))))) ∧ TS B P L tv iv w' { p with pos := x + rch isPl (L.drop x) } ∧ Below B w w' ∧ OnlyP P w w' ∧ BdIs C C (Lib.byteCells said) w' ∧ C ≤ w'.heap.size) := fun n => (take_any (HT.out.1.drewN n) hL hx 121 isPl (fun W _ => says_pl W)).mono fun e w' ⟨a, b, c, d⟩ => ⟨a, b, HT.out.2.1.trans ((below_drewN (Below.refl B wr) n).trans c), fun g hg hp => (d g hp).trans (HT.out.2.2.1 g hg hp), bd_keep HT.out.2.2.2.1 fun g hg => d g (by have := HC.out.1; omega), by have h8 := HT.out.2.2.2.2; have h9 := ((below_drewN (Below.refl B wr) n).trans c).size; omega⟩
        have hkl := rch_le isPl (L.drop x)
        rw [List.length_drop] at hkl
        have HTS : Hid (rch isPl (L.drop x) = 0 → RES = .error x) := fun h0 => HF.out.2.2.trans (txt_stop f' L said x hq hb h0)
        have HTP : Hid (rch isPl (L.drop x) ≠ 0 → RES = txt f' (L.drop (x + rch isPl (L.drop x))) (said ++ (L.drop x).take (rch isPl (L.drop x))) (x + rch isPl (L.drop x))) := fun h0 => HF.out.2.2.trans (txt_plain f' L said x hq hb h0)
        have htl : ((L.drop x).take (rch isPl (L.drop x))).length = rch isPl (L.drop x) := by rw [List.length_take, List.length_drop]; omega
        clear hq hb HSe
        generalize (L.drop x).take (rch isPl (L.drop x)) = pl at *
        generalize rch isPl (L.drop x) = k at *
        have hE : ((mkB pl).toList == []) = decide (k = 0) := by
          rw [mk_toList, Bool.eq_iff_iff]
          simp [← htl]
        by_cases hk : k = 0
        · subst hk
          have HXX : Hid (RES = .error x) := HTS.out rfl
          rw [show decide ((0 : Nat) = 0) = true from rfl] at hE
          rw [Nat.add_zero] at HTk
          clear HTS HTP htl hkl
          generalize mkB pl = t at *
          go_wp2_with fail
          refine (HSA.out 0).mono ?_
          rintro e w1 ⟨rfl, n1, rfl⟩
          go_wp2_with fail
          refine (HSB.out n1).mono ?_
          rintro e w2 ⟨rfl, n2, rfl⟩
          go_wp2_with fail
          refine (HTk.out n2).mono ?_
          rintro e w3 ⟨rfl, hts3, hb3, ho3, -, -⟩
          have H3 : Hid (TS B P L tv iv w3 { p with pos := x } ∧ Below B w w3 ∧ OnlyP P w w3) := ⟨hts3, hb3, ho3⟩
          clear hts3 hb3 ho3
          go_wp2_with fail
          refine (giveUp_any H3.out.1 1).mono ?_
          rintro e w' ⟨rfl, rfl⟩
          go_wp2
          refine ⟨rfl, fun z hz => ?_, fun t z hz => ?_, H3.out.2.1, H3.out.2.2⟩
          · rw [HXX.out] at hz; cases hz; rfl
          · rw [HXX.out] at hz; cases hz
        · have HX := HTP.out hk
          rw [show decide (k = 0) = false from by simpa using hk] at hE
          have HXX : Hid (RES = txt f' (L.drop (x + k)) (said ++ pl) (x + k) ∧ (L.drop (x + k)).length < f' ∧ (said ++ pl).length ≤ x + k ∧ Lib.byteCells (said ++ pl) = Lib.byteCells said ++ Lib.strCells (mkB pl) ∧ 0 < k ∧ x + k ≤ L.length) := by
            refine ⟨HX, ?_, ?_, ?_, by omega, by omega⟩
            · have := HF.out.1
              rw [List.length_drop] at this ⊢
              omega
            · have := HF.out.2.1
              rw [List.length_append]
              omega
            · rw [Lib.strCells_eq, mk_data]
              simp [Lib.byteCells]
          have HSL : Hid (said.length ≤ 6000 ∧ (mkB pl).size ≤ 6000) := by
            refine ⟨?_, ?_⟩
            · have := HF.out.2.1; omega
            · rw [mk_size]; omega
          clear HX HTS HTP htl hkl hk
          generalize mkB pl = t at *
          go_wp2_with fail
          refine (HSA.out 0).mono ?_
          rintro e w1 ⟨rfl, n1, rfl⟩
          go_wp2_with fail
          refine (HSB.out n1).mono ?_
          rintro e w2 ⟨rfl, n2, rfl⟩
          go_wp2_with fail
          refine (HTk.out n2).mono ?_
          rintro e w3 ⟨rfl, hts3, hb3, ho3, hd3, hc3⟩
          have H3 : Hid (TS B P L tv iv w3 { p with pos := x + k } ∧ Below B w w3 ∧ OnlyP P w w3 ∧ BdIs C C (Lib.byteCells said) w3 ∧ C ≤ w3.heap.size) := ⟨hts3, hb3, ho3, hd3, hc3⟩
          clear hts3 hb3 ho3 hd3 hc3
          go_wp2_with fail
          refine (wsL_any C C (Lib.byteCells said) t _ H3.out.2.2.2.1 (by rw [Lib.byteCells_length]; have := HSL.out; omega) H3.out.2.2.2.2).mono ?_
          rintro e w4 ⟨rfl, hd4, hk4⟩
          have H4 : Hid (TS B P L tv iv w4 { p with pos := x + k } ∧ Below B w w4 ∧ OnlyP P w w4 ∧ BdIs C C (Lib.byteCells (said ++ pl)) w4 ∧ C ≤ w4.heap.size) := ⟨H3.out.1.keep2 HC.out.1 HC.out.2.2.1 HC.out.2.2.2.1 (fun g hg => hk4.1.block g hg), H3.out.2.1.trans (hk4.1.mono HC.out.2.2.2.2.1), fun g hg hp => (hk4.1.block g (by have := HC.out.2.2.2.2.2; omega)).trans (H3.out.2.2.1 g hg hp), by rw [HXX.out.2.2.2.1]; exact Or.inr hd4, by have h8 := H3.out.2.2.2.2; have h9 := hk4.1.size; omega⟩
          clear hd4 hk4
          go_wp2
          refine ⟨⟨x + k, f', said ++ pl, HXX.out.2.2.2.2.2, ⟨HXX.out.2.1, HXX.out.2.2.1, HXX.out.1⟩, H4⟩, ?_⟩
          rw [H4.out.1.posOf, HT.out.1.posOf]
          show L.length - (x + k) < L.length - x
          have := HXX.out.2.2.2.2
          omega
end Go.Proofs.YtcaeeackccgclaaGreatDoor

/- A token that may begin here. -/
namespace Go.Proofs.YtcaeeackccgclaaGreatDoor
open Go.RowKit Go.Shelf

/-- A token's block. -/
def tkObj (k : Int) (tx : ByteArray) (n x : Int) : Obj := .cells #[.int .i64 k, .string tx, .int .i64 n, .int .i64 x] 84
/-- What an append of a token to the splitter's leaves. -/
theorem tail_facts {B P : Nat} {L : List UInt8} {tv iv : Value} {w : World} {p : Sp} (h : TS B P L tv iv w p) (t : Tk) :
    ((w.alloc (.cells #[.int .i64 t.kind, .string (mkB t.text), .int .i64 t.num, .int .i64 t.pos] 84)).drew).ownsRow B 84 4 tv p.toks.length (tcs p.toks) ∧
    (∀ (j : Nat) (u : Value), (tc t)[j]? = some u → ((w.alloc (.cells #[.int .i64 t.kind, .string (mkB t.text), .int .i64 t.num, .int .i64 t.pos] 84)).drew).cell? ((⟨w.heap.size, 0, none⟩ : Addr).add j) = some u) ∧
    (∀ {w1 w' : World} {g1 cap1 : Nat}, w1.ownsRow B 84 4 (.slice (some ⟨g1, 0, none⟩) (p.toks.length + 1) cap1) (p.toks.length + 1) (tcs p.toks ++ tc t) → ((w.alloc (.cells #[.int .i64 t.kind, .string (mkB t.text), .int .i64 t.num, .int .i64 t.pos] 84)).drew).grownBy w1 tv.ownBlock → (tv.ownBlock = some g1 ∨ g1 = w.heap.size + 1) → (∀ g : Nat, w'.heap[g]? = (w1.setCell ⟨P, 2, none⟩ (.slice (some ⟨g1, 0, none⟩) (p.toks.length + 1) cap1)).heap[g]?) → TS B P L (.slice (some ⟨g1, 0, none⟩) (p.toks.length + 1) cap1) iv w' { p with toks := p.toks ++ [t] }) ∧
    (∀ {w1 : World}, ((w.alloc (.cells #[.int .i64 t.kind, .string (mkB t.text), .int .i64 t.num, .int .i64 t.pos] 84)).drew).grownBy w1 tv.ownBlock → w1.cell? ⟨P, 2, none⟩ = some tv ∧ w1.frozen? ⟨P, 2, none⟩ = false ∧ Below B w w1) ∧
    B ≤ ((w.alloc (.cells #[.int .i64 t.kind, .string (mkB t.text), .int .i64 t.num, .int .i64 t.pos] 84)).drew).heap.size ∧ ((w.alloc (.cells #[.int .i64 t.kind, .string (mkB t.text), .int .i64 t.num, .int .i64 t.pos] 84)).drew).heap.size = w.heap.size + 1 := by
  have hPl := h.lt
  have hBl : B ≤ w.heap.size := by have := h.hB; omega
  have q4 : ((w.alloc (.cells #[.int .i64 t.kind, .string (mkB t.text), .int .i64 t.num, .int .i64 t.pos] 84)).drew).heap.size = w.heap.size + 1 := by show (w.alloc _).heap.size = _; rw [World.size_alloc]
  have q3 : B ≤ ((w.alloc (.cells #[.int .i64 t.kind, .string (mkB t.text), .int .i64 t.num, .int .i64 t.pos] 84)).drew).heap.size := by rw [q4]; omega
  refine ⟨h.ot.alloc _, new_tok w t, ?_, ?_, q3, q4⟩
  · intro w1 w' g1 cap1 a1 a2 a3 a4
    exact h.put t (W := (w.alloc _).drew) (fun g hg => heap_al w _ g hg) (by rw [q4]; omega) a1 a2 (by rw [q4]; exact a3) a4
  · intro w1 hg
    have e1 : w1.heap[P]? = w.heap[P]? := (hg.block P (by rw [q4]; omega) (fun e => h.nt e.symm)).trans (heap_al w _ P hPl)
    exact ⟨by rw [Lib.cell_of_heap (e1.trans h.blk)]; rfl, Lib.frozen_of_heap (e1.trans h.blk) 2, (((Below.refl B w).alloc hBl _).drew).grown hg q3 (fun j hj => (h.ot.lt j hj).1)⟩
/-- What is left of a call that may be given up. -/
def StP (B P : Nat) (L : List UInt8) (w : World) (r : Except Ft Sp) (e : Ending) (w' : World) : Prop :=
  (∀ k y, r = .error (k, y) → e = PF k y) ∧ (∀ q, r = .ok q → e = .returned (.tuple #[]) ∧ ∃ tv iv, TS B P L tv iv w' q) ∧ Below B w w'
theorem beg_sign (r : List UInt8) (h : beg r = true) (h1 : ¬ (r.getD 0 0).toNat = 34) (h2 : isDg (r.getD 0 0) = false) (h3 : isLt (r.getD 0 0) = false) : 0 < sgn r := by
  unfold beg at h
  rw [h2, h3] at h
  simp at h
  rcases h with h | h
  · exact absurd h h1
  · exact h

/-- A text, of what was read. -/
def txtTok (p : Sp) : Except Nat (List UInt8 × Nat) → Except Ft Sp
  | .error x => .error (1, x)
  | .ok (t, x) => .ok { p with pos := x, toks := p.toks ++ [⟨3, t, 0, p.pos⟩] }

/-- Two fields of the token are written. -/
theorem tk_set {B P T : Nat} {L : List UInt8} {tv iv : Value} {w w2 : World} {p : Sp} {n x : Int} {k0 : Int} {t0 : ByteArray} (hPT : P < T ∧ B ≤ P ∧ B ≤ T) (h : TS B P L tv iv w2 p ∧ Below B w w2 ∧ w2.heap[T]? = some (.cells #[.int .i64 k0, .string t0, .int .i64 n, .int .i64 x] 84 (0, 0))) (hn : tv.ownBlock ≠ some T ∧ iv.ownBlock ≠ some T) (k : Int) (t : ByteArray) :
    TS B P L tv iv ((w2.setCell ⟨T, 0, none⟩ (.int .i64 k)).setCell ⟨T, 1, none⟩ (.string t)) p ∧ Below B w ((w2.setCell ⟨T, 0, none⟩ (.int .i64 k)).setCell ⟨T, 1, none⟩ (.string t)) ∧ ((w2.setCell ⟨T, 0, none⟩ (.int .i64 k)).setCell ⟨T, 1, none⟩ (.string t)).heap[T]? = some (.cells #[.int .i64 k, .string t, .int .i64 n, .int .i64 x] 84 (0, 0)) := by
  have k1 : ∀ g : Nat, g ≠ T → ((w2.setCell ⟨T, 0, none⟩ (.int .i64 k)).setCell ⟨T, 1, none⟩ (.string t)).heap[g]? = w2.heap[g]? := fun g hg => (Below.heap_setCell _ ⟨T, 1, none⟩ _ g hg).trans (Below.heap_setCell _ ⟨T, 0, none⟩ _ g hg)
  refine ⟨⟨h.1.hB, (k1 P (by omega)).trans h.1.blk, own_heap h.1.ot fun g hg => k1 g fun e => hn.1 (by rw [hg, e]), own_heap h.1.oi fun g hg => k1 g fun e => hn.2 (by rw [hg, e]), h.1.nt, h.1.ni, h.1.nn⟩, (h.2.1.setCell (p := ⟨T, 0, none⟩) hPT.2.2 _).setCell (p := ⟨T, 1, none⟩) hPT.2.2 _, ?_⟩
  rw [Go.Joins.block_setCell (Go.Joins.block_setCell h.2.2 _)]
  rfl

/-- The token's number is written. -/
theorem tk_num {B P T : Nat} {L : List UInt8} {tv iv : Value} {w w2 : World} {p : Sp} {n x : Int} {k0 : Int} {t0 : ByteArray} (hPT : P < T ∧ B ≤ P ∧ B ≤ T) (h : TS B P L tv iv w2 p ∧ Below B w w2 ∧ w2.heap[T]? = some (.cells #[.int .i64 k0, .string t0, .int .i64 n, .int .i64 x] 84 (0, 0))) (hn : tv.ownBlock ≠ some T ∧ iv.ownBlock ≠ some T) (v : Int) :
    TS B P L tv iv (w2.setCell ⟨T, 2, none⟩ (.int .i64 v)) p ∧ Below B w (w2.setCell ⟨T, 2, none⟩ (.int .i64 v)) ∧ (w2.setCell ⟨T, 2, none⟩ (.int .i64 v)).heap[T]? = some (.cells #[.int .i64 k0, .string t0, .int .i64 v, .int .i64 x] 84 (0, 0)) := by
  have k1 : ∀ g : Nat, g ≠ T → (w2.setCell ⟨T, 2, none⟩ (.int .i64 v)).heap[g]? = w2.heap[g]? := fun g hg => Below.heap_setCell _ ⟨T, 2, none⟩ _ g hg
  refine ⟨⟨h.1.hB, (k1 P (by omega)).trans h.1.blk, own_heap h.1.ot fun g hg => k1 g fun e => hn.1 (by rw [hg, e]), own_heap h.1.oi fun g hg => k1 g fun e => hn.2 (by rw [hg, e]), h.1.nt, h.1.ni, h.1.nn⟩, h.2.1.setCell (p := ⟨T, 2, none⟩) hPT.2.2 _, ?_⟩
  rw [Go.Joins.block_setCell h.2.2]
  rfl

/-- The token's kind is written. -/
theorem tk_kind {B P T : Nat} {L : List UInt8} {tv iv : Value} {w w2 : World} {p : Sp} {n x : Int} {k0 : Int} {t0 : ByteArray} (hPT : P < T ∧ B ≤ P ∧ B ≤ T) (h : TS B P L tv iv w2 p ∧ Below B w w2 ∧ w2.heap[T]? = some (.cells #[.int .i64 k0, .string t0, .int .i64 n, .int .i64 x] 84 (0, 0))) (hn : tv.ownBlock ≠ some T ∧ iv.ownBlock ≠ some T) (v : Int) :
    TS B P L tv iv (w2.setCell ⟨T, 0, none⟩ (.int .i64 v)) p ∧ Below B w (w2.setCell ⟨T, 0, none⟩ (.int .i64 v)) ∧ (w2.setCell ⟨T, 0, none⟩ (.int .i64 v)).heap[T]? = some (.cells #[.int .i64 v, .string t0, .int .i64 n, .int .i64 x] 84 (0, 0)) := by
  have k1 : ∀ g : Nat, g ≠ T → (w2.setCell ⟨T, 0, none⟩ (.int .i64 v)).heap[g]? = w2.heap[g]? := fun g hg => Below.heap_setCell _ ⟨T, 0, none⟩ _ g hg
  refine ⟨⟨h.1.hB, (k1 P (by omega)).trans h.1.blk, own_heap h.1.ot fun g hg => k1 g fun e => hn.1 (by rw [hg, e]), own_heap h.1.oi fun g hg => k1 g fun e => hn.2 (by rw [hg, e]), h.1.nt, h.1.ni, h.1.nn⟩, h.2.1.setCell (p := ⟨T, 0, none⟩) hPT.2.2 _, ?_⟩
  rw [Go.Joins.block_setCell h.2.2]
  rfl

set_option maxHeartbeats 8000000 in
set_option maxRecDepth 100000 in
theorem token_any {B P : Nat} {L : List UInt8} {tv iv : Value} {w : World} {p : Sp} (h : TS B P L tv iv w p) (hL : L.length ≤ 6000) (hp : p.pos < L.length) (hk : p.toks.length ≤ 90000) (ho : p.opn ≤ 1000)
    (hbg : beg (L.drop p.pos) = true) (hni : isDg (L.getD p.pos 0) = true → noInt (L.drop p.pos) = false) (hcl : isCls (L.getD p.pos 0) = true → 0 < p.opn) :
    Calls Tryz.prog 63 #[.pointer (some ⟨P, 0, none⟩)] w fun e w' => StP B P L w (tok1 L p) e w' := by
  have hBl : B ≤ w.heap.size := by have := h.hB; have := h.lt; omega
  obtain ⟨T, hT⟩ : ∃ T, T = w.heap.size := ⟨_, rfl⟩
  have HPT : Hid (P < T ∧ B ≤ P ∧ B ≤ T) := by rw [hT]; exact ⟨h.lt, h.hB, hBl⟩
  have HNT : Hid (tv.ownBlock ≠ some T ∧ iv.ownBlock ≠ some T) := by
    rw [hT]
    exact ⟨fun e => by have := (h.ot.lt _ e).2; omega, fun e => by have := (h.oi.lt _ e).2; omega⟩
  have c0 := h.c0
  have c1 := h.c1
  have hsz := mk_size L
  have hs0 : p.pos < (mkB L).size := by rw [hsz]; exact hp
  have hg := mk_get L p.pos hs0
  have hpi : (p.pos : Int) < (L.length : Int) := by omega
  have hq := c_eq (L.getD p.pos 0) 34
  have hq' : (((L.getD p.pos 0).toNat : Int) == 34) = decide ((L.getD p.pos 0).toNat = 34) := hq
  have hTw : w.heap.size = T := hT.symm
  have H : Hid (TS B P L tv iv w p) := h
  clear hT h hq
  have HW0 : Hid (TS B P L tv iv (w.alloc (.cells #[.int .i64 0, .string ⟨#[]⟩, .int .i64 0, .int .i64 (p.pos : Int)] 84)) p ∧ Below B w (w.alloc (.cells #[.int .i64 0, .string ⟨#[]⟩, .int .i64 0, .int .i64 (p.pos : Int)] 84)) ∧ (w.alloc (.cells #[.int .i64 0, .string ⟨#[]⟩, .int .i64 0, .int .i64 (p.pos : Int)] 84)).heap[T]? = some (.cells #[.int .i64 0, .string ⟨#[]⟩, .int .i64 0, .int .i64 (p.pos : Int)] 84 (0, 0))) := ⟨H.out.up ((Below.refl _ _).alloc (Nat.le_refl _) _), (Below.refl _ _).alloc hBl _, by rw [← hTw]; exact heap_alloc_new w _⟩
  have HRV : Hid (tok1 L p = if (L.getD p.pos 0).toNat = 34 then (match txt ((L.drop p.pos).length + 1) ((L.drop p.pos).drop 1) [] (p.pos + 1) with | .error x => .error (1, x) | .ok (t, x) => .ok { p with pos := x, toks := p.toks ++ [⟨3, t, 0, p.pos⟩] }) else if isDg (L.getD p.pos 0) then .ok { p with pos := p.pos + rch isDg (L.drop p.pos), toks := p.toks ++ [⟨2, (L.drop p.pos).take (rch isDg (L.drop p.pos)), valD 0 ((L.drop p.pos).take (rch isDg (L.drop p.pos))), p.pos⟩] } else if isLt (L.getD p.pos 0) then .ok { p with pos := p.pos + rch isNm (L.drop p.pos), toks := p.toks ++ [⟨bif isWd ((L.drop p.pos).take (rch isNm (L.drop p.pos))) then 5 else 1, (L.drop p.pos).take (rch isNm (L.drop p.pos)), 0, p.pos⟩] } else .ok { p with pos := p.pos + sgn (L.drop p.pos), toks := p.toks ++ [⟨4, (L.drop p.pos).take (sgn (L.drop p.pos)), 0, p.pos⟩], opn := if isOpn (L.getD p.pos 0) then p.opn + 1 else if isCls (L.getD p.pos 0) then p.opn - 1 else p.opn }) := by
    unfold tok1
    simp only [at_drop]
    rfl
  have HW0 : Hid (TS B P L tv iv (w.alloc (.cells #[.int .i64 0, .string ⟨#[]⟩, .int .i64 0, .int .i64 (p.pos : Int)] 84)) p ∧ Below B w (w.alloc (.cells #[.int .i64 0, .string ⟨#[]⟩, .int .i64 0, .int .i64 (p.pos : Int)] 84)) ∧ (w.alloc (.cells #[.int .i64 0, .string ⟨#[]⟩, .int .i64 0, .int .i64 (p.pos : Int)] 84)).heap[T]? = some (.cells #[.int .i64 0, .string ⟨#[]⟩, .int .i64 0, .int .i64 (p.pos : Int)] 84 (0, 0))) := ⟨H.out.up ((Below.refl _ _).alloc (Nat.le_refl _) _), (Below.refl _ _).alloc hBl _, by rw [← hTw]; exact heap_alloc_new w _⟩
  have HRV : Hid (tok1 L p = if (L.getD p.pos 0).toNat = 34 then (match txt ((L.drop p.pos).length + 1) ((L.drop p.pos).drop 1) [] (p.pos + 1) with | .error x => .error (1, x) | .ok (t, x) => .ok { p with pos := x, toks := p.toks ++ [⟨3, t, 0, p.pos⟩] }) else if isDg (L.getD p.pos 0) then .ok { p with pos := p.pos + rch isDg (L.drop p.pos), toks := p.toks ++ [⟨2, (L.drop p.pos).take (rch isDg (L.drop p.pos)), valD 0 ((L.drop p.pos).take (rch isDg (L.drop p.pos))), p.pos⟩] } else if isLt (L.getD p.pos 0) then .ok { p with pos := p.pos + rch isNm (L.drop p.pos), toks := p.toks ++ [⟨bif isWd ((L.drop p.pos).take (rch isNm (L.drop p.pos))) then 5 else 1, (L.drop p.pos).take (rch isNm (L.drop p.pos)), 0, p.pos⟩] } else .ok { p with pos := p.pos + sgn (L.drop p.pos), toks := p.toks ++ [⟨4, (L.drop p.pos).take (sgn (L.drop p.pos)), 0, p.pos⟩], opn := if isOpn (L.getD p.pos 0) then p.opn + 1 else if isCls (L.getD p.pos 0) then p.opn - 1 else p.opn }) := by
    unfold tok1
    simp only [at_drop]
    rfl
  have HW0 : Hid (TS B P L tv iv (w.alloc (.cells #[.int .i64 0, .string ⟨#[]⟩, .int .i64 0, .int .i64 (p.pos : Int)] 84)) p ∧ Below B w (w.alloc (.cells #[.int .i64 0, .string ⟨#[]⟩, .int .i64 0, .int .i64 (p.pos : Int)] 84)) ∧ (w.alloc (.cells #[.int .i64 0, .string ⟨#[]⟩, .int .i64 0, .int .i64 (p.pos : Int)] 84)).heap[T]? = some (.cells #[.int .i64 0, .string ⟨#[]⟩, .int .i64 0, .int .i64 (p.pos : Int)] 84 (0, 0))) := ⟨H.out.up ((Below.refl _ _).alloc (Nat.le_refl _) _), (Below.refl _ _).alloc hBl _, by rw [← hTw]; exact heap_alloc_new w _⟩
  have HRV : Hid (tok1 L p = if (L.getD p.pos 0).toNat = 34 then (match txt ((L.drop p.pos).length + 1) ((L.drop p.pos).drop 1) [] (p.pos + 1) with | .error x => .error (1, x) | .ok (t, x) => .ok { p with pos := x, toks := p.toks ++ [⟨3, t, 0, p.pos⟩] }) else if isDg (L.getD p.pos 0) then .ok { p with pos := p.pos + rch isDg (L.drop p.pos), toks := p.toks ++ [⟨2, (L.drop p.pos).take (rch isDg (L.drop p.pos)), valD 0 ((L.drop p.pos).take (rch isDg (L.drop p.pos))), p.pos⟩] } else if isLt (L.getD p.pos 0) then .ok { p with pos := p.pos + rch isNm (L.drop p.pos), toks := p.toks ++ [⟨bif isWd ((L.drop p.pos).take (rch isNm (L.drop p.pos))) then 5 else 1, (L.drop p.pos).take (rch isNm (L.drop p.pos)), 0, p.pos⟩] } else .ok { p with pos := p.pos + sgn (L.drop p.pos), toks := p.toks ++ [⟨4, (L.drop p.pos).take (sgn (L.drop p.pos)), 0, p.pos⟩], opn := if isOpn (L.getD p.pos 0) then p.opn + 1 else if isCls (L.getD p.pos 0) then p.opn - 1 else p.opn }) := by
    unfold tok1
    simp only [at_drop]
    rfl
  have HW0 : Hid (TS B P L tv iv (w.alloc (.cells #[.int .i64 0, .string ⟨#[]⟩, .int .i64 0, .int .i64 (p.pos : Int)] 84)) p ∧ Below B w (w.alloc (.cells #[.int .i64 0, .string ⟨#[]⟩, .int .i64 0, .int .i64 (p.pos : Int)] 84)) ∧ (w.alloc (.cells #[.int .i64 0, .string ⟨#[]⟩, .int .i64 0, .int .i64 (p.pos : Int)] 84)).heap[T]? = some (.cells #[.int .i64 0, .string ⟨#[]⟩, .int .i64 0, .int .i64 (p.pos : Int)] 84 (0, 0))) := ⟨H.out.up ((Below.refl _ _).alloc (Nat.le_refl _) _), (Below.refl _ _).alloc hBl _, by rw [← hTw]; exact heap_alloc_new w _⟩
  have HRV : Hid (tok1 L p = if (L.getD p.pos 0).toNat = 34 then (match txt ((L.drop p.pos).length + 1) ((L.drop p.pos).drop 1) [] (p.pos + 1) with | .error x => .error (1, x) | .ok (t, x) => .ok { p with pos := x, toks := p.toks ++ [⟨3, t, 0, p.pos⟩] }) else if isDg (L.getD p.pos 0) then .ok { p with pos := p.pos + rch isDg (L.drop p.pos), toks := p.toks ++ [⟨2, (L.drop p.pos).take (rch isDg (L.drop p.pos)), valD 0 ((L.drop p.pos).take (rch isDg (L.drop p.pos))), p.pos⟩] } else if isLt (L.getD p.pos 0) then .ok { p with pos := p.pos + rch isNm (L.drop p.pos), toks := p.toks ++ [⟨bif isWd ((L.drop p.pos).take (rch isNm (L.drop p.pos))) then 5 else 1, (L.drop p.pos).take (rch isNm (L.drop p.pos)), 0, p.pos⟩] } else .ok { p with pos := p.pos + sgn (L.drop p.pos), toks := p.toks ++ [⟨4, (L.drop p.pos).take (sgn (L.drop p.pos)), 0, p.pos⟩], opn := if isOpn (L.getD p.pos 0) then p.opn + 1 else if isCls (L.getD p.pos 0) then p.opn - 1 else p.opn }) := by
    unfold tok1
    simp only [at_drop]
    rfl
  have HW0 : Hid (TS B P L tv iv (w.alloc (.cells #[.int .i64 0, .string ⟨#[]⟩, .int .i64 0, .int .i64 (p.pos : Int)] 84)) p ∧ Below B w (w.alloc (.cells #[.int .i64 0, .string ⟨#[]⟩, .int .i64 0, .int .i64 (p.pos : Int)] 84)) ∧ (w.alloc (.cells #[.int .i64 0, .string ⟨#[]⟩, .int .i64 0, .int .i64 (p.pos : Int)] 84)).heap[T]? = some (.cells #[.int .i64 0, .string ⟨#[]⟩, .int .i64 0, .int .i64 (p.pos : Int)] 84 (0, 0))) := ⟨H.out.up ((Below.refl _ _).alloc (Nat.le_refl _) _), (Below.refl _ _).alloc hBl _, by rw [← hTw]; exact heap_alloc_new w _⟩
  have HRV : Hid (tok1 L p = if (L.getD p.pos 0).toNat = 34 then (match txt ((L.drop p.pos).length + 1) ((L.drop p.pos).drop 1) [] (p.pos + 1) with | .error x => .error (1, x) | .ok (t, x) => .ok { p with pos := x, toks := p.toks ++ [⟨3, t, 0, p.pos⟩] }) else if isDg (L.getD p.pos 0) then .ok { p with pos := p.pos + rch isDg (L.drop p.pos), toks := p.toks ++ [⟨2, (L.drop p.pos).take (rch isDg (L.drop p.pos)), valD 0 ((L.drop p.pos).take (rch isDg (L.drop p.pos))), p.pos⟩] } else if isLt (L.getD p.pos 0) then .ok { p with pos := p.pos + rch isNm (L.drop p.pos), toks := p.toks ++ [⟨bif isWd ((L.drop p.pos).take (rch isNm (L.drop p.pos))) then 5 else 1, (L.drop p.pos).take (rch isNm (L.drop p.pos)), 0, p.pos⟩] } else .ok { p with pos := p.pos + sgn (L.drop p.pos), toks := p.toks ++ [⟨4, (L.drop p.pos).take (sgn (L.drop p.pos)), 0, p.pos⟩], opn := if isOpn (L.getD p.pos 0) then p.opn + 1 else if isCls (L.getD p.pos 0) then p.opn - 1 else p.opn }) := by
    unfold tok1
    simp only [at_drop]
    rfl
  have HW0 : Hid (TS B P L tv iv (w.alloc (.cells #[.int .i64 0, .string ⟨#[]⟩, .int .i64 0, .int .i64 (p.pos : Int)] 84)) p ∧ Below B w (w.alloc (.cells #[.int .i64 0, .string ⟨#[]⟩, .int .i64 0, .int .i64 (p.pos : Int)] 84)) ∧ (w.alloc (.cells #[.int .i64 0, .string ⟨#[]⟩, .int .i64 0, .int .i64 (p.pos : Int)] 84)).heap[T]? = some (.cells #[.int .i64 0, .string ⟨#[]⟩, .int .i64 0, .int .i64 (p.pos : Int)] 84 (0, 0))) := ⟨H.out.up ((Below.refl _ _).alloc (Nat.le_refl _) _), (Below.refl _ _).alloc hBl _, by rw [← hTw]; exact heap_alloc_new w _⟩
  have HRV : Hid (tok1 L p = if (L.getD p.pos 0).toNat = 34 then (match txt ((L.drop p.pos).length + 1) ((L.drop p.pos).drop 1) [] (p.pos + 1) with | .error x => .error (1, x) | .ok (t, x) => .ok { p with pos := x, toks := p.toks ++ [⟨3, t, 0, p.pos⟩] }) else if isDg (L.getD p.pos 0) then .ok { p with pos := p.pos + rch isDg (L.drop p.pos), toks := p.toks ++ [⟨2, (L.drop p.pos).take (rch isDg (L.drop p.pos)), valD 0 ((L.drop p.pos).take (rch isDg (L.drop p.pos))), p.pos⟩] } else if isLt (L.getD p.pos 0) then .ok { p with pos := p.pos + rch isNm (L.drop p.pos), toks := p.toks ++ [⟨bif isWd ((L.drop p.pos).take (rch isNm (L.drop p.pos))) then 5 else 1, (L.drop p.pos).take (rch isNm (L.drop p.pos)), 0, p.pos⟩] } else .ok { p with pos := p.pos + sgn (L.drop p.pos), toks := p.toks ++ [⟨4, (L.drop p.pos).take (sgn (L.drop p.pos)), 0, p.pos⟩], opn := if isOpn (L.getD p.pos 0) then p.opn + 1 else if isCls (L.getD p.pos 0) then p.opn - 1 else p.opn }) := by
    unfold tok1
    simp only [at_drop]
    rfl
  by_cases hc34 : (L.getD p.pos 0).toNat = 34
  · rw [show decide ((L.getD p.pos 0).toNat = 34) = true from by simpa using hc34] at hq'
    obtain ⟨R, hR⟩ : ∃ R, R = txt ((L.drop p.pos).length + 1) ((L.drop p.pos).drop 1) [] (p.pos + 1) := ⟨_, rfl⟩
    have HR : Hid (tok1 L p = txtTok p R) := by
      show _ = _
      rw [HRV.out, if_pos hc34, hR]
      rfl
    clear HRV
    generalize L.getD p.pos 0 = c at *
    clear hc34 hbg hni hcl
    go_enter Tryz.func63, Tryz.ntmps63
    go_wp2
    generalize w.alloc (.cells #[.int .i64 0, .string ⟨#[]⟩, .int .i64 0, .int .i64 (p.pos : Int)] 84) = w0 at *
    have c0 := HW0.out.1.c0
    have c1 := HW0.out.1.c1
    go_quiet (fail)
    have HW1 : Hid (TS B P L tv iv (w0.drewN nq) p ∧ Below B w (w0.drewN nq) ∧ (w0.drewN nq).heap[T]? = some (.cells #[.int .i64 0, .string ⟨#[]⟩, .int .i64 0, .int .i64 (p.pos : Int)] 84 (0, 0))) := ⟨HW0.out.1.drewN nq, below_drewN HW0.out.2.1 nq, HW0.out.2.2⟩
    generalize w0.drewN nq = w1 at *
    clear c0 c1 HW0
    have HTx : Hid (Calls Tryz.prog 98 #[.pointer (some ⟨P, 0, none⟩)] w1 fun e w' => TxtP B P L tv iv w1 p R e w') := by rw [hR]; exact text_any HW1.out.1 hL hp
    clear hR
    cases R with
    | error y =>
      have HRe : Hid (tok1 L p = .error (1, y)) := HR.out
      go_wp2_with fail
      refine HTx.out.mono ?_
      rintro e w2 ⟨h1, -, hb2, -⟩
      obtain rfl := h1 y rfl
      go_wp2
      refine ⟨rfl, fun k z hz => ?_, fun q hq => ?_, HW1.out.2.1.trans hb2⟩
      · rw [HRe.out] at hz; cases hz; rfl
      · rw [HRe.out] at hq; cases hq
    | ok pr =>
      obtain ⟨tl, y⟩ := pr
      have HRe : Hid (tok1 L p = .ok { p with pos := y, toks := p.toks ++ [⟨3, tl, 0, p.pos⟩] }) := HR.out
      go_wp2_with fail
      refine HTx.out.mono ?_
      rintro e w2 ⟨-, h2, hb2, ho2⟩
      obtain ⟨rfl, hts2, -⟩ := h2 tl y rfl
      have HW2 : Hid (TS B P L tv iv w2 { p with pos := y } ∧ Below B w w2 ∧ w2.heap[T]? = some (.cells #[.int .i64 0, .string ⟨#[]⟩, .int .i64 0, .int .i64 (p.pos : Int)] 84 (0, 0))) := ⟨hts2, HW1.out.2.1.trans hb2, (ho2 T (Array.getElem?_eq_some_iff.1 HW1.out.2.2).1 (by have := HPT.out.1; omega)).trans HW1.out.2.2⟩
      clear hts2 hb2 ho2 HTx HW1 HR
      have y0 : w2.cell? ⟨T, 0, none⟩ = some (.int .i64 0) := by rw [Lib.cell_of_heap HW2.out.2.2]; rfl
      have y1 : w2.cell? ⟨T, 1, none⟩ = some (.string ⟨#[]⟩) := by rw [Lib.cell_of_heap HW2.out.2.2]; rfl
      have yf0 : w2.frozen? ⟨T, 0, none⟩ = false := Lib.frozen_of_heap HW2.out.2.2 0
      have yf1 : w2.frozen? ⟨T, 1, none⟩ = false := Lib.frozen_of_heap HW2.out.2.2 1
      have HF : Hid (TS B P L tv iv ((w2.setCell ⟨T, 0, none⟩ (.int .i64 3)).setCell ⟨T, 1, none⟩ (.string (mkB tl))) { p with pos := y } ∧ Below B w ((w2.setCell ⟨T, 0, none⟩ (.int .i64 3)).setCell ⟨T, 1, none⟩ (.string (mkB tl))) ∧ ((w2.setCell ⟨T, 0, none⟩ (.int .i64 3)).setCell ⟨T, 1, none⟩ (.string (mkB tl))).heap[T]? = some (.cells #[.int .i64 3, .string (mkB tl), .int .i64 0, .int .i64 (p.pos : Int)] 84 (0, 0))) := tk_set HPT.out HW2.out HNT.out 3 (mkB tl)
      clear HW2
      go_wp2
      generalize (w2.setCell ⟨T, 0, none⟩ (.int .i64 3)).setCell ⟨T, 1, none⟩ (.string (mkB tl)) = w3 at *
      clear y0 y1 yf0 yf1
      have e2 := HF.out.1.c2
      have z0 : w3.cell? ⟨T, 0, none⟩ = some (.int .i64 3) := by rw [Lib.cell_of_heap HF.out.2.2]; rfl
      have z1 : w3.cell? ⟨T, 1, none⟩ = some (.string (mkB tl)) := by rw [Lib.cell_of_heap HF.out.2.2]; rfl
      have z2 : w3.cell? ⟨T, 2, none⟩ = some (.int .i64 0) := by rw [Lib.cell_of_heap HF.out.2.2]; rfl
      have z3 : w3.cell? ⟨T, 3, none⟩ = some (.int .i64 (p.pos : Int)) := by rw [Lib.cell_of_heap HF.out.2.2]; rfl
      have hPW := HF.out.1.lt
      have hTW : T < w3.heap.size := (Array.getElem?_eq_some_iff.1 HF.out.2.2).1
      obtain ⟨hOW, hNW, hPUT, hP1, q3, q4⟩ := tail_facts HF.out.1 ⟨3, tl, 0, p.pos⟩
      have HOW : Hid (((w3.alloc (.cells #[.int .i64 3, .string (mkB tl), .int .i64 0, .int .i64 (p.pos : Int)] 84)).drew).ownsRow B 84 4 tv p.toks.length (tcs p.toks)) := hOW
      have HNW : Hid (∀ (j : Nat) (u : Value), (tc ⟨3, tl, 0, p.pos⟩)[j]? = some u → ((w3.alloc (.cells #[.int .i64 3, .string (mkB tl), .int .i64 0, .int .i64 (p.pos : Int)] 84)).drew).cell? ((⟨w3.heap.size, 0, none⟩ : Addr).add j) = some u) := hNW
      have HPUT : Hid (∀ {w8 w9 : World} {g1 cap1 : Nat}, w8.ownsRow B 84 4 (.slice (some ⟨g1, 0, none⟩) (p.toks.length + 1) cap1) (p.toks.length + 1) (tcs p.toks ++ tc ⟨3, tl, 0, p.pos⟩) → ((w3.alloc (.cells #[.int .i64 3, .string (mkB tl), .int .i64 0, .int .i64 (p.pos : Int)] 84)).drew).grownBy w8 tv.ownBlock → (tv.ownBlock = some g1 ∨ g1 = w3.heap.size + 1) → (∀ g : Nat, w9.heap[g]? = (w8.setCell ⟨P, 2, none⟩ (.slice (some ⟨g1, 0, none⟩) (p.toks.length + 1) cap1)).heap[g]?) → TS B P L (.slice (some ⟨g1, 0, none⟩) (p.toks.length + 1) cap1) iv w9 { { p with pos := y } with toks := p.toks ++ [⟨3, tl, 0, p.pos⟩] }) := hPUT
      have HP1 : Hid (∀ {w8 : World}, ((w3.alloc (.cells #[.int .i64 3, .string (mkB tl), .int .i64 0, .int .i64 (p.pos : Int)] 84)).drew).grownBy w8 tv.ownBlock → w8.cell? ⟨P, 2, none⟩ = some tv ∧ w8.frozen? ⟨P, 2, none⟩ = false ∧ Below B w3 w8) := hP1
      have q3' : B ≤ ((w3.alloc (.cells #[.int .i64 3, .string (mkB tl), .int .i64 0, .int .i64 (p.pos : Int)] 84)).drew).heap.size := q3
      have q4' : ((w3.alloc (.cells #[.int .i64 3, .string (mkB tl), .int .i64 0, .int .i64 (p.pos : Int)] 84)).drew).heap.size = w3.heap.size + 1 := q4
      have hone := tc_one ⟨3, tl, 0, p.pos⟩
      have hnl : (tc ⟨3, tl, 0, p.pos⟩).length = 1 * 4 := rfl
      obtain ⟨i0, hi, hz0, hz1, hz2⟩ := info_p infT
      have q1 : p.toks.length + 1 ≤ maxLen := by unfold maxLen; omega
      have q2 : (p.toks.length + 1) * 40 ≤ 140737488355328 := by omega
      generalize tc ⟨3, tl, 0, p.pos⟩ = news at *
      clear hOW hNW hPUT hP1 q3 q4
      go_wp2
      go_region_law (first
          | ((refine step_append_lies ((w3.alloc (.cells #[.int .i64 3, .string (mkB tl), .int .i64 0, .int .i64 (p.pos : Int)] 84)).drew) (by rfl) (Operand.tmp 58) (Operand.tmp 60) 48 (by rfl) B 84 i0 (.agg #[.int .i64 0, .string ⟨#[]⟩, .int .i64 0, .int .i64 0]) 4 40 Tryz.underlying48 hi hz0 hz1 hz2 rfl (by decide) tv p.toks.length (tcs p.toks) (by rfl) HOW.out ⟨w3.heap.size, 0, none⟩ 1 1 news (by rfl) hnl HNW.out hone (by decide) q1 q2 q3' (w3.heap.size + 1) q4' ?_; intro g' cap' w8 hown8 hgrow8 hat8 hltg8; obtain ⟨d2, f2, hb8⟩ := HP1.out hgrow8))
          | fail)
      all_goals
        have HG : Hid (TS B P L (.slice (some ⟨g', 0, none⟩) (p.toks.length + 1) cap') iv (w8.setCell ⟨P, 2, none⟩ (.slice (some ⟨g', 0, none⟩) (p.toks.length + 1) cap')) { { p with pos := y } with toks := p.toks ++ [⟨3, tl, 0, p.pos⟩] } ∧ Below B w (w8.setCell ⟨P, 2, none⟩ (.slice (some ⟨g', 0, none⟩) (p.toks.length + 1) cap'))) := ⟨HPUT.out hown8 hgrow8 hat8 (fun g => rfl), (HF.out.2.1.trans hb8).setCell (p := ⟨P, 2, none⟩) HPT.out.2.1 _⟩
        clear hown8 hgrow8 hat8 hb8 hltg8
        go_wp2
        go_end0
        refine ⟨fun k z hz => ?_, fun q hq => ?_, HG.out.2⟩
        · rw [HRe.out] at hz; cases hz
        · rw [HRe.out] at hq
          cases hq
          exact ⟨rfl, _, _, HG.out.1⟩
  · rw [show decide ((L.getD p.pos 0).toNat = 34) = false from by simpa using hc34] at hq'
    have hdl : (L.drop p.pos).length = L.length - p.pos := List.length_drop
    have hrl : 0 < (L.drop p.pos).length := by omega
    cases hd : isDg (L.getD p.pos 0) with
    | true =>
      have HRe : Hid (tok1 L p = .ok { p with pos := p.pos + rch isDg (L.drop p.pos), toks := p.toks ++ [⟨2, (L.drop p.pos).take (rch isDg (L.drop p.pos)), valD 0 ((L.drop p.pos).take (rch isDg (L.drop p.pos))), p.pos⟩] }) := by
        show _ = _
        rw [HRV.out, if_neg hc34, if_pos hd]
      have HD1 : Hid (∀ W, Calls Tryz.prog 95 #[.int .u8 (L.getD p.pos 0).toNat] W fun e w' => e = .returned (.bool true) ∧ w' = W) := fun W => by rw [← hd]; exact isDigit_any _ W
      have HTk : Hid (∀ W, TS B P L tv iv W p → Calls Tryz.prog 88 #[.pointer (some ⟨P, 0, none⟩), .func (.func 95) #[] #[]] W fun e w' => e = .returned (.string (mkB ((L.drop p.pos).take (rch isDg (L.drop p.pos))))) ∧ TS B P L tv iv w' { p with pos := p.pos + rch isDg (L.drop p.pos) } ∧ Below B W w' ∧ ∀ g : Nat, g ≠ P → w'.heap[g]? = W.heap[g]?) := fun W hW => take_any hW hL (Nat.le_of_lt hp) _ _ fun W' _ => says_digit W'
      have hv : valD 0 ((L.drop p.pos).take (rch isDg (L.drop p.pos))) ≤ 9007199254740991 := by
        have := hni hd
        unfold noInt at this
        simp at this
        exact this.1
      have hkl := rch_le isDg (L.drop p.pos)
      have hk0 : 0 < rch isDg (L.drop p.pos) := rch_pos hrl (by rw [at_drop]; exact hd)
      have HAt : Hid (∀ W, Calls Tryz.prog 99 #[.string (mkB ((L.drop p.pos).take (rch isDg (L.drop p.pos))))] W fun e w' => e = .returned (.tuple #[.int .i64 (valD 0 ((L.drop p.pos).take (rch isDg (L.drop p.pos)))), .nilIface]) ∧ Below W.heap.size W w') := fun W => atoi_ok _ W (fun h0 => by have := congrArg List.length h0; rw [List.length_take, Nat.min_eq_left hkl] at this; simp at this; omega) (take_dig _) (by rw [List.length_take, Nat.min_eq_left hkl]; omega) (by omega)
      clear HRV hd hni hbg hcl hc34 hkl hk0 hdl hrl
      generalize L.getD p.pos 0 = c at *
      generalize (L.drop p.pos).take (rch isDg (L.drop p.pos)) = tl at *
      generalize valD 0 tl = v at *
      generalize p.pos + rch isDg (L.drop p.pos) = y at *
      go_enter Tryz.func63, Tryz.ntmps63
      go_wp2
      generalize w.alloc (.cells #[.int .i64 0, .string ⟨#[]⟩, .int .i64 0, .int .i64 (p.pos : Int)] 84) = w0 at *
      have c0 := HW0.out.1.c0
      have c1 := HW0.out.1.c1
      go_quiet (fail)
      have HW1 : Hid (TS B P L tv iv (w0.drewN nq) p ∧ Below B w (w0.drewN nq) ∧ (w0.drewN nq).heap[T]? = some (.cells #[.int .i64 0, .string ⟨#[]⟩, .int .i64 0, .int .i64 (p.pos : Int)] 84 (0, 0))) := ⟨HW0.out.1.drewN nq, below_drewN HW0.out.2.1 nq, HW0.out.2.2⟩
      generalize w0.drewN nq = w1 at *
      clear c0 c1 HW0
      go_wp2_with (first
        | (go_at_call 95; refine (HD1.out _).mono ?_; rintro e w' ⟨rfl, rfl⟩)
        | fail)
      refine (HTk.out _ HW1.out.1).mono ?_
      rintro e w2 ⟨rfl, hts2, hb2, ho2⟩
      have HW2 : Hid (TS B P L tv iv w2 { p with pos := y } ∧ Below B w w2 ∧ w2.heap[T]? = some (.cells #[.int .i64 0, .string ⟨#[]⟩, .int .i64 0, .int .i64 (p.pos : Int)] 84 (0, 0))) := ⟨hts2, HW1.out.2.1.trans hb2, (ho2 T (by have := HPT.out.1; omega)).trans HW1.out.2.2⟩
      clear hts2 hb2 ho2 HTk HW1 HD1
      have y0 : w2.cell? ⟨T, 0, none⟩ = some (.int .i64 0) := by rw [Lib.cell_of_heap HW2.out.2.2]; rfl
      have y1 : w2.cell? ⟨T, 1, none⟩ = some (.string ⟨#[]⟩) := by rw [Lib.cell_of_heap HW2.out.2.2]; rfl
      have yf0 : w2.frozen? ⟨T, 0, none⟩ = false := Lib.frozen_of_heap HW2.out.2.2 0
      have yf1 : w2.frozen? ⟨T, 1, none⟩ = false := Lib.frozen_of_heap HW2.out.2.2 1
      have HW3 : Hid (TS B P L tv iv ((w2.setCell ⟨T, 0, none⟩ (.int .i64 2)).setCell ⟨T, 1, none⟩ (.string (mkB tl))) { p with pos := y } ∧ Below B w ((w2.setCell ⟨T, 0, none⟩ (.int .i64 2)).setCell ⟨T, 1, none⟩ (.string (mkB tl))) ∧ ((w2.setCell ⟨T, 0, none⟩ (.int .i64 2)).setCell ⟨T, 1, none⟩ (.string (mkB tl))).heap[T]? = some (.cells #[.int .i64 2, .string (mkB tl), .int .i64 0, .int .i64 (p.pos : Int)] 84 (0, 0))) := tk_set HPT.out HW2.out HNT.out 2 (mkB tl)
      clear HW2
      have hw3 : ((w2.setCell ⟨T, 0, none⟩ (.int .i64 2)).setCell ⟨T, 1, none⟩ (.string (mkB tl))).cell? ⟨T, 1, none⟩ = some (.string (mkB tl)) := by rw [Lib.cell_of_heap HW3.out.2.2]; rfl
      go_wp2_with fail
      clear y0 y1 yf0 yf1
      refine (HAt.out _).mono ?_
      rintro e w4 ⟨rfl, hb4⟩
      have HW4 : Hid (TS B P L tv iv w4 { p with pos := y } ∧ Below B w w4 ∧ w4.heap[T]? = some (.cells #[.int .i64 2, .string (mkB tl), .int .i64 0, .int .i64 (p.pos : Int)] 84 (0, 0))) := ⟨HW3.out.1.up hb4, HW3.out.2.1.trans (hb4.mono (by have := HW3.out.1.lt; have := HPT.out.2.1; omega)), (hb4.block T (Array.getElem?_eq_some_iff.1 HW3.out.2.2).1).trans HW3.out.2.2⟩
      clear hb4 HW3 HAt hw3
      have y2 : w4.cell? ⟨T, 2, none⟩ = some (.int .i64 0) := by rw [Lib.cell_of_heap HW4.out.2.2]; rfl
      have yf2 : w4.frozen? ⟨T, 2, none⟩ = false := Lib.frozen_of_heap HW4.out.2.2 2
      have HF : Hid (TS B P L tv iv (w4.setCell ⟨T, 2, none⟩ (.int .i64 v)) { p with pos := y } ∧ Below B w (w4.setCell ⟨T, 2, none⟩ (.int .i64 v)) ∧ (w4.setCell ⟨T, 2, none⟩ (.int .i64 v)).heap[T]? = some (.cells #[.int .i64 2, .string (mkB tl), .int .i64 v, .int .i64 (p.pos : Int)] 84 (0, 0))) := tk_num HPT.out HW4.out HNT.out v
      clear HW4
      go_wp2
      generalize w4.setCell ⟨T, 2, none⟩ (.int .i64 v) = w3 at *
      clear y2 yf2
      have e2 := HF.out.1.c2
      have z0 : w3.cell? ⟨T, 0, none⟩ = some (.int .i64 2) := by rw [Lib.cell_of_heap HF.out.2.2]; rfl
      have z1 : w3.cell? ⟨T, 1, none⟩ = some (.string (mkB tl)) := by rw [Lib.cell_of_heap HF.out.2.2]; rfl
      have z2 : w3.cell? ⟨T, 2, none⟩ = some (.int .i64 (v : Int)) := by rw [Lib.cell_of_heap HF.out.2.2]; rfl
      have z3 : w3.cell? ⟨T, 3, none⟩ = some (.int .i64 (p.pos : Int)) := by rw [Lib.cell_of_heap HF.out.2.2]; rfl
      have hPW := HF.out.1.lt
      have hTW : T < w3.heap.size := (Array.getElem?_eq_some_iff.1 HF.out.2.2).1
      obtain ⟨hOW, hNW, hPUT, hP1, q3, q4⟩ := tail_facts HF.out.1 ⟨2, tl, v, p.pos⟩
      have HOW : Hid (((w3.alloc (.cells #[.int .i64 2, .string (mkB tl), .int .i64 (v : Int), .int .i64 (p.pos : Int)] 84)).drew).ownsRow B 84 4 tv p.toks.length (tcs p.toks)) := hOW
      have HNW : Hid (∀ (j : Nat) (u : Value), (tc ⟨2, tl, v, p.pos⟩)[j]? = some u → ((w3.alloc (.cells #[.int .i64 2, .string (mkB tl), .int .i64 (v : Int), .int .i64 (p.pos : Int)] 84)).drew).cell? ((⟨w3.heap.size, 0, none⟩ : Addr).add j) = some u) := hNW
      have HPUT : Hid (∀ {w8 w9 : World} {g1 cap1 : Nat}, w8.ownsRow B 84 4 (.slice (some ⟨g1, 0, none⟩) (p.toks.length + 1) cap1) (p.toks.length + 1) (tcs p.toks ++ tc ⟨2, tl, v, p.pos⟩) → ((w3.alloc (.cells #[.int .i64 2, .string (mkB tl), .int .i64 (v : Int), .int .i64 (p.pos : Int)] 84)).drew).grownBy w8 tv.ownBlock → (tv.ownBlock = some g1 ∨ g1 = w3.heap.size + 1) → (∀ g : Nat, w9.heap[g]? = (w8.setCell ⟨P, 2, none⟩ (.slice (some ⟨g1, 0, none⟩) (p.toks.length + 1) cap1)).heap[g]?) → TS B P L (.slice (some ⟨g1, 0, none⟩) (p.toks.length + 1) cap1) iv w9 { { p with pos := y } with toks := p.toks ++ [⟨2, tl, v, p.pos⟩] }) := hPUT
      have HP1 : Hid (∀ {w8 : World}, ((w3.alloc (.cells #[.int .i64 2, .string (mkB tl), .int .i64 (v : Int), .int .i64 (p.pos : Int)] 84)).drew).grownBy w8 tv.ownBlock → w8.cell? ⟨P, 2, none⟩ = some tv ∧ w8.frozen? ⟨P, 2, none⟩ = false ∧ Below B w3 w8) := hP1
      have q3' : B ≤ ((w3.alloc (.cells #[.int .i64 2, .string (mkB tl), .int .i64 (v : Int), .int .i64 (p.pos : Int)] 84)).drew).heap.size := q3
      have q4' : ((w3.alloc (.cells #[.int .i64 2, .string (mkB tl), .int .i64 (v : Int), .int .i64 (p.pos : Int)] 84)).drew).heap.size = w3.heap.size + 1 := q4
      have hone := tc_one ⟨2, tl, v, p.pos⟩
      have hnl : (tc ⟨2, tl, v, p.pos⟩).length = 1 * 4 := rfl
      obtain ⟨i0, hi, hz0, hz1, hz2⟩ := info_p infT
      have q1 : p.toks.length + 1 ≤ maxLen := by unfold maxLen; omega
      have q2 : (p.toks.length + 1) * 40 ≤ 140737488355328 := by omega
      generalize tc ⟨2, tl, v, p.pos⟩ = news at *
      clear hOW hNW hPUT hP1 q3 q4
      go_wp2
      go_region_law (first
          | ((refine step_append_lies ((w3.alloc (.cells #[.int .i64 2, .string (mkB tl), .int .i64 (v : Int), .int .i64 (p.pos : Int)] 84)).drew) (by rfl) (Operand.tmp 58) (Operand.tmp 60) 48 (by rfl) B 84 i0 (.agg #[.int .i64 0, .string ⟨#[]⟩, .int .i64 0, .int .i64 0]) 4 40 Tryz.underlying48 hi hz0 hz1 hz2 rfl (by decide) tv p.toks.length (tcs p.toks) (by rfl) HOW.out ⟨w3.heap.size, 0, none⟩ 1 1 news (by rfl) hnl HNW.out hone (by decide) q1 q2 q3' (w3.heap.size + 1) q4' ?_; intro g' cap' w8 hown8 hgrow8 hat8 hltg8; obtain ⟨d2, f2, hb8⟩ := HP1.out hgrow8))
          | fail)
      all_goals
        have HG : Hid (TS B P L (.slice (some ⟨g', 0, none⟩) (p.toks.length + 1) cap') iv (w8.setCell ⟨P, 2, none⟩ (.slice (some ⟨g', 0, none⟩) (p.toks.length + 1) cap')) { { p with pos := y } with toks := p.toks ++ [⟨2, tl, v, p.pos⟩] } ∧ Below B w (w8.setCell ⟨P, 2, none⟩ (.slice (some ⟨g', 0, none⟩) (p.toks.length + 1) cap'))) := ⟨HPUT.out hown8 hgrow8 hat8 (fun g => rfl), (HF.out.2.1.trans hb8).setCell (p := ⟨P, 2, none⟩) HPT.out.2.1 _⟩
        clear hown8 hgrow8 hat8 hb8 hltg8
        go_wp2
        go_end0
        refine ⟨fun k z hz => ?_, fun q hq => ?_, HG.out.2⟩
        · rw [HRe.out] at hz; cases hz
        · rw [HRe.out] at hq
          cases hq
          exact ⟨rfl, _, _, HG.out.1⟩
    | false =>
      have HD0 : Hid (∀ W, Calls Tryz.prog 95 #[.int .u8 (L.getD p.pos 0).toNat] W fun e w' => e = .returned (.bool false) ∧ w' = W) := fun W => by rw [← hd]; exact isDigit_any _ W
      cases hlt : isLt (L.getD p.pos 0) with
      | true =>
        have HRe : Hid (tok1 L p = .ok { p with pos := p.pos + rch isNm (L.drop p.pos), toks := p.toks ++ [⟨bif isWd ((L.drop p.pos).take (rch isNm (L.drop p.pos))) then 5 else 1, (L.drop p.pos).take (rch isNm (L.drop p.pos)), 0, p.pos⟩] }) := by
          show _ = _
          rw [HRV.out, if_neg hc34, if_neg (by rw [hd]; decide), if_pos hlt]
        have HL1 : Hid (∀ W, Calls Tryz.prog 100 #[.int .u8 (L.getD p.pos 0).toNat] W fun e w' => e = .returned (.bool true) ∧ w' = W) := fun W => by rw [← hlt]; exact isLetter_any _ W
        have HTk : Hid (∀ W, TS B P L tv iv W p → Calls Tryz.prog 88 #[.pointer (some ⟨P, 0, none⟩), .func (.func 101) #[] #[]] W fun e w' => e = .returned (.string (mkB ((L.drop p.pos).take (rch isNm (L.drop p.pos))))) ∧ TS B P L tv iv w' { p with pos := p.pos + rch isNm (L.drop p.pos) } ∧ Below B W w' ∧ ∀ g : Nat, g ≠ P → w'.heap[g]? = W.heap[g]?) := fun W hW => take_any hW hL (Nat.le_of_lt hp) _ _ fun W' _ => says_nm W'
        have HWd : Hid (∀ W, Calls Tryz.prog 102 #[.string (mkB ((L.drop p.pos).take (rch isNm (L.drop p.pos))))] W fun e w' => e = .returned (.bool (isWd ((L.drop p.pos).take (rch isNm (L.drop p.pos))))) ∧ w' = W) := fun W => isWord_any _ W
        clear HRV hd hlt hni hbg hcl hc34 hdl hrl
        generalize L.getD p.pos 0 = c at *
        generalize (L.drop p.pos).take (rch isNm (L.drop p.pos)) = tl at *
        generalize p.pos + rch isNm (L.drop p.pos) = y at *
        obtain ⟨bw, hbw⟩ : ∃ bw, bw = isWd tl := ⟨_, rfl⟩
        rw [← hbw] at HRe HWd
        clear hbw
        go_enter Tryz.func63, Tryz.ntmps63
        go_wp2
        generalize w.alloc (.cells #[.int .i64 0, .string ⟨#[]⟩, .int .i64 0, .int .i64 (p.pos : Int)] 84) = w0 at *
        have c0 := HW0.out.1.c0
        have c1 := HW0.out.1.c1
        go_quiet (fail)
        have HW1 : Hid (TS B P L tv iv (w0.drewN nq) p ∧ Below B w (w0.drewN nq) ∧ (w0.drewN nq).heap[T]? = some (.cells #[.int .i64 0, .string ⟨#[]⟩, .int .i64 0, .int .i64 (p.pos : Int)] 84 (0, 0))) := ⟨HW0.out.1.drewN nq, below_drewN HW0.out.2.1 nq, HW0.out.2.2⟩
        generalize w0.drewN nq = w1 at *
        clear c0 c1 HW0
        go_wp2_with (first
          | (go_at_call 95; refine (HD0.out _).mono ?_; rintro e w' ⟨rfl, rfl⟩)
          | (go_at_call 100; refine (HL1.out _).mono ?_; rintro e w' ⟨rfl, rfl⟩)
          | fail)
        refine (HTk.out _ HW1.out.1).mono ?_
        rintro e w2 ⟨rfl, hts2, hb2, ho2⟩
        have HW2 : Hid (TS B P L tv iv w2 { p with pos := y } ∧ Below B w w2 ∧ w2.heap[T]? = some (.cells #[.int .i64 0, .string ⟨#[]⟩, .int .i64 0, .int .i64 (p.pos : Int)] 84 (0, 0))) := ⟨hts2, HW1.out.2.1.trans hb2, (ho2 T (by have := HPT.out.1; omega)).trans HW1.out.2.2⟩
        clear hts2 hb2 ho2 HTk HW1 HD0 HL1
        have y0 : w2.cell? ⟨T, 0, none⟩ = some (.int .i64 0) := by rw [Lib.cell_of_heap HW2.out.2.2]; rfl
        have y1 : w2.cell? ⟨T, 1, none⟩ = some (.string ⟨#[]⟩) := by rw [Lib.cell_of_heap HW2.out.2.2]; rfl
        have yf0 : w2.frozen? ⟨T, 0, none⟩ = false := Lib.frozen_of_heap HW2.out.2.2 0
        have yf1 : w2.frozen? ⟨T, 1, none⟩ = false := Lib.frozen_of_heap HW2.out.2.2 1
        have HW3 : Hid (TS B P L tv iv ((w2.setCell ⟨T, 0, none⟩ (.int .i64 1)).setCell ⟨T, 1, none⟩ (.string (mkB tl))) { p with pos := y } ∧ Below B w ((w2.setCell ⟨T, 0, none⟩ (.int .i64 1)).setCell ⟨T, 1, none⟩ (.string (mkB tl))) ∧ ((w2.setCell ⟨T, 0, none⟩ (.int .i64 1)).setCell ⟨T, 1, none⟩ (.string (mkB tl))).heap[T]? = some (.cells #[.int .i64 1, .string (mkB tl), .int .i64 0, .int .i64 (p.pos : Int)] 84 (0, 0))) := tk_set HPT.out HW2.out HNT.out 1 (mkB tl)
        clear HW2
        have hw3 : ((w2.setCell ⟨T, 0, none⟩ (.int .i64 1)).setCell ⟨T, 1, none⟩ (.string (mkB tl))).cell? ⟨T, 1, none⟩ = some (.string (mkB tl)) := by rw [Lib.cell_of_heap HW3.out.2.2]; rfl
        go_wp2_with fail
        refine (HWd.out _).mono ?_
        rintro e w' ⟨rfl, rfl⟩
        generalize (w2.setCell ⟨T, 0, none⟩ (.int .i64 1)).setCell ⟨T, 1, none⟩ (.string (mkB tl)) = w4 at *
        clear y0 y1 yf0 yf1 hw3 HWd
        cases bw with
        | true =>
          have HRe : Hid (tok1 L p = .ok { p with pos := y, toks := p.toks ++ [⟨5, tl, 0, p.pos⟩] }) := HRe.out
          have y2 : w4.cell? ⟨T, 0, none⟩ = some (.int .i64 1) := by rw [Lib.cell_of_heap HW3.out.2.2]; rfl
          have yf2 : w4.frozen? ⟨T, 0, none⟩ = false := Lib.frozen_of_heap HW3.out.2.2 0
          have HF : Hid (TS B P L tv iv (w4.setCell ⟨T, 0, none⟩ (.int .i64 5)) { p with pos := y } ∧ Below B w (w4.setCell ⟨T, 0, none⟩ (.int .i64 5)) ∧ (w4.setCell ⟨T, 0, none⟩ (.int .i64 5)).heap[T]? = some (.cells #[.int .i64 5, .string (mkB tl), .int .i64 0, .int .i64 (p.pos : Int)] 84 (0, 0))) := tk_kind HPT.out HW3.out HNT.out 5
          clear HW3
          go_wp2
          generalize w4.setCell ⟨T, 0, none⟩ (.int .i64 5) = w3 at *
          clear y2 yf2
          have e2 := HF.out.1.c2
          have z0 : w3.cell? ⟨T, 0, none⟩ = some (.int .i64 5) := by rw [Lib.cell_of_heap HF.out.2.2]; rfl
          have z1 : w3.cell? ⟨T, 1, none⟩ = some (.string (mkB tl)) := by rw [Lib.cell_of_heap HF.out.2.2]; rfl
          have z2 : w3.cell? ⟨T, 2, none⟩ = some (.int .i64 0) := by rw [Lib.cell_of_heap HF.out.2.2]; rfl
          have z3 : w3.cell? ⟨T, 3, none⟩ = some (.int .i64 (p.pos : Int)) := by rw [Lib.cell_of_heap HF.out.2.2]; rfl
          have hPW := HF.out.1.lt
          have hTW : T < w3.heap.size := (Array.getElem?_eq_some_iff.1 HF.out.2.2).1
          obtain ⟨hOW, hNW, hPUT, hP1, q3, q4⟩ := tail_facts HF.out.1 ⟨5, tl, 0, p.pos⟩
          have HOW : Hid (((w3.alloc (.cells #[.int .i64 5, .string (mkB tl), .int .i64 0, .int .i64 (p.pos : Int)] 84)).drew).ownsRow B 84 4 tv p.toks.length (tcs p.toks)) := hOW
          have HNW : Hid (∀ (j : Nat) (u : Value), (tc ⟨5, tl, 0, p.pos⟩)[j]? = some u → ((w3.alloc (.cells #[.int .i64 5, .string (mkB tl), .int .i64 0, .int .i64 (p.pos : Int)] 84)).drew).cell? ((⟨w3.heap.size, 0, none⟩ : Addr).add j) = some u) := hNW
          have HPUT : Hid (∀ {w8 w9 : World} {g1 cap1 : Nat}, w8.ownsRow B 84 4 (.slice (some ⟨g1, 0, none⟩) (p.toks.length + 1) cap1) (p.toks.length + 1) (tcs p.toks ++ tc ⟨5, tl, 0, p.pos⟩) → ((w3.alloc (.cells #[.int .i64 5, .string (mkB tl), .int .i64 0, .int .i64 (p.pos : Int)] 84)).drew).grownBy w8 tv.ownBlock → (tv.ownBlock = some g1 ∨ g1 = w3.heap.size + 1) → (∀ g : Nat, w9.heap[g]? = (w8.setCell ⟨P, 2, none⟩ (.slice (some ⟨g1, 0, none⟩) (p.toks.length + 1) cap1)).heap[g]?) → TS B P L (.slice (some ⟨g1, 0, none⟩) (p.toks.length + 1) cap1) iv w9 { { p with pos := y } with toks := p.toks ++ [⟨5, tl, 0, p.pos⟩] }) := hPUT
          have HP1 : Hid (∀ {w8 : World}, ((w3.alloc (.cells #[.int .i64 5, .string (mkB tl), .int .i64 0, .int .i64 (p.pos : Int)] 84)).drew).grownBy w8 tv.ownBlock → w8.cell? ⟨P, 2, none⟩ = some tv ∧ w8.frozen? ⟨P, 2, none⟩ = false ∧ Below B w3 w8) := hP1
          have q3' : B ≤ ((w3.alloc (.cells #[.int .i64 5, .string (mkB tl), .int .i64 0, .int .i64 (p.pos : Int)] 84)).drew).heap.size := q3
          have q4' : ((w3.alloc (.cells #[.int .i64 5, .string (mkB tl), .int .i64 0, .int .i64 (p.pos : Int)] 84)).drew).heap.size = w3.heap.size + 1 := q4
          have hone := tc_one ⟨5, tl, 0, p.pos⟩
          have hnl : (tc ⟨5, tl, 0, p.pos⟩).length = 1 * 4 := rfl
          obtain ⟨i0, hi, hz0, hz1, hz2⟩ := info_p infT
          have q1 : p.toks.length + 1 ≤ maxLen := by unfold maxLen; omega
          have q2 : (p.toks.length + 1) * 40 ≤ 140737488355328 := by omega
          generalize tc ⟨5, tl, 0, p.pos⟩ = news at *
          clear hOW hNW hPUT hP1 q3 q4
          go_wp2
          go_region_law (first
              | ((refine step_append_lies ((w3.alloc (.cells #[.int .i64 5, .string (mkB tl), .int .i64 0, .int .i64 (p.pos : Int)] 84)).drew) (by rfl) (Operand.tmp 58) (Operand.tmp 60) 48 (by rfl) B 84 i0 (.agg #[.int .i64 0, .string ⟨#[]⟩, .int .i64 0, .int .i64 0]) 4 40 Tryz.underlying48 hi hz0 hz1 hz2 rfl (by decide) tv p.toks.length (tcs p.toks) (by rfl) HOW.out ⟨w3.heap.size, 0, none⟩ 1 1 news (by rfl) hnl HNW.out hone (by decide) q1 q2 q3' (w3.heap.size + 1) q4' ?_; intro g' cap' w8 hown8 hgrow8 hat8 hltg8; obtain ⟨d2, f2, hb8⟩ := HP1.out hgrow8))
              | fail)
          all_goals
            have HG : Hid (TS B P L (.slice (some ⟨g', 0, none⟩) (p.toks.length + 1) cap') iv (w8.setCell ⟨P, 2, none⟩ (.slice (some ⟨g', 0, none⟩) (p.toks.length + 1) cap')) { { p with pos := y } with toks := p.toks ++ [⟨5, tl, 0, p.pos⟩] } ∧ Below B w (w8.setCell ⟨P, 2, none⟩ (.slice (some ⟨g', 0, none⟩) (p.toks.length + 1) cap'))) := ⟨HPUT.out hown8 hgrow8 hat8 (fun g => rfl), (HF.out.2.1.trans hb8).setCell (p := ⟨P, 2, none⟩) HPT.out.2.1 _⟩
            clear hown8 hgrow8 hat8 hb8 hltg8
            go_wp2
            go_end0
            refine ⟨fun k z hz => ?_, fun q hq => ?_, HG.out.2⟩
            · rw [HRe.out] at hz; cases hz
            · rw [HRe.out] at hq
              cases hq
              exact ⟨rfl, _, _, HG.out.1⟩
        | false =>
          have HRe : Hid (tok1 L p = .ok { p with pos := y, toks := p.toks ++ [⟨1, tl, 0, p.pos⟩] }) := HRe.out
          have HF := HW3
          clear HW3
          go_wp2
          have e2 := HF.out.1.c2
          have z0 : w4.cell? ⟨T, 0, none⟩ = some (.int .i64 1) := by rw [Lib.cell_of_heap HF.out.2.2]; rfl
          have z1 : w4.cell? ⟨T, 1, none⟩ = some (.string (mkB tl)) := by rw [Lib.cell_of_heap HF.out.2.2]; rfl
          have z2 : w4.cell? ⟨T, 2, none⟩ = some (.int .i64 0) := by rw [Lib.cell_of_heap HF.out.2.2]; rfl
          have z3 : w4.cell? ⟨T, 3, none⟩ = some (.int .i64 (p.pos : Int)) := by rw [Lib.cell_of_heap HF.out.2.2]; rfl
          have hPW := HF.out.1.lt
          have hTW : T < w4.heap.size := (Array.getElem?_eq_some_iff.1 HF.out.2.2).1
          obtain ⟨hOW, hNW, hPUT, hP1, q3, q4⟩ := tail_facts HF.out.1 ⟨1, tl, 0, p.pos⟩
          have HOW : Hid (((w4.alloc (.cells #[.int .i64 1, .string (mkB tl), .int .i64 0, .int .i64 (p.pos : Int)] 84)).drew).ownsRow B 84 4 tv p.toks.length (tcs p.toks)) := hOW
          have HNW : Hid (∀ (j : Nat) (u : Value), (tc ⟨1, tl, 0, p.pos⟩)[j]? = some u → ((w4.alloc (.cells #[.int .i64 1, .string (mkB tl), .int .i64 0, .int .i64 (p.pos : Int)] 84)).drew).cell? ((⟨w4.heap.size, 0, none⟩ : Addr).add j) = some u) := hNW
          have HPUT : Hid (∀ {w8 w9 : World} {g1 cap1 : Nat}, w8.ownsRow B 84 4 (.slice (some ⟨g1, 0, none⟩) (p.toks.length + 1) cap1) (p.toks.length + 1) (tcs p.toks ++ tc ⟨1, tl, 0, p.pos⟩) → ((w4.alloc (.cells #[.int .i64 1, .string (mkB tl), .int .i64 0, .int .i64 (p.pos : Int)] 84)).drew).grownBy w8 tv.ownBlock → (tv.ownBlock = some g1 ∨ g1 = w4.heap.size + 1) → (∀ g : Nat, w9.heap[g]? = (w8.setCell ⟨P, 2, none⟩ (.slice (some ⟨g1, 0, none⟩) (p.toks.length + 1) cap1)).heap[g]?) → TS B P L (.slice (some ⟨g1, 0, none⟩) (p.toks.length + 1) cap1) iv w9 { { p with pos := y } with toks := p.toks ++ [⟨1, tl, 0, p.pos⟩] }) := hPUT
          have HP1 : Hid (∀ {w8 : World}, ((w4.alloc (.cells #[.int .i64 1, .string (mkB tl), .int .i64 0, .int .i64 (p.pos : Int)] 84)).drew).grownBy w8 tv.ownBlock → w8.cell? ⟨P, 2, none⟩ = some tv ∧ w8.frozen? ⟨P, 2, none⟩ = false ∧ Below B w4 w8) := hP1
          have q3' : B ≤ ((w4.alloc (.cells #[.int .i64 1, .string (mkB tl), .int .i64 0, .int .i64 (p.pos : Int)] 84)).drew).heap.size := q3
          have q4' : ((w4.alloc (.cells #[.int .i64 1, .string (mkB tl), .int .i64 0, .int .i64 (p.pos : Int)] 84)).drew).heap.size = w4.heap.size + 1 := q4
          have hone := tc_one ⟨1, tl, 0, p.pos⟩
          have hnl : (tc ⟨1, tl, 0, p.pos⟩).length = 1 * 4 := rfl
          obtain ⟨i0, hi, hz0, hz1, hz2⟩ := info_p infT
          have q1 : p.toks.length + 1 ≤ maxLen := by unfold maxLen; omega
          have q2 : (p.toks.length + 1) * 40 ≤ 140737488355328 := by omega
          generalize tc ⟨1, tl, 0, p.pos⟩ = news at *
          clear hOW hNW hPUT hP1 q3 q4
          go_wp2
          go_region_law (first
              | ((refine step_append_lies ((w4.alloc (.cells #[.int .i64 1, .string (mkB tl), .int .i64 0, .int .i64 (p.pos : Int)] 84)).drew) (by rfl) (Operand.tmp 58) (Operand.tmp 60) 48 (by rfl) B 84 i0 (.agg #[.int .i64 0, .string ⟨#[]⟩, .int .i64 0, .int .i64 0]) 4 40 Tryz.underlying48 hi hz0 hz1 hz2 rfl (by decide) tv p.toks.length (tcs p.toks) (by rfl) HOW.out ⟨w4.heap.size, 0, none⟩ 1 1 news (by rfl) hnl HNW.out hone (by decide) q1 q2 q3' (w4.heap.size + 1) q4' ?_; intro g' cap' w8 hown8 hgrow8 hat8 hltg8; obtain ⟨d2, f2, hb8⟩ := HP1.out hgrow8))
              | fail)
          all_goals
            have HG : Hid (TS B P L (.slice (some ⟨g', 0, none⟩) (p.toks.length + 1) cap') iv (w8.setCell ⟨P, 2, none⟩ (.slice (some ⟨g', 0, none⟩) (p.toks.length + 1) cap')) { { p with pos := y } with toks := p.toks ++ [⟨1, tl, 0, p.pos⟩] } ∧ Below B w (w8.setCell ⟨P, 2, none⟩ (.slice (some ⟨g', 0, none⟩) (p.toks.length + 1) cap'))) := ⟨HPUT.out hown8 hgrow8 hat8 (fun g => rfl), (HF.out.2.1.trans hb8).setCell (p := ⟨P, 2, none⟩) HPT.out.2.1 _⟩
            clear hown8 hgrow8 hat8 hb8 hltg8
            go_wp2
            go_end0
            refine ⟨fun k z hz => ?_, fun q hq => ?_, HG.out.2⟩
            · rw [HRe.out] at hz; cases hz
            · rw [HRe.out] at hq
              cases hq
              exact ⟨rfl, _, _, HG.out.1⟩
      | false =>
        have hs := beg_sign _ hbg (by rw [at_drop]; exact hc34) (by rw [at_drop]; exact hd) (by rw [at_drop]; exact hlt)
        have HRe : Hid (tok1 L p = .ok { p with pos := p.pos + sgn (L.drop p.pos), toks := p.toks ++ [⟨4, (L.drop p.pos).take (sgn (L.drop p.pos)), 0, p.pos⟩], opn := if isOpn (L.getD p.pos 0) then p.opn + 1 else if isCls (L.getD p.pos 0) then p.opn - 1 else p.opn }) := by
          show _ = _
          rw [HRV.out, if_neg hc34, if_neg (by rw [hd]; decide), if_neg (by rw [hlt]; decide)]
        have HL0 : Hid (∀ W, Calls Tryz.prog 100 #[.int .u8 (L.getD p.pos 0).toNat] W fun e w' => e = .returned (.bool false) ∧ w' = W) := fun W => by rw [← hlt]; exact isLetter_any _ W
        have HSg : Hid (∀ W, TS B P L tv iv W p → Calls Tryz.prog 103 #[.pointer (some ⟨P, 0, none⟩)] W fun e w' => e = .returned (.string (mkB ((L.drop p.pos).take (sgn (L.drop p.pos))))) ∧ TS B P L tv iv w' { p with pos := p.pos + sgn (L.drop p.pos), opn := if isOpn (L.getD p.pos 0) then p.opn + 1 else if isCls (L.getD p.pos 0) then p.opn - 1 else p.opn } ∧ Below B W w' ∧ ∀ g : Nat, g ≠ P → w'.heap[g]? = W.heap[g]?) := fun W hW => sign_any hW hL hp hs ho hcl
        clear HRV hd hlt hni hbg hcl hc34 hdl hrl hs
        generalize (if isOpn (L.getD p.pos 0) then p.opn + 1 else if isCls (L.getD p.pos 0) then p.opn - 1 else p.opn) = on at *
        generalize L.getD p.pos 0 = c at *
        generalize (L.drop p.pos).take (sgn (L.drop p.pos)) = tl at *
        generalize p.pos + sgn (L.drop p.pos) = y at *
        go_enter Tryz.func63, Tryz.ntmps63
        go_wp2
        generalize w.alloc (.cells #[.int .i64 0, .string ⟨#[]⟩, .int .i64 0, .int .i64 (p.pos : Int)] 84) = w0 at *
        have c0 := HW0.out.1.c0
        have c1 := HW0.out.1.c1
        go_quiet (fail)
        have HW1 : Hid (TS B P L tv iv (w0.drewN nq) p ∧ Below B w (w0.drewN nq) ∧ (w0.drewN nq).heap[T]? = some (.cells #[.int .i64 0, .string ⟨#[]⟩, .int .i64 0, .int .i64 (p.pos : Int)] 84 (0, 0))) := ⟨HW0.out.1.drewN nq, below_drewN HW0.out.2.1 nq, HW0.out.2.2⟩
        generalize w0.drewN nq = w1 at *
        clear c0 c1 HW0
        go_wp2_with (first
          | (go_at_call 95; refine (HD0.out _).mono ?_; rintro e w' ⟨rfl, rfl⟩)
          | (go_at_call 100; refine (HL0.out _).mono ?_; rintro e w' ⟨rfl, rfl⟩)
          | fail)
        refine (HSg.out _ HW1.out.1).mono ?_
        rintro e w2 ⟨rfl, hts2, hb2, ho2⟩
        have HW2 : Hid (TS B P L tv iv w2 { p with pos := y, opn := on } ∧ Below B w w2 ∧ w2.heap[T]? = some (.cells #[.int .i64 0, .string ⟨#[]⟩, .int .i64 0, .int .i64 (p.pos : Int)] 84 (0, 0))) := ⟨hts2, HW1.out.2.1.trans hb2, (ho2 T (by have := HPT.out.1; omega)).trans HW1.out.2.2⟩
        clear hts2 hb2 ho2 HSg HW1 HD0 HL0
        have y0 : w2.cell? ⟨T, 0, none⟩ = some (.int .i64 0) := by rw [Lib.cell_of_heap HW2.out.2.2]; rfl
        have y1 : w2.cell? ⟨T, 1, none⟩ = some (.string ⟨#[]⟩) := by rw [Lib.cell_of_heap HW2.out.2.2]; rfl
        have yf0 : w2.frozen? ⟨T, 0, none⟩ = false := Lib.frozen_of_heap HW2.out.2.2 0
        have yf1 : w2.frozen? ⟨T, 1, none⟩ = false := Lib.frozen_of_heap HW2.out.2.2 1
        have HF : Hid (TS B P L tv iv ((w2.setCell ⟨T, 0, none⟩ (.int .i64 4)).setCell ⟨T, 1, none⟩ (.string (mkB tl))) { p with pos := y, opn := on } ∧ Below B w ((w2.setCell ⟨T, 0, none⟩ (.int .i64 4)).setCell ⟨T, 1, none⟩ (.string (mkB tl))) ∧ ((w2.setCell ⟨T, 0, none⟩ (.int .i64 4)).setCell ⟨T, 1, none⟩ (.string (mkB tl))).heap[T]? = some (.cells #[.int .i64 4, .string (mkB tl), .int .i64 0, .int .i64 (p.pos : Int)] 84 (0, 0))) := tk_set HPT.out HW2.out HNT.out 4 (mkB tl)
        clear HW2
        go_wp2
        generalize (w2.setCell ⟨T, 0, none⟩ (.int .i64 4)).setCell ⟨T, 1, none⟩ (.string (mkB tl)) = w3 at *
        clear y0 y1 yf0 yf1
        have e2 := HF.out.1.c2
        have z0 : w3.cell? ⟨T, 0, none⟩ = some (.int .i64 4) := by rw [Lib.cell_of_heap HF.out.2.2]; rfl
        have z1 : w3.cell? ⟨T, 1, none⟩ = some (.string (mkB tl)) := by rw [Lib.cell_of_heap HF.out.2.2]; rfl
        have z2 : w3.cell? ⟨T, 2, none⟩ = some (.int .i64 0) := by rw [Lib.cell_of_heap HF.out.2.2]; rfl
        have z3 : w3.cell? ⟨T, 3, none⟩ = some (.int .i64 (p.pos : Int)) := by rw [Lib.cell_of_heap HF.out.2.2]; rfl
        have hPW := HF.out.1.lt
        have hTW : T < w3.heap.size := (Array.getElem?_eq_some_iff.1 HF.out.2.2).1
        obtain ⟨hOW, hNW, hPUT, hP1, q3, q4⟩ := tail_facts HF.out.1 ⟨4, tl, 0, p.pos⟩
        have HOW : Hid (((w3.alloc (.cells #[.int .i64 4, .string (mkB tl), .int .i64 0, .int .i64 (p.pos : Int)] 84)).drew).ownsRow B 84 4 tv p.toks.length (tcs p.toks)) := hOW
        have HNW : Hid (∀ (j : Nat) (u : Value), (tc ⟨4, tl, 0, p.pos⟩)[j]? = some u → ((w3.alloc (.cells #[.int .i64 4, .string (mkB tl), .int .i64 0, .int .i64 (p.pos : Int)] 84)).drew).cell? ((⟨w3.heap.size, 0, none⟩ : Addr).add j) = some u) := hNW
        have HPUT : Hid (∀ {w8 w9 : World} {g1 cap1 : Nat}, w8.ownsRow B 84 4 (.slice (some ⟨g1, 0, none⟩) (p.toks.length + 1) cap1) (p.toks.length + 1) (tcs p.toks ++ tc ⟨4, tl, 0, p.pos⟩) → ((w3.alloc (.cells #[.int .i64 4, .string (mkB tl), .int .i64 0, .int .i64 (p.pos : Int)] 84)).drew).grownBy w8 tv.ownBlock → (tv.ownBlock = some g1 ∨ g1 = w3.heap.size + 1) → (∀ g : Nat, w9.heap[g]? = (w8.setCell ⟨P, 2, none⟩ (.slice (some ⟨g1, 0, none⟩) (p.toks.length + 1) cap1)).heap[g]?) → TS B P L (.slice (some ⟨g1, 0, none⟩) (p.toks.length + 1) cap1) iv w9 { { p with pos := y, opn := on } with toks := p.toks ++ [⟨4, tl, 0, p.pos⟩] }) := hPUT
        have HP1 : Hid (∀ {w8 : World}, ((w3.alloc (.cells #[.int .i64 4, .string (mkB tl), .int .i64 0, .int .i64 (p.pos : Int)] 84)).drew).grownBy w8 tv.ownBlock → w8.cell? ⟨P, 2, none⟩ = some tv ∧ w8.frozen? ⟨P, 2, none⟩ = false ∧ Below B w3 w8) := hP1
        have q3' : B ≤ ((w3.alloc (.cells #[.int .i64 4, .string (mkB tl), .int .i64 0, .int .i64 (p.pos : Int)] 84)).drew).heap.size := q3
        have q4' : ((w3.alloc (.cells #[.int .i64 4, .string (mkB tl), .int .i64 0, .int .i64 (p.pos : Int)] 84)).drew).heap.size = w3.heap.size + 1 := q4
        have hone := tc_one ⟨4, tl, 0, p.pos⟩
        have hnl : (tc ⟨4, tl, 0, p.pos⟩).length = 1 * 4 := rfl
        obtain ⟨i0, hi, hz0, hz1, hz2⟩ := info_p infT
        have q1 : p.toks.length + 1 ≤ maxLen := by unfold maxLen; omega
        have q2 : (p.toks.length + 1) * 40 ≤ 140737488355328 := by omega
        generalize tc ⟨4, tl, 0, p.pos⟩ = news at *
        clear hOW hNW hPUT hP1 q3 q4
        go_wp2
        go_region_law (first
            | ((refine step_append_lies ((w3.alloc (.cells #[.int .i64 4, .string (mkB tl), .int .i64 0, .int .i64 (p.pos : Int)] 84)).drew) (by rfl) (Operand.tmp 58) (Operand.tmp 60) 48 (by rfl) B 84 i0 (.agg #[.int .i64 0, .string ⟨#[]⟩, .int .i64 0, .int .i64 0]) 4 40 Tryz.underlying48 hi hz0 hz1 hz2 rfl (by decide) tv p.toks.length (tcs p.toks) (by rfl) HOW.out ⟨w3.heap.size, 0, none⟩ 1 1 news (by rfl) hnl HNW.out hone (by decide) q1 q2 q3' (w3.heap.size + 1) q4' ?_; intro g' cap' w8 hown8 hgrow8 hat8 hltg8; obtain ⟨d2, f2, hb8⟩ := HP1.out hgrow8))
            | fail)
        all_goals
          have HG : Hid (TS B P L (.slice (some ⟨g', 0, none⟩) (p.toks.length + 1) cap') iv (w8.setCell ⟨P, 2, none⟩ (.slice (some ⟨g', 0, none⟩) (p.toks.length + 1) cap')) { { p with pos := y, opn := on } with toks := p.toks ++ [⟨4, tl, 0, p.pos⟩] } ∧ Below B w (w8.setCell ⟨P, 2, none⟩ (.slice (some ⟨g', 0, none⟩) (p.toks.length + 1) cap'))) := ⟨HPUT.out hown8 hgrow8 hat8 (fun g => rfl), (HF.out.2.1.trans hb8).setCell (p := ⟨P, 2, none⟩) HPT.out.2.1 _⟩
          clear hown8 hgrow8 hat8 hb8 hltg8
          go_wp2
          go_end0
          refine ⟨fun k z hz => ?_, fun q hq => ?_, HG.out.2⟩
          · rw [HRe.out] at hz; cases hz
          · rw [HRe.out] at hq
            cases hq
            exact ⟨rfl, _, _, HG.out.1⟩
end Go.Proofs.YtcaeeackccgclaaGreatDoor

/- What holds of the splitter all the way, plain. -/
namespace Go.Proofs.YtcaeeackccgclaaGreatDoor
open Go.RowKit Go.Shelf

/-- All is in bounds. -/
structure SpOk (L : List UInt8) (p : Sp) (k : Nat) : Prop where
  pos : p.pos ≤ L.length
  ins : InOk p
  i31 : p.ins.length ≤ 31
  o30 : p.opn ≤ 30
  cnt : p.toks.length + p.ins.length ≤ 4 * p.pos + k

theorem InOk.of {p q : Sp} (h : InOk p) (e : q.ins = p.ins) : InOk q := ⟨by rw [e]; exact h.ne, by rw [e]; exact h.bot⟩

theorem outF_ok (i : Nat) : ∀ (f : Nat) (p : Sp), InOk p → (outF i f p).pos = p.pos ∧ (outF i f p).opn = p.opn ∧ InOk (outF i f p) ∧ (outF i f p).ins.length ≤ p.ins.length ∧ (outF i f p).toks.length + (outF i f p).ins.length = p.toks.length + p.ins.length := by
  intro f
  induction f with
  | zero => intro p h; exact ⟨rfl, rfl, h, Nat.le_refl _, rfl⟩
  | succ f ih =>
    intro p h
    by_cases hi : i < p.top
    · have h2 := h.two i hi
      rw [outF_step i f p hi]
      obtain ⟨a, b, c, d, e⟩ := ih ({ p with ins := p.ins.drop 1 }.add 8) (h.pop h2 _ rfl)
      have e1 : (({ p with ins := p.ins.drop 1 } : Sp).add 8).ins.length = p.ins.length - 1 := List.length_drop
      have e2 : (({ p with ins := p.ins.drop 1 } : Sp).add 8).toks.length = p.toks.length + 1 := by
        show (p.toks ++ [_]).length = _
        simp
      exact ⟨a, b, c, by omega, by omega⟩
    · rw [outF_stop i _ p hi]
      exact ⟨rfl, rfl, h, Nat.le_refl _, rfl⟩

theorem come_ok {p : Sp} (h : InOk p) (i : Nat) : (p.come i).pos = p.pos ∧ (p.come i).opn = p.opn ∧ InOk (p.come i) ∧ (p.come i).ins.length ≤ p.ins.length + (if p.top < i then 1 else 0) ∧ (p.come i).toks.length + (p.come i).ins.length ≤ p.toks.length + p.ins.length + 2 := by
  show (outF i _ _).pos = _ ∧ (outF i _ _).opn = _ ∧ InOk (outF i _ _) ∧ (outF i _ _).ins.length ≤ _ ∧ (outF i _ _).toks.length + (outF i _ _).ins.length ≤ _
  by_cases ht : p.top < i
  · rw [if_pos ht, if_pos ht]
    obtain ⟨a, b, c, d, e⟩ := outF_ok i (({ p with ins := i :: p.ins } : Sp).add 7).ins.length (({ p with ins := i :: p.ins } : Sp).add 7) (h.push i _ rfl)
    have e1 : (({ p with ins := i :: p.ins } : Sp).add 7).ins.length = p.ins.length + 1 := rfl
    have e2 : (({ p with ins := i :: p.ins } : Sp).add 7).toks.length = p.toks.length + 1 := by
      show (p.toks ++ [_]).length = _
      simp
    exact ⟨a, b, c, by omega, by omega⟩
  · rw [if_neg ht, if_neg ht]
    obtain ⟨a, b, c, d, e⟩ := outF_ok i p.ins.length p h
    exact ⟨a, b, c, by omega, by omega⟩

theorem txt_pos : ∀ (f : Nat) (r said : List UInt8) (x : Nat) (t : List UInt8) (y : Nat), txt f r said x = .ok (t, y) → x < y ∧ y ≤ x + r.length := by
  intro f
  induction f with
  | zero => intro r said x t y h; cases h
  | succ f ih =>
    intro r said x t y h
    unfold txt at h
    by_cases h0 : r = []
    · simp only [h0, if_true] at h; cases h
    simp only [h0, if_false] at h
    have hl : 0 < r.length := List.length_pos_iff.2 h0
    split at h
    · cases h; omega
    split at h
    · split at h
      · cases h
      rename_i h1
      have hl2 : 0 < (r.drop 1).length := List.length_pos_iff.2 h1
      rw [List.length_drop] at hl2
      split at h
      · have := ih _ _ _ _ _ h; rw [List.length_drop] at this; omega
      split at h
      · have := ih _ _ _ _ _ h; rw [List.length_drop] at this; omega
      split at h
      · have := ih _ _ _ _ _ h; rw [List.length_drop] at this; omega
      · cases h
    split at h
    · cases h
    · have h1 := rch_le isPl r
      have := ih _ _ _ _ _ h
      rw [List.length_drop] at this
      omega

theorem opn_le (a b : Bool) (n : Nat) (h : a = true → n < 30) (h' : n ≤ 30) : (if a = true then n + 1 else if b = true then n - 1 else n) ≤ 30 := by
  cases a with
  | true => have := h rfl; simp only [if_true]; omega
  | false =>
    cases b with
    | true => simp; omega
    | false => simpa using h'
/-- A token that may begin here goes on by a byte or more. -/
theorem tok1_ok {L : List UInt8} {p q : Sp} (h : tok1 L p = .ok q) (hp : p.pos < L.length) (hb : beg (L.drop p.pos) = true) (hm : isOpn (L.getD p.pos 0) = true → p.opn < 30) (ho : p.opn ≤ 30) :
    p.pos < q.pos ∧ q.pos ≤ L.length ∧ q.ins = p.ins ∧ q.toks.length = p.toks.length + 1 ∧ q.opn ≤ 30 := by
  have hdl : (L.drop p.pos).length = L.length - p.pos := List.length_drop
  have hrl : 0 < (L.drop p.pos).length := by omega
  unfold tok1 at h
  simp only [at_drop] at h
  split at h
  · split at h
    · cases h
    · rename_i t y ht
      have := txt_pos _ _ _ _ _ _ ht
      rw [List.length_drop] at this
      cases h
      exact ⟨by show p.pos < y; omega, by show y ≤ _; omega, rfl, by show (p.toks ++ [_]).length = _; simp, ho⟩
  rename_i h34
  split at h
  · rename_i hd
    have h1 := rch_le isDg (L.drop p.pos)
    have h2 : 0 < rch isDg (L.drop p.pos) := rch_pos hrl (by rw [at_drop]; exact hd)
    cases h
    exact ⟨by show p.pos < p.pos + _; omega, by show p.pos + _ ≤ _; omega, rfl, by show (p.toks ++ [_]).length = _; simp, ho⟩
  rename_i hd
  split at h
  · rename_i hlt
    have h1 := rch_le isNm (L.drop p.pos)
    have h2 : 0 < rch isNm (L.drop p.pos) := rch_pos hrl (by rw [at_drop]; unfold isNm; rw [hlt]; rfl)
    cases h
    exact ⟨by show p.pos < p.pos + _; omega, by show p.pos + _ ≤ _; omega, rfl, by show (p.toks ++ [_]).length = _; simp, ho⟩
  rename_i hlt
  have h1 := sgn_le _ hrl
  have h2 : 0 < sgn (L.drop p.pos) := by
    unfold beg at hb
    rw [at_drop] at hb
    rw [show isDg (L.getD p.pos 0) = false from by simpa using hd, show isLt (L.getD p.pos 0) = false from by simpa using hlt] at hb
    simp at hb
    rcases hb with hb | hb
    · exact absurd hb h34
    · exact hb
  cases h
  refine ⟨by show p.pos < p.pos + _; omega, by show p.pos + _ ≤ _; omega, rfl, by show (p.toks ++ [_]).length = _; simp, ?_⟩
  exact opn_le _ _ _ hm ho

theorem skip_ok {L : List UInt8} {p : Sp} (hp : p.pos ≤ L.length) : p.pos ≤ (p.skip L).pos ∧ (p.skip L).pos ≤ L.length := by
  have := skp_len p.opn L.length (L.drop p.pos)
  rw [List.length_drop] at this
  exact ⟨Nat.le_add_right _ _, by show p.pos + _ ≤ _; omega⟩

/-- What is not refused may be. -/
theorem refu_zero {L : List UInt8} {p : Sp} {i : Nat} (h : refu L p i = 0) : beg (L.drop p.pos) = true ∧ (isCls (L.getD p.pos 0) = true → 0 < p.opn) ∧ (isDg (L.getD p.pos 0) = true → noInt (L.drop p.pos) = false) ∧ (isOpn (L.getD p.pos 0) = true → p.opn ≠ 30) ∧ (p.top < i → p.ins.length ≤ 30) := by
  unfold refu at h
  simp only [at_drop] at h
  split at h
  · cases h
  rename_i h1
  split at h
  · cases h
  split at h
  · cases h
  rename_i h3
  split at h
  · cases h
  rename_i h4
  refine ⟨?_, fun hc => ?_, fun hd => ?_, fun hop e => h4 (.inl ⟨hop, e⟩), fun ht => ?_⟩
  · cases hb : beg (L.drop p.pos) with
    | true => rfl
    | false => exact absurd (.inl hb) h1
  · rcases Nat.eq_zero_or_pos p.opn with e | e
    · exact absurd (.inr ⟨hc, e⟩) h1
    · exact e
  · cases hn : noInt (L.drop p.pos) with
    | false => rfl
    | true => exact absurd ⟨hd, hn⟩ h3
  · rcases Nat.lt_or_ge 30 p.ins.length with e | e
    · exact absurd (.inr ⟨ht, e⟩) h4
    · exact e

/-- A turn of a line. -/
theorem turn_ok {L : List UInt8} {p q : Sp} {i : Nat} (h : SpOk L p 1) (hp : p.pos < L.length) (hr : refu L p i = 0) (ht : tok1 L (p.come i) = .ok q) : SpOk L (q.skip L) 1 ∧ p.pos < (q.skip L).pos := by
  obtain ⟨r1, r2, r3, r4, r5⟩ := refu_zero hr
  obtain ⟨a, b, c, d, e⟩ := come_ok h.ins i
  obtain ⟨t1, t2, t3, t4, t5⟩ := tok1_ok ht (by rw [a]; exact hp) (by rw [a]; exact r1) (by rw [a, b]; intro ho; have := r4 ho; have := h.o30; omega) (by rw [b]; exact h.o30)
  obtain ⟨s1, s2⟩ := skip_ok (L := L) t2
  have hi : (p.come i).ins.length ≤ 31 := by
    by_cases htp : p.top < i
    · rw [if_pos htp] at d; have := r5 htp; omega
    · rw [if_neg htp] at d; have := h.i31; omega
  refine ⟨⟨s2, c.of t3, ?_, t5, ?_⟩, by omega⟩
  · show q.ins.length ≤ 31
    rw [t3]; exact hi
  · show q.toks.length + q.ins.length ≤ 4 * (q.skip L).pos + 1
    have := h.cnt
    rw [t3]
    omega
end Go.Proofs.YtcaeeackccgclaaGreatDoor
