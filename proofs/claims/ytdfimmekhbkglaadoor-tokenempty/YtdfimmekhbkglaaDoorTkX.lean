/- A text between quotes. -/
import Derived.Test.YtdfimmekhbkglaaDoorTkG
import Derived.Test.YtdfimmekhbkglaaDoorTkBl
namespace Go.Proofs.YtdfimmekhbkglaaDoor
open Go.RowKit Go.Shelf

/-- Only the splitter's block has turned, of those that were. -/
def OnlyP (P : Nat) (w w' : World) : Prop := ∀ g : Nat, g < w.heap.size → g ≠ P → w'.heap[g]? = w.heap[g]?

/-- What an escape stands for. -/
def esc (d : Nat) : Option Nat := if d = 110 then some 10 else if d = 116 then some 9 else if d = 92 then some 92 else if d = 34 then some 34 else none

set_option maxHeartbeats 4000000 in
theorem escaped_yes {B P : Nat} {L : List UInt8} {tv iv : Value} {w : World} {p : Sp} (h : TS B P L tv iv w p) (hL : L.length ≤ 6000) (hp : p.pos < L.length) (x : Nat) (hx : esc (L.getD p.pos 0).toNat = some x) :
    Calls Tryd.prog 47 #[.pointer (some ⟨P, 0, none⟩)] w fun e w' => e = .returned (.int .u8 x) ∧ TS B P L tv iv w' { p with pos := p.pos + 1 } ∧ Below B w w' ∧ ∀ g : Nat, g ≠ P → w'.heap[g]? = w.heap[g]? := by
  have HSe : Hid (∀ n (c : Nat), c ≠ 0 → Calls Tryd.prog 20 #[.pointer (some ⟨P, 0, none⟩), .int .u8 c] (w.drewN n) fun e w' => e = .returned (.bool (decide ((L.getD p.pos 0).toNat = c))) ∧ Dr w w') := fun n c hc => (sees_any (h.drewN n) (by omega) c hc).mono fun e w' ⟨a, m, b⟩ => ⟨a, by rw [b]; exact Dr.drewN ⟨n, rfl⟩ m⟩
  have HSP : Hid (∀ n w', (∀ g : Nat, w'.heap[g]? = ((w.drewN n).setCell ⟨P, 1, none⟩ (.int .i64 ((p.pos + 1 : Nat) : Int))).heap[g]?) → TS B P L tv iv w' { p with pos := p.pos + 1 }) := fun n w' hw => (h.drewN n).setPos _ hw
  have c0 := h.c0
  have c1 := h.c1
  have f1 := h.fz 1
  have hsz := mk_size L
  have hs0 : p.pos < (mkB L).size := by rw [hsz]; exact hp
  have hg := mk_get L p.pos hs0
  have HPB : Hid (B ≤ P) := h.hB
  have hpi : (p.pos : Int) < (L.length : Int) := by omega
  have hli : (L.length : Int) ≤ 6000 := by omega
  obtain ⟨y, hy⟩ : ∃ y, y = p.pos + 1 := ⟨_, rfl⟩
  rw [← hy] at HSP
  rw [← hy]
  have hp1 : (p.pos : Int) + 1 = (y : Int) := by omega
  have hwr : IntKind.i64.wrap (y : Int) = (y : Int) := by rw [IntKind.wrap_i64]; omega
  generalize hd : (L.getD p.pos 0).toNat = d at *
  have hgd : ((mkB L)[p.pos].toNat : Int) = (d : Int) := by rw [hg, hd]
  unfold esc at hx
  have hend : ∀ (m : Nat), TS B P L tv iv ((w.drewN m).setCell ⟨P, 1, none⟩ (.int .i64 (y : Int))) { p with pos := y } ∧ Below B w ((w.drewN m).setCell ⟨P, 1, none⟩ (.int .i64 (y : Int))) ∧ ∀ g : Nat, g ≠ P → ((w.drewN m).setCell ⟨P, 1, none⟩ (.int .i64 (y : Int))).heap[g]? = w.heap[g]? := fun m => ⟨HSP.out m _ (fun g => rfl), (below_drewN (Below.refl B w) m).setCell (p := ⟨P, 1, none⟩) HPB.out _, fun g hg => Below.heap_setCell (w.drewN m) ⟨P, 1, none⟩ _ g hg⟩
  have HEN : Hid (∀ (m : Nat), TS B P L tv iv ((w.drewN m).setCell ⟨P, 1, none⟩ (.int .i64 (y : Int))) { p with pos := y } ∧ Below B w ((w.drewN m).setCell ⟨P, 1, none⟩ (.int .i64 (y : Int))) ∧ ∀ g : Nat, g ≠ P → ((w.drewN m).setCell ⟨P, 1, none⟩ (.int .i64 (y : Int))).heap[g]? = w.heap[g]?) := hend
  clear h hend HSP hg hd hy
  by_cases h1 : d = 110
  · rw [if_pos h1] at hx
    obtain rfl : 10 = x := Option.some.inj hx
    have A : Hid (∀ n, Calls Tryd.prog 20 #[.pointer (some ⟨P, 0, none⟩), .int .u8 110] (w.drewN n) fun e w' => e = .returned (.bool true) ∧ Dr w w') := fun n => by
      have h9 := HSe.out n 110 (by decide)
      rwa [show decide (d = 110) = true from by simpa using h1] at h9
    clear hx h1 HSe
    go_enter Tryd.func47, Tryd.ntmps47
    go_wp2_with fail
    refine (A.out 0).mono ?_
    rintro e w' ⟨rfl, nA, rfl⟩
    go_wp2
    go_ret
    exact ⟨rfl, (HEN.out nA).1, (HEN.out nA).2.1, (HEN.out nA).2.2⟩
  · rw [if_neg h1] at hx
    have A : Hid (∀ n, Calls Tryd.prog 20 #[.pointer (some ⟨P, 0, none⟩), .int .u8 110] (w.drewN n) fun e w' => e = .returned (.bool false) ∧ Dr w w') := fun n => by
      have h9 := HSe.out n 110 (by decide)
      rwa [show decide (d = 110) = false from by simpa using h1] at h9
    by_cases h2 : d = 116
    · rw [if_pos h2] at hx
      obtain rfl : 9 = x := Option.some.inj hx
      have C : Hid (∀ n, Calls Tryd.prog 20 #[.pointer (some ⟨P, 0, none⟩), .int .u8 116] (w.drewN n) fun e w' => e = .returned (.bool true) ∧ Dr w w') := fun n => by
        have h9 := HSe.out n 116 (by decide)
        rwa [show decide (d = 116) = true from by simpa using h2] at h9
      clear hx h1 h2 HSe
      go_enter Tryd.func47, Tryd.ntmps47
      go_wp2_with fail
      refine (A.out 0).mono ?_
      rintro e w' ⟨rfl, nA, rfl⟩
      go_wp2_with fail
      refine (C.out nA).mono ?_
      rintro e w' ⟨rfl, nC, rfl⟩
      go_wp2
      go_ret
      exact ⟨rfl, (HEN.out nC).1, (HEN.out nC).2.1, (HEN.out nC).2.2⟩
    · rw [if_neg h2] at hx
      have C : Hid (∀ n, Calls Tryd.prog 20 #[.pointer (some ⟨P, 0, none⟩), .int .u8 116] (w.drewN n) fun e w' => e = .returned (.bool false) ∧ Dr w w') := fun n => by
        have h9 := HSe.out n 116 (by decide)
        rwa [show decide (d = 116) = false from by simpa using h2] at h9
      by_cases h3 : d = 92
      · rw [if_pos h3] at hx
        obtain rfl : 92 = x := Option.some.inj hx
        have D : Hid (∀ n, Calls Tryd.prog 20 #[.pointer (some ⟨P, 0, none⟩), .int .u8 92] (w.drewN n) fun e w' => e = .returned (.bool true) ∧ Dr w w') := fun n => by
          have h9 := HSe.out n 92 (by decide)
          rwa [show decide (d = 92) = true from by simpa using h3] at h9
        subst h3
        clear hx h1 h2 HSe
        go_enter Tryd.func47, Tryd.ntmps47
        go_wp2_with fail
        refine (A.out 0).mono ?_
        rintro e w' ⟨rfl, nA, rfl⟩
        go_wp2_with fail
        refine (C.out nA).mono ?_
        rintro e w' ⟨rfl, nC, rfl⟩
        go_wp2_with fail
        refine (D.out nC).mono ?_
        rintro e w' ⟨rfl, nD, rfl⟩
        go_wp2
        go_quiet (fail)
        go_wp2
        go_ret
        exact ⟨rfl, (HEN.out _).1, (HEN.out _).2.1, (HEN.out _).2.2⟩
      · rw [if_neg h3] at hx
        have D : Hid (∀ n, Calls Tryd.prog 20 #[.pointer (some ⟨P, 0, none⟩), .int .u8 92] (w.drewN n) fun e w' => e = .returned (.bool false) ∧ Dr w w') := fun n => by
          have h9 := HSe.out n 92 (by decide)
          rwa [show decide (d = 92) = false from by simpa using h3] at h9
        by_cases h4 : d = 34
        · rw [if_pos h4] at hx
          obtain rfl : 34 = x := Option.some.inj hx
          have E : Hid (∀ n, Calls Tryd.prog 20 #[.pointer (some ⟨P, 0, none⟩), .int .u8 34] (w.drewN n) fun e w' => e = .returned (.bool true) ∧ Dr w w') := fun n => by
            have h9 := HSe.out n 34 (by decide)
            rwa [show decide (d = 34) = true from by simpa using h4] at h9
          subst h4
          clear hx h1 h2 h3 HSe
          go_enter Tryd.func47, Tryd.ntmps47
          go_wp2_with fail
          refine (A.out 0).mono ?_
          rintro e w' ⟨rfl, nA, rfl⟩
          go_wp2_with fail
          refine (C.out nA).mono ?_
          rintro e w' ⟨rfl, nC, rfl⟩
          go_wp2_with fail
          refine (D.out nC).mono ?_
          rintro e w' ⟨rfl, nD, rfl⟩
          go_wp2_with fail
          refine (E.out nD).mono ?_
          rintro e w' ⟨rfl, nE, rfl⟩
          go_wp2
          go_quiet (fail)
          go_wp2
          go_ret
          exact ⟨rfl, (HEN.out _).1, (HEN.out _).2.1, (HEN.out _).2.2⟩
        · rw [if_neg h4] at hx
          cases hx

set_option maxHeartbeats 4000000 in
theorem escaped_no {B P : Nat} {L : List UInt8} {tv iv : Value} {w : World} {p : Sp} (h : TS B P L tv iv w p) (hp : p.pos ≤ L.length) (hx : esc (L.getD p.pos 0).toNat = none) :
    Calls Tryd.prog 47 #[.pointer (some ⟨P, 0, none⟩)] w fun e w' => e = PF 1 p.pos ∧ ∃ n, w' = w.drewN n := by
  have HSe : Hid (∀ n (c : Nat), c ≠ 0 → Calls Tryd.prog 20 #[.pointer (some ⟨P, 0, none⟩), .int .u8 c] (w.drewN n) fun e w' => e = .returned (.bool (decide ((L.getD p.pos 0).toNat = c))) ∧ Dr w w') := fun n c hc => (sees_any (h.drewN n) hp c hc).mono fun e w' ⟨a, m, b⟩ => ⟨a, by rw [b]; exact Dr.drewN ⟨n, rfl⟩ m⟩
  have HGu : Hid (∀ n, Calls Tryd.prog 24 #[.pointer (some ⟨P, 0, none⟩), .int .i64 1] (w.drewN n) fun e w' => e = PF 1 p.pos ∧ w' = w.drewN n) := fun n => giveUp_any (h.drewN n) 1
  generalize (L.getD p.pos 0).toNat = d at *
  unfold esc at hx
  have h1 : ¬ d = 110 := fun e => by rw [if_pos e] at hx; cases hx
  rw [if_neg h1] at hx
  have h2 : ¬ d = 116 := fun e => by rw [if_pos e] at hx; cases hx
  rw [if_neg h2] at hx
  have h3 : ¬ d = 92 := fun e => by rw [if_pos e] at hx; cases hx
  rw [if_neg h3] at hx
  have h4 : ¬ d = 34 := fun e => by rw [if_pos e] at hx; cases hx
  have A : Hid (∀ n, Calls Tryd.prog 20 #[.pointer (some ⟨P, 0, none⟩), .int .u8 110] (w.drewN n) fun e w' => e = .returned (.bool false) ∧ Dr w w') := fun n => by
    have h9 := HSe.out n 110 (by decide)
    rwa [show decide (d = 110) = false from by simpa using h1] at h9
  have C : Hid (∀ n, Calls Tryd.prog 20 #[.pointer (some ⟨P, 0, none⟩), .int .u8 116] (w.drewN n) fun e w' => e = .returned (.bool false) ∧ Dr w w') := fun n => by
    have h9 := HSe.out n 116 (by decide)
    rwa [show decide (d = 116) = false from by simpa using h2] at h9
  have D : Hid (∀ n, Calls Tryd.prog 20 #[.pointer (some ⟨P, 0, none⟩), .int .u8 92] (w.drewN n) fun e w' => e = .returned (.bool false) ∧ Dr w w') := fun n => by
    have h9 := HSe.out n 92 (by decide)
    rwa [show decide (d = 92) = false from by simpa using h3] at h9
  have E : Hid (∀ n, Calls Tryd.prog 20 #[.pointer (some ⟨P, 0, none⟩), .int .u8 34] (w.drewN n) fun e w' => e = .returned (.bool false) ∧ Dr w w') := fun n => by
    have h9 := HSe.out n 34 (by decide)
    rwa [show decide (d = 34) = false from by simpa using h4] at h9
  clear hx h1 h2 h3 h4 HSe h
  go_enter Tryd.func47, Tryd.ntmps47
  go_wp2_with fail
  refine (A.out 0).mono ?_
  rintro e w' ⟨rfl, nA, rfl⟩
  go_wp2_with fail
  refine (C.out nA).mono ?_
  rintro e w' ⟨rfl, nC, rfl⟩
  go_wp2_with fail
  refine (D.out nC).mono ?_
  rintro e w' ⟨rfl, nD, rfl⟩
  go_wp2_with fail
  refine (E.out nD).mono ?_
  rintro e w' ⟨rfl, nE, rfl⟩
  go_wp2_with fail
  refine (HGu.out nE).mono ?_
  rintro e w' ⟨rfl, rfl⟩
  go_wp2
  exact ⟨rfl, rfl, nE, rfl⟩

theorem escaped_no' {B P : Nat} {L : List UInt8} {tv iv : Value} {w : World} {p : Sp} (h : TS B P L tv iv w p) (hp : p.pos ≤ L.length) (hx : esc (L.getD p.pos 0).toNat = none) :
    Calls Tryd.prog 47 #[.pointer (some ⟨P, 0, none⟩)] w fun e w' => e = PF 1 p.pos ∧ Below B w w' ∧ ∀ g : Nat, g ≠ P → w'.heap[g]? = w.heap[g]? := (escaped_no h hp hx).mono fun _ _ ⟨a, n, b⟩ => ⟨a, by rw [b]; exact below_drewN (Below.refl _ _) n, by rw [b]; exact fun _ _ => rfl⟩
end Go.Proofs.YtdfimmekhbkglaaDoor
