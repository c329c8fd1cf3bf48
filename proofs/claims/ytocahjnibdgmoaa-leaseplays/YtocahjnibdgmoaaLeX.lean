/- A book of leases: terms that may not be; what laws draw; what must be in any case. -/
import Derived.Test.YtocahjnibdgmoaaLeW
namespace Go.Proofs.Ytocahjnibdgmoaa
open Go.RowKit Go.Shelf Go.Maps Go.WideMaps Go.Sort

def chs (c : Int) (m : Nat) : Nat := ((if c < 0 then -(c + 1) else c) % (m : Int)).toNat
theorem chs_lt (c : Int) {m : Nat} (h : 0 < m) : chs c m < m := by
  unfold chs
  have h2 := Int.emod_nonneg (if c < 0 then -(c + 1) else c) (show (m : Int) ≠ 0 by omega)
  have h3 := Int.emod_lt_of_pos (if c < 0 then -(c + 1) else c) (show 0 < (m : Int) by omega)
  omega

set_option maxHeartbeats 2000000 in
theorem choose_any (c : Int) (m : Nat) (w : World) (h0 : -9223372036854775808 ≤ c) (h1 : c ≤ 9223372036854775807) (hm : 0 < m) :
    Calls Try.prog 9 #[.int .i64 c, .int .i64 m] w fun e w' => e = .returned (.int .i64 (chs c m : Int)) ∧ w' = w := by
  have hmi : (0 : Int) < (m : Int) := by omega
  have hm0 : ((m : Int) == 0) = false := by simp; omega
  have key : ∀ d : Int, 0 ≤ d → d.tmod (m : Int) = ((d % (m : Int)).toNat : Int) ∧ d % (m : Int) = ((d % (m : Int)).toNat : Int) := fun d hd => by
    have h2 := Int.emod_nonneg d (show (m : Int) ≠ 0 by omega)
    refine ⟨?_, by omega⟩
    rw [Int.tmod_eq_emod_of_nonneg hd]
    omega
  by_cases hc : c < 0
  · obtain ⟨d, hd⟩ : ∃ d : Int, d = -(c + 1) := ⟨_, rfl⟩
    obtain ⟨hr1, hr2⟩ := key d (by omega)
    have HC : Hid (chs c m = (d % (m : Int)).toNat) := by unfold Hid chs; rw [if_pos hc, hd]
    have x1 : wrap64 (c + 1) = c + 1 := by unfold wrap64; omega
    have x2 : IntKind.i64.wrap (c + 1) = c + 1 := by rw [IntKind.wrap_i64]; omega
    have x3 : wrap64 (-(c + 1)) = d := by unfold wrap64; omega
    have x4 : IntKind.i64.wrap (-(c + 1)) = d := by rw [IntKind.wrap_i64]; omega
    have hd0 : 0 ≤ d := by omega
    generalize (d % (m : Int)).toNat = r at *
    clear key hd h0 h1
    go_enter Try.func9, Try.ntmps9
    go_wp2
    go_ret
    exact ⟨by rw [HC.out]; simp, rfl⟩
  · obtain ⟨hr1, hr2⟩ := key c (by omega)
    have HC : Hid (chs c m = (c % (m : Int)).toNat) := by unfold Hid chs; rw [if_neg hc]
    have hc0 : 0 ≤ c := by omega
    generalize (c % (m : Int)).toNat = r at *
    clear key h1 hc
    go_enter Try.func9, Try.ntmps9
    go_wp2
    go_ret
    exact ⟨by rw [HC.out]; simp, rfl⟩

set_option maxHeartbeats 2000000 in
set_option maxRecDepth 100000 in
theorem LNew_no (a b c : Int) (w : World) (h : ¬ termsOk a b c) :
    Calls Try.prog 7 #[.agg #[.int .i64 a, .int .i64 b, .int .i64 c]] w fun e w' => e = .returned (.tuple #[.pointer none, .int .i64 3]) ∧ Below w.heap.size w w' := by
  have HB : Hid (Below w.heap.size w (w.alloc (.cells #[.int .i64 a, .int .i64 b, .int .i64 c] 23))) := (Below.refl _ w).alloc (Nat.le_refl _) _
  have H : Hid (¬ termsOk a b c) := h
  clear h
  by_cases h1 : a < 1
  · go_enter Try.func7, Try.ntmps7
    go_wp2
    go_ret2
    exact ⟨rfl, HB.out⟩
  by_cases h2 : 1000000000 < a
  · go_enter Try.func7, Try.ntmps7
    go_wp2
    go_ret2
    exact ⟨rfl, HB.out⟩
  by_cases h3 : b < 1
  · go_enter Try.func7, Try.ntmps7
    go_wp2
    go_ret2
    exact ⟨rfl, HB.out⟩
  by_cases h4 : 10 < b
  · go_enter Try.func7, Try.ntmps7
    go_wp2
    go_ret2
    exact ⟨rfl, HB.out⟩
  by_cases h5 : c < 1
  · go_enter Try.func7, Try.ntmps7
    go_wp2
    go_ret2
    exact ⟨rfl, HB.out⟩
  have h6 : 5 < c := by
    have := H.out
    unfold termsOk at this
    omega
  go_enter Try.func7, Try.ntmps7
  go_wp2
  go_ret2
  exact ⟨rfl, HB.out⟩

theorem termsNat {a b c : Int} (h : termsOk a b c) : ∃ a' b' c' : Nat, (a' : Int) = a ∧ (b' : Int) = b ∧ (c' : Int) = c := by
  obtain ⟨h1, h2, h3, h4, h5, h6⟩ := h
  exact ⟨a.toNat, b.toNat, c.toNat, by omega, by omega, by omega⟩
theorem LNew_any {a b c : Int} (w : World) (h : termsOk a b c) :
    Calls Try.prog 7 #[.agg #[.int .i64 a, .int .i64 b, .int .i64 c]] w fun e w' => ∃ Bk I, e = .returned (.tuple #[.pointer (some ⟨Bk, 0, none⟩), .int .i64 0]) ∧ Bok w.heap.size Bk a b c 0 [] I w' ∧ (∀ g ∈ I, w.heap.size ≤ g) ∧ Below w.heap.size w w' := by
  obtain ⟨a', b', c', rfl, rfl, rfl⟩ := termsNat h
  exact LNew_ok a' b' c' w h

/-- The text "a". -/
def tA : ByteArray := ⟨#[97]⟩
theorem tA_list : tA.data.toList = [97] := rfl
theorem tA_ok : nameOk tA = true := by
  have e : tA.toList = [97] := by rw [Lib.toList_data]; rfl
  unfold nameOk
  rw [e]
  decide
theorem tA_sz : tA.size ≤ maxLen := by show 1 ≤ maxLen; unfold maxLen; omega
theorem addA : adE [] tA = 0 ∧ adP [] tA = [⟨[97], false, 0, []⟩] := by
  have h : adE [] tA = 0 := by
    unfold adE
    rw [if_neg (by rw [tA_ok]; decide)]
    decide
  exact ⟨h, by unfold adP; rw [if_pos h]; rfl⟩
theorem grantA {a b c : Int} (h : termsOk a b c) : grE b c 0 [⟨[97], false, 0, []⟩] [97] 1 0 = 0 ∧ grP a b c 0 [⟨[97], false, 0, []⟩] [97] 1 0 = [⟨[97], false, 1, [(1, a)]⟩] := by
  obtain ⟨h1, h2, h3, h4, h5, h6⟩ := h
  have e1 : refP b c 1 ⟨[97], false, 0, []⟩ = 0 := by
    have l1 : lst false 0 0 b = 1 := by unfold lst; rw [if_neg (by decide), if_neg (by decide), if_neg (by omega)]
    show refC (lst false 0 0 b) 0 0 b c false = 0
    rw [l1]
    unfold refC
    rw [if_neg (by decide), if_neg (by decide), if_neg (by omega)]
  have e0 : grE b c 0 [⟨[97], false, 0, []⟩] [97] 1 0 = refP b c 1 ⟨[97], false, 0, []⟩ := rfl
  refine ⟨e0.trans e1, ?_⟩
  unfold grP
  rw [e0, if_pos e1]
  show [grF 1 (0 + a) ⟨[97], false, 0, []⟩] = _
  rw [Int.zero_add]
  rfl

/-- A book that was made behind w0. -/
def BA (w0 : World) (Bk : Nat) (a b c nw : Int) (P : List Pj) (w : World) : Prop := ∃ I, Bok w0.heap.size Bk a b c nw P I w ∧ Below w0.heap.size w0 w
section
variable {w0 w w' : World} {Bk : Nat} {a b c nw : Int} {P : List Pj}
theorem BA.of {I I' : List Nat} {nw' : Int} {P' : List Pj} (h : Bok w0.heap.size Bk a b c nw P I w) (hb : Below w0.heap.size w0 w) (h' : Bok w0.heap.size Bk a b c nw' P' I' w') (hu : Upd I I' w w') : BA w0 Bk a b c nw' P' w' :=
  ⟨I', h', hb.trans (hu.below (fun g hg => (h.lt g hg).1) hb.size)⟩
theorem BA.up (h : BA w0 Bk a b c nw P w) (hb : Below w.heap.size w w') : BA w0 Bk a b c nw P w' := by
  obtain ⟨I, h1, h2⟩ := h
  exact ⟨I, h1.up hb, h2.trans (hb.mono h2.size)⟩
theorem BA.bel (h : BA w0 Bk a b c nw P w) : Below w0.heap.size w0 w := by obtain ⟨_, _, h⟩ := h; exact h
theorem BA.add (h : BA w0 Bk a b c nw P w) (s : ByteArray) (hs : s.size ≤ maxLen) : Calls Try.prog 10 #[.pointer (some ⟨Bk, 0, none⟩), .string s] w fun e w' => e = .returned (.int .i64 (adE P s)) ∧ BA w0 Bk a b c nw (adP P s) w' := by
  obtain ⟨I, h1, h2⟩ := h
  refine (h1.add s hs).mono ?_
  rintro e w' ⟨rfl, I', r1, r2⟩
  exact ⟨rfl, BA.of h1 h2 r1 r2⟩
theorem BA.grant (h : BA w0 Bk a b c nw P w) (s : ByteArray) (hs : s.size ≤ maxLen) (k now : Int) (hk : (Lit.int .i64 k).wf = true) : Calls Try.prog 12 #[.pointer (some ⟨Bk, 0, none⟩), .string s, .int .i64 k, .int .i64 now] w fun e w' => e = .returned (.int .i64 (grE b c nw P s.data.toList k now)) ∧ BA w0 Bk a b c (tellN nw now (nobody k)) (grP a b c nw P s.data.toList k now) w' := by
  obtain ⟨I, h1, h2⟩ := h
  refine (h1.grant s hs k now hk).mono ?_
  rintro e w' ⟨rfl, I', r1, r2⟩
  exact ⟨rfl, BA.of h1 h2 r1 r2⟩
theorem BA.beat (h : BA w0 Bk a b c nw P w) (s : ByteArray) (hs : s.size ≤ maxLen) (k now : Int) (hk : (Lit.int .i64 k).wf = true) : Calls Try.prog 14 #[.pointer (some ⟨Bk, 0, none⟩), .string s, .int .i64 k, .int .i64 now] w fun e w' => e = .returned (.int .i64 (leE nw P s.data.toList k now)) ∧ BA w0 Bk a b c (tellN nw now (nobody k)) (beP a nw P s.data.toList k now) w' := by
  obtain ⟨I, h1, h2⟩ := h
  refine (h1.beat s hs k now hk).mono ?_
  rintro e w' ⟨rfl, I', r1, r2⟩
  exact ⟨rfl, BA.of h1 h2 r1 r2⟩
theorem BA.done (h : BA w0 Bk a b c nw P w) (s : ByteArray) (hs : s.size ≤ maxLen) (k now : Int) (hk : (Lit.int .i64 k).wf = true) (g : Bool) : Calls Try.prog 16 #[.pointer (some ⟨Bk, 0, none⟩), .string s, .int .i64 k, .int .i64 now, .bool g] w fun e w' => e = .returned (.int .i64 (leE nw P s.data.toList k now)) ∧ BA w0 Bk a b c (tellN nw now (nobody k)) (doP nw P s.data.toList k now g) w' := by
  obtain ⟨I, h1, h2⟩ := h
  refine (h1.done s hs k now hk g).mono ?_
  rintro e w' ⟨rfl, I', r1, r2⟩
  exact ⟨rfl, BA.of h1 h2 r1 r2⟩
theorem BA.tick (h : BA w0 Bk a b c nw P w) (now : Int) : Calls Try.prog 18 #[.pointer (some ⟨Bk, 0, none⟩), .int .i64 now] w fun e w' => ∃ ao cap, e = .returned (.tuple #[.slice ao (tellT nw now false P).length cap, .int .i64 (tellE nw now false)]) ∧ w'.ownsRow w.heap.size 9 1 (.slice ao (tellT nw now false P).length cap) (tellT nw now false P).length ((tellT nw now false P).map encStr) ∧ BA w0 Bk a b c (tellN nw now false) (tellP nw now false P) w' := by
  obtain ⟨I, h1, h2⟩ := h
  refine (h1.tick now).mono ?_
  rintro e w' ⟨v, rfl, r0, r1, r2⟩
  obtain ⟨ao, cap, rfl⟩ := row_shape r0
  exact ⟨ao, cap, rfl, r0, BA.of h1 h2 r1 r2⟩
theorem BA.state (h : BA w0 Bk a b c nw P w) (s : ByteArray) (hs : s.size ≤ maxLen) : Calls Try.prog 21 #[.pointer (some ⟨Bk, 0, none⟩), .string s] w fun e w' => e = .returned (match fndP P s.data.toList with | none => .tuple #[.int .i64 0, .int .i64 0] | some p => .tuple #[.int .i64 (lst p.dn p.ts.length p.tr b), .int .i64 (p.tr : Int)]) ∧ BA w0 Bk a b c nw P w' := by
  obtain ⟨I, h1, h2⟩ := h
  refine (h1.state s hs).mono ?_
  rintro e w' ⟨rfl, m, rfl⟩
  exact ⟨rfl, I, h1.drewN m, h2.trans ⟨rfl, rfl, rfl, Nat.le_refl _, fun _ _ => rfl⟩⟩
theorem BA.leases (h : BA w0 Bk a b c nw P w) : Calls Try.prog 23 #[.pointer (some ⟨Bk, 0, none⟩)] w fun e w' => ∃ ao cap, e = .returned (.slice ao (lsP P).length cap) ∧ w'.ownsRow w.heap.size 52 3 (.slice ao (lsP P).length cap) (lsP P).length (lcs (lsP P)) ∧ BA w0 Bk a b c nw P w' ∧ Below w.heap.size w w' := by
  obtain ⟨I, h1, h2⟩ := h
  refine h1.leases.mono ?_
  rintro e w' ⟨v, rfl, r0, r1⟩
  obtain ⟨ao, cap, rfl⟩ := row_shape r0
  exact ⟨ao, cap, rfl, r0, ⟨I, h1.up r1, h2.trans (r1.mono h2.size)⟩, r1⟩
theorem BA.new (ht : termsOk a b c) (hb : Below w0.heap.size w0 w) : Calls Try.prog 7 #[.agg #[.int .i64 a, .int .i64 b, .int .i64 c]] w fun e w' => ∃ Bk, e = .returned (.tuple #[.pointer (some ⟨Bk, 0, none⟩), .int .i64 0]) ∧ BA w0 Bk a b c 0 [] w' := by
  refine (LNew_any w ht).mono ?_
  rintro e w' ⟨Bk, I, rfl, r1, r2, r3⟩
  obtain ⟨⟨M, E, x1, x2, x3⟩, pi⟩ := r1
  refine ⟨Bk, rfl, I, ⟨⟨M, E, ⟨Nat.le_trans hb.size x1.lo, Nat.le_trans hb.size x1.loM, x1.blk, x1.own, fun e he => ?_, x1.apart⟩, x2, x3⟩, pi⟩, hb.trans (r3.mono hb.size)⟩
  have hj := x1.jobs e he
  refine ⟨Nat.le_trans hb.size hj.lo, hj.blk, ?_⟩
  rcases hj.till with h | ⟨t, h1, h2, h3⟩
  · exact .inl h
  · exact .inr ⟨t, h1, Nat.le_trans hb.size h2, h3⟩
end

set_option maxHeartbeats 2000000 in
set_option maxRecDepth 100000 in
theorem lbegun (w : World) : Calls Try.prog 6 #[] w fun e w' => e = .returned (.bool true) ∧ Below w.heap.size w w' := by
  have ht : termsOk 5 2 1 := by unfold termsOk; omega
  have HN : Hid (∀ W, Below w.heap.size w W → Calls Try.prog 7 #[.agg #[.int .i64 5, .int .i64 2, .int .i64 1]] W fun e w' => ∃ Bk, e = .returned (.tuple #[.pointer (some ⟨Bk, 0, none⟩), .int .i64 0]) ∧ Hid (BA w Bk 5 2 1 0 [] w')) := fun W hb => BA.new ht hb
  have HA : Hid (∀ W Bk, BA w Bk 5 2 1 0 [] W → Calls Try.prog 10 #[.pointer (some ⟨Bk, 0, none⟩), .string ⟨#[97]⟩] W fun e w' => e = .returned (.int .i64 0) ∧ Hid (BA w Bk 5 2 1 0 [⟨[97], false, 0, []⟩] w')) := fun W Bk h => by
    have := h.add tA tA_sz
    rw [addA.1, addA.2] at this
    exact this
  have HG : Hid (∀ W Bk, BA w Bk 5 2 1 0 [⟨[97], false, 0, []⟩] W → Calls Try.prog 12 #[.pointer (some ⟨Bk, 0, none⟩), .string ⟨#[97]⟩, .int .i64 1, .int .i64 0] W fun e w' => e = .returned (.int .i64 0) ∧ Hid (BA w Bk 5 2 1 0 [⟨[97], false, 1, [(1, 5)]⟩] w')) := fun W Bk h => by
    have := h.grant tA tA_sz 1 0 (by decide)
    rw [tA_list, (grantA ht).1, (grantA ht).2] at this
    exact this
  have HS : Hid (∀ W Bk, BA w Bk 5 2 1 0 [⟨[97], false, 1, [(1, 5)]⟩] W → Calls Try.prog 21 #[.pointer (some ⟨Bk, 0, none⟩), .string ⟨#[97]⟩] W fun e w' => e = .returned (.tuple #[.int .i64 2, .int .i64 1]) ∧ Hid (BA w Bk 5 2 1 0 [⟨[97], false, 1, [(1, 5)]⟩] w')) := fun W Bk h => h.state tA tA_sz
  have HB0 : Hid (Below w.heap.size w w) := Below.refl _ _
  clear ht
  go_enter Try.func6, Try.ntmps6
  go_wp2_with (first
    | (go_at_call 7; refine (HN.out _ HB0.out).mono ?_; rintro e w1 ⟨Bk, rfl, R1⟩)
    | (go_at_call 10; refine (HA.out _ _ R1.out).mono ?_; rintro e w2 ⟨rfl, R2⟩)
    | (go_at_call 12; refine (HG.out _ _ R2.out).mono ?_; rintro e w3 ⟨rfl, R3⟩)
    | (go_at_call 21; refine (HS.out _ _ R3.out).mono ?_; rintro e w4 ⟨rfl, R4⟩)
    | go_in)
  go_ret
  exact ⟨rfl, R4.out.bel⟩
end Go.Proofs.Ytocahjnibdgmoaa
