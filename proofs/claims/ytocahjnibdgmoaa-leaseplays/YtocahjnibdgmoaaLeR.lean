/- A book of leases: a beat; it is done. -/
import Derived.Test.YtocahjnibdgmoaaLeQ
namespace Go.Proofs.Ytocahjnibdgmoaa
open Go.RowKit Go.Shelf Go.Maps Go.WideMaps Go.Sort

section
variable {Bk : Nat} {w : World} {Q : World → Prop} {s : ByteArray} {k now er : Int}
set_option maxHeartbeats 2000000 in
set_option maxRecDepth 100000 in
theorem Beat_fail (hc : Calls Try.prog 36 #[.pointer (some ⟨Bk, 0, none⟩), .string s, .int .i64 k, .int .i64 now] w fun e w' => e = .returned (.tuple #[.pointer none, .int .i64 er]) ∧ Q w') (he : er ≠ 0) :
    Calls Try.prog 14 #[.pointer (some ⟨Bk, 0, none⟩), .string s, .int .i64 k, .int .i64 now] w fun e w' => e = .returned (.int .i64 er) ∧ Q w' := by
  have HC : Hid (Calls Try.prog 36 #[.pointer (some ⟨Bk, 0, none⟩), .string s, .int .i64 k, .int .i64 now] w fun e w' => e = .returned (.tuple #[.pointer none, .int .i64 er]) ∧ Hid (Q w')) := hc
  have k0 : (er == 0) = false := beq_eq_false_iff_ne.2 he
  clear he hc
  go_enter Try.func14, Try.ntmps14
  go_wp2_with (first
    | (go_at_call 36; refine HC.out.mono ?_; rintro e w' ⟨rfl, r2⟩)
    | go_in)
  go_ret
  exact ⟨rfl, r2.out⟩

set_option maxHeartbeats 2000000 in
set_option maxRecDepth 100000 in
theorem Done_fail (hc : Calls Try.prog 36 #[.pointer (some ⟨Bk, 0, none⟩), .string s, .int .i64 k, .int .i64 now] w fun e w' => e = .returned (.tuple #[.pointer none, .int .i64 er]) ∧ Q w') (he : er ≠ 0) (g : Bool) :
    Calls Try.prog 16 #[.pointer (some ⟨Bk, 0, none⟩), .string s, .int .i64 k, .int .i64 now, .bool g] w fun e w' => e = .returned (.int .i64 er) ∧ Q w' := by
  have HC : Hid (Calls Try.prog 36 #[.pointer (some ⟨Bk, 0, none⟩), .string s, .int .i64 k, .int .i64 now] w fun e w' => e = .returned (.tuple #[.pointer none, .int .i64 er]) ∧ Hid (Q w')) := hc
  have k0 : (er == 0) = false := beq_eq_false_iff_ne.2 he
  clear he hc
  go_enter Try.func16, Try.ntmps16
  go_wp2_with (first
    | (go_at_call 36; refine HC.out.mono ?_; rintro e w' ⟨rfl, r2⟩)
    | go_in)
  go_ret
  exact ⟨rfl, r2.out⟩
end

section
variable {B Bk M : Nat} {a b c nw : Int} {E E1 E2 : List Ent} {x : Ent} {w : World}

set_option maxHeartbeats 2000000 in
set_option maxRecDepth 100000 in
theorem Beat_ok {n2 : Int} {I : List Nat} {s : ByteArray} {k now : Int} (hc : Calls Try.prog 36 #[.pointer (some ⟨Bk, 0, none⟩), .string s, .int .i64 k, .int .i64 now] w fun e w' => e = .returned (.tuple #[.pointer (some ⟨x.blk, 0, none⟩), .int .i64 0]) ∧ BS B Bk M a b c n2 (E1 ++ x :: E2) w' ∧ Upd I (bids Bk M (E1 ++ x :: E2)) w w') (hs : x.ts.length ≤ 1000000) (hk : (Lit.int .i64 k).wf = true) (ht : (Lit.int .i64 (now + a)).wf = true) :
    Calls Try.prog 14 #[.pointer (some ⟨Bk, 0, none⟩), .string s, .int .i64 k, .int .i64 now] w fun e w' => e = .returned (.int .i64 0) ∧ ∃ x' : Ent, pl x' = { pl x with ts := insT (k, now + a) (offT k x.ts) } ∧ x'.nm = x.nm ∧ BS B Bk M a b c n2 (E1 ++ x' :: E2) w' ∧ Upd I (bids Bk M (E1 ++ x' :: E2)) w w' := by
  have HC : Hid (Calls Try.prog 36 #[.pointer (some ⟨Bk, 0, none⟩), .string s, .int .i64 k, .int .i64 now] w fun e w' => e = .returned (.tuple #[.pointer (some ⟨x.blk, 0, none⟩), .int .i64 0]) ∧ Hid (BS B Bk M a b c n2 (E1 ++ x :: E2) w' ∧ Upd I (bids Bk M (E1 ++ x :: E2)) w w')) := hc
  obtain ⟨t, et⟩ : ∃ t, t = now + a := ⟨_, rfl⟩
  have hwr : IntKind.i64.wrap t = t := by
    rw [← et] at ht
    have z : decide (-9223372036854775808 ≤ t) = true ∧ decide (t ≤ 9223372036854775807) = true := by simpa [Lit.wf, IntKind.min, IntKind.max, IntKind.signed, IntKind.bits] using ht
    have z1 := of_decide_eq_true z.1
    have z2 := of_decide_eq_true z.2
    rw [IntKind.wrap_i64]; omega
  have HL : Hid (∀ w', BS B Bk M a b c n2 (E1 ++ x :: E2) w' → Calls Try.prog 33 #[.pointer (some ⟨x.blk, 0, none⟩), .int .i64 k, .int .i64 t] w' fun e w'' => e = .returned (.tuple #[]) ∧ ∃ x' : Ent, pl x' = { pl x with ts := insT (k, t) (offT k x.ts) } ∧ x'.nm = x.nm ∧ BS B Bk M a b c n2 (E1 ++ x' :: E2) w'' ∧ Upd (bids Bk M (E1 ++ x :: E2)) (bids Bk M (E1 ++ x' :: E2)) w' w'') := fun w' hb => lend_any hb hs k t hk (by rw [et]; exact ht)
  have et2 : now + a = t := et.symm
  rw [et2]
  clear hc hs hk ht et
  go_enter Try.func14, Try.ntmps14
  go_wp2_with (first
    | (go_at_call 36; refine HC.out.mono ?_; rintro e w1 ⟨rfl, R2⟩; have c0 := R2.out.1.c0)
    | (go_at_call 33; refine (HL.out _ R2.out.1).mono ?_; rintro e w2 ⟨rfl, R3⟩; have R4 : Hid (∃ x' : Ent, pl x' = { pl x with ts := insT (k, t) (offT k x.ts) } ∧ x'.nm = x.nm ∧ BS B Bk M a b c n2 (E1 ++ x' :: E2) w2 ∧ Upd (bids Bk M (E1 ++ x :: E2)) (bids Bk M (E1 ++ x' :: E2)) w1 w2) := R3; clear R3)
    | go_in)
  go_ret
  obtain ⟨x', h1, h2, h3, h4⟩ := R4.out
  exact ⟨rfl, x', h1, h2, h3, R2.out.2.trans h4⟩
end
end Go.Proofs.Ytocahjnibdgmoaa
