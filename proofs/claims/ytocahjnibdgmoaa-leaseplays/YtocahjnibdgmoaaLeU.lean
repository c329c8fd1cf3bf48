/- A book of leases: a lease is granted; the state of a job. -/
import Derived.Test.YtocahjnibdgmoaaLeS
namespace Go.Proofs.Ytocahjnibdgmoaa
open Go.RowKit Go.Shelf Go.Maps Go.WideMaps Go.Sort

section
variable {B Bk M : Nat} {a b c nw : Int} {E E1 E2 : List Ent} {x : Ent} {w : World}

set_option maxHeartbeats 2000000 in
set_option maxRecDepth 100000 in
theorem Grant_err (h : BS B Bk M a b c nw E w) (hup : upE E) (hlen : E.length ≤ 1000000) (hshort : ∀ e ∈ E, e.ts.length ≤ 1000000) (s : ByteArray) (k now : Int) (he : tellE nw now (nobody k) ≠ 0) :
    Calls Try.prog 12 #[.pointer (some ⟨Bk, 0, none⟩), .string s, .int .i64 k, .int .i64 now] w fun e w' => e = .returned (.int .i64 (tellE nw now (nobody k))) ∧ BS B Bk M a b c (tellN nw now (nobody k)) (tellB nw now (nobody k) E) w' ∧ Upd (bids Bk M E) (bids Bk M E) w w' := by
  have HT : Hid (∀ t, Calls Try.prog 30 #[.pointer (some ⟨Bk, 0, none⟩), .int .i64 now, .slice (some ⟨w.heap.size, 0, none⟩) 1 1] (w.alloc (.cells #[.int .i64 k] t)) fun e w' => ∃ v, e = .returned (.tuple #[v, .int .i64 (tellE nw now (nobody k))]) ∧ BS B Bk M a b c (tellN nw now (nobody k)) (tellB nw now (nobody k) E) w' ∧ Upd (bids Bk M E) (bids Bk M E) w w') := fun t => tellw h hup hlen hshort k now t
  clear h hup hlen hshort
  generalize tellE nw now (nobody k) = er at *
  have k0 : (er == 0) = false := beq_eq_false_iff_ne.2 he
  clear he
  go_enter Try.func12, Try.ntmps12
  go_wp2_with (first
    | (go_at_call 30; refine (HT.out _).mono ?_; rintro e w' ⟨v, rfl, r2, r3⟩)
    | go_in)
  go_ret
  exact ⟨rfl, r2, r3⟩

set_option maxHeartbeats 2000000 in
set_option maxRecDepth 100000 in
theorem Grant_none (h : BS B Bk M a b c nw E w) (hup : upE E) (hlen : E.length ≤ 1000000) (hshort : ∀ e ∈ E, e.ts.length ≤ 1000000) (s : ByteArray) (hs : s.size ≤ maxLen) (k now : Int) (he : tellE nw now (nobody k) = 0) (hn : ∀ x ∈ tellB nw now (nobody k) E, x.nm ≠ s.data.toList) :
    Calls Try.prog 12 #[.pointer (some ⟨Bk, 0, none⟩), .string s, .int .i64 k, .int .i64 now] w fun e w' => e = .returned (.int .i64 5) ∧ BS B Bk M a b c (tellN nw now (nobody k)) (tellB nw now (nobody k) E) w' ∧ Upd (bids Bk M E) (bids Bk M E) w w' := by
  have HT : Hid (∀ t, Calls Try.prog 30 #[.pointer (some ⟨Bk, 0, none⟩), .int .i64 now, .slice (some ⟨w.heap.size, 0, none⟩) 1 1] (w.alloc (.cells #[.int .i64 k] t)) fun e w' => ∃ v, e = .returned (.tuple #[v, .int .i64 (tellE nw now (nobody k))]) ∧ BS B Bk M a b c (tellN nw now (nobody k)) (tellB nw now (nobody k) E) w' ∧ Upd (bids Bk M E) (bids Bk M E) w w') := fun t => tellw h hup hlen hshort k now t
  have HF : Hid (∀ w', BS B Bk M a b c (tellN nw now (nobody k)) (tellB nw now (nobody k) E) w' → Calls Try.prog 31 #[.pointer (some ⟨Bk, 0, none⟩), .string s] w' fun e w'' => e = .returned (.pointer none) ∧ w'' = w') := fun w' hb => find_none hb hs hn
  rw [he] at HT
  clear h hup hlen hshort hn he hs
  generalize tellB nw now (nobody k) E = EE at *
  generalize tellN nw now (nobody k) = nn at *
  go_enter Try.func12, Try.ntmps12
  go_wp2_with (first
    | (go_at_call 30; refine (HT.out _).mono ?_; rintro e w' ⟨v, rfl, r2, r3⟩; have R2 : Hid (BS B Bk M a b c nn EE w') := r2; clear r2)
    | (go_at_call 31; refine (HF.out _ R2.out).mono ?_; rintro e w' ⟨rfl, rfl⟩)
    | go_in)
  go_ret
  exact ⟨rfl, R2.out, r3⟩

set_option maxHeartbeats 2000000 in
set_option maxRecDepth 100000 in
theorem Grant_no {er : Int} (h : BS B Bk M a b c nw E w) (hup : upE E) (hlen : E.length ≤ 1000000) (hshort : ∀ e ∈ E, e.ts.length ≤ 1000000) (s : ByteArray) (hs : s.size ≤ maxLen) (k now : Int) (hk : (Lit.int .i64 k).wf = true) (he : tellE nw now (nobody k) = 0) (hx : x ∈ tellB nw now (nobody k) E) (hxs : x.ts.length ≤ 1000000) (hn : x.nm = s.data.toList) (her : refC (lst x.dn x.ts.length x.tr b) x.ts.length x.tr b c (hasT k x.ts) = er) (he0 : er ≠ 0) :
    Calls Try.prog 12 #[.pointer (some ⟨Bk, 0, none⟩), .string s, .int .i64 k, .int .i64 now] w fun e w' => e = .returned (.int .i64 er) ∧ BS B Bk M a b c (tellN nw now (nobody k)) (tellB nw now (nobody k) E) w' ∧ Upd (bids Bk M E) (bids Bk M E) w w' := by
  have HT : Hid (∀ t, Calls Try.prog 30 #[.pointer (some ⟨Bk, 0, none⟩), .int .i64 now, .slice (some ⟨w.heap.size, 0, none⟩) 1 1] (w.alloc (.cells #[.int .i64 k] t)) fun e w' => ∃ v, e = .returned (.tuple #[v, .int .i64 (tellE nw now (nobody k))]) ∧ BS B Bk M a b c (tellN nw now (nobody k)) (tellB nw now (nobody k) E) w' ∧ Upd (bids Bk M E) (bids Bk M E) w w') := fun t => tellw h hup hlen hshort k now t
  have HF : Hid (∀ w', BS B Bk M a b c (tellN nw now (nobody k)) (tellB nw now (nobody k) E) w' → Calls Try.prog 31 #[.pointer (some ⟨Bk, 0, none⟩), .string s] w' fun e w'' => e = .returned (.pointer (some ⟨x.blk, 0, none⟩)) ∧ w'' = w') := fun w' hb => find_some hb hs hx hn
  have HR : Hid (∀ w', BS B Bk M a b c (tellN nw now (nobody k)) (tellB nw now (nobody k) E) w' → Calls Try.prog 32 #[.pointer (some ⟨Bk, 0, none⟩), .pointer (some ⟨x.blk, 0, none⟩), .int .i64 k] w' fun e w'' => e = .returned (.int .i64 er) ∧ ∃ m, w'' = w'.drewN m) := fun w' hb => by
    have := refusal_any hb hx hxs k hk
    rw [her] at this
    exact this
  rw [he] at HT
  have k0 : (er == 0) = false := beq_eq_false_iff_ne.2 he0
  clear h hup hlen hshort hn he hs hx hk hxs her he0
  generalize tellB nw now (nobody k) E = EE at *
  generalize tellN nw now (nobody k) = nn at *
  generalize x.blk = J at *
  go_enter Try.func12, Try.ntmps12
  go_wp2_with (first
    | (go_at_call 30; refine (HT.out _).mono ?_; rintro e w' ⟨v, rfl, r2, r3⟩; have R2 : Hid (BS B Bk M a b c nn EE w') := r2; clear r2)
    | (go_at_call 31; refine (HF.out _ R2.out).mono ?_; rintro e w' ⟨rfl, rfl⟩)
    | (go_at_call 32; refine (HR.out _ R2.out).mono ?_; rintro e w'' ⟨rfl, m, rfl⟩)
    | go_in)
  go_ret
  exact ⟨rfl, R2.out.drewN m, r3.drewN m⟩

set_option maxHeartbeats 2000000 in
set_option maxRecDepth 100000 in
theorem Grant_ok (h : BS B Bk M a b c nw E w) (hup : upE E) (hlen : E.length ≤ 1000000) (hshort : ∀ e ∈ E, e.ts.length ≤ 1000000) (s : ByteArray) (hs : s.size ≤ maxLen) (k now : Int) (hk : (Lit.int .i64 k).wf = true) (he : tellE nw now (nobody k) = 0) (hE : tellB nw now (nobody k) E = E1 ++ x :: E2) (hxs : x.ts.length ≤ 1000000) (hn : x.nm = s.data.toList) (htr : x.tr ≤ 1000000) (ht : (Lit.int .i64 (now + a)).wf = true) (her : refC (lst x.dn x.ts.length x.tr b) x.ts.length x.tr b c (hasT k x.ts) = 0) :
    Calls Try.prog 12 #[.pointer (some ⟨Bk, 0, none⟩), .string s, .int .i64 k, .int .i64 now] w fun e w' => e = .returned (.int .i64 0) ∧ ∃ x' : Ent, pl x' = { pl x with tr := x.tr + 1, ts := insT (k, now + a) (offT k x.ts) } ∧ x'.nm = x.nm ∧ BS B Bk M a b c (tellN nw now (nobody k)) (E1 ++ x' :: E2) w' ∧ Upd (bids Bk M E) (bids Bk M (E1 ++ x' :: E2)) w w' := by
  have HT : Hid (∀ t, Calls Try.prog 30 #[.pointer (some ⟨Bk, 0, none⟩), .int .i64 now, .slice (some ⟨w.heap.size, 0, none⟩) 1 1] (w.alloc (.cells #[.int .i64 k] t)) fun e w' => ∃ v, e = .returned (.tuple #[v, .int .i64 (tellE nw now (nobody k))]) ∧ BS B Bk M a b c (tellN nw now (nobody k)) (E1 ++ x :: E2) w' ∧ Upd (bids Bk M E) (bids Bk M (E1 ++ x :: E2)) w w') := fun t => by
    have := tellw h hup hlen hshort k now t
    rw [hE] at this
    rw [← hE, bids_tell, hE]
    exact this
  have HF : Hid (∀ w', BS B Bk M a b c (tellN nw now (nobody k)) (E1 ++ x :: E2) w' → Calls Try.prog 31 #[.pointer (some ⟨Bk, 0, none⟩), .string s] w' fun e w'' => e = .returned (.pointer (some ⟨x.blk, 0, none⟩)) ∧ w'' = w') := fun w' hb => find_some hb hs (by simp) hn
  have HR : Hid (∀ w', BS B Bk M a b c (tellN nw now (nobody k)) (E1 ++ x :: E2) w' → Calls Try.prog 32 #[.pointer (some ⟨Bk, 0, none⟩), .pointer (some ⟨x.blk, 0, none⟩), .int .i64 k] w' fun e w'' => e = .returned (.int .i64 0) ∧ ∃ m, w'' = w'.drewN m) := fun w' hb => by
    have := refusal_any hb (x := x) (by simp) hxs k hk
    rw [her] at this
    exact this
  obtain ⟨t, et⟩ : ∃ t, t = now + a := ⟨_, rfl⟩
  have hwr : IntKind.i64.wrap t = t := by
    rw [← et] at ht
    have z : decide (-9223372036854775808 ≤ t) = true ∧ decide (t ≤ 9223372036854775807) = true := by simpa [Lit.wf, IntKind.min, IntKind.max, IntKind.signed, IntKind.bits] using ht
    have z1 := of_decide_eq_true z.1
    have z2 := of_decide_eq_true z.2
    rw [IntKind.wrap_i64]; omega
  obtain ⟨t1, et1⟩ : ∃ t1 : Nat, t1 = x.tr + 1 := ⟨_, rfl⟩
  have ew1 : (x.tr : Int) + 1 = (t1 : Int) := by omega
  have ew2 : IntKind.i64.wrap (t1 : Int) = (t1 : Int) := by rw [IntKind.wrap_i64]; omega
  have HL : Hid (∀ w', BS B Bk M a b c (tellN nw now (nobody k)) (E1 ++ { x with tr := t1 } :: E2) w' → Calls Try.prog 33 #[.pointer (some ⟨x.blk, 0, none⟩), .int .i64 k, .int .i64 t] w' fun e w'' => e = .returned (.tuple #[]) ∧ ∃ x' : Ent, pl x' = { pl x with tr := t1, ts := insT (k, t) (offT k x.ts) } ∧ x'.nm = x.nm ∧ BS B Bk M a b c (tellN nw now (nobody k)) (E1 ++ x' :: E2) w'' ∧ Upd (bids Bk M (E1 ++ { x with tr := t1 } :: E2)) (bids Bk M (E1 ++ x' :: E2)) w' w'') := fun w' hb => lend_any hb hxs k t hk (by rw [et]; exact ht)
  have HX : Hid (∀ w1 m, BS B Bk M a b c (tellN nw now (nobody k)) (E1 ++ x :: E2) w1 → (w1.drewN m).cell? ⟨x.blk, 1, none⟩ = some (.int .i64 (x.tr : Int)) ∧ (w1.drewN m).frozen? ⟨x.blk, 1, none⟩ = false ∧ ((w1.drewN m).setCell ⟨x.blk, 1, none⟩ (.int .i64 (t1 : Int))).cell? ⟨Bk, 0, none⟩ = some (.int .i64 a) ∧ Hid (BS B Bk M a b c (tellN nw now (nobody k)) (E1 ++ { x with tr := t1 } :: E2) ((w1.drewN m).setCell ⟨x.blk, 1, none⟩ (.int .i64 (t1 : Int))) ∧ Upd (bids Bk M (E1 ++ x :: E2)) (bids Bk M (E1 ++ { x with tr := t1 } :: E2)) w1 ((w1.drewN m).setCell ⟨x.blk, 1, none⟩ (.int .i64 (t1 : Int))))) := fun w1 m hb => by
    have hb2 := hb.drewN m
    obtain ⟨r1, r2⟩ := hb2.tried t1
    exact ⟨(hb2.jobs x (by simp)).c1, (hb2.jobs x (by simp)).fz 1, r1.c0, r1, ((Upd.refl _ _).drewN m).trans r2⟩
  have et2 : now + a = t := et.symm
  rw [et2, ← et1]
  rw [he] at HT
  clear h hup hlen hshort hn he hs hk hxs her hE et htr ht et1
  obtain ⟨y, ey⟩ : ∃ y : Ent, y = { x with tr := t1 } := ⟨_, rfl⟩
  rw [← ey] at HL HX
  clear ey
  obtain ⟨J, eJ⟩ : ∃ J, J = x.blk := ⟨_, rfl⟩
  rw [← eJ] at HF HR HL HX
  generalize tellN nw now (nobody k) = nn at *
  obtain ⟨tr, etr⟩ : ∃ tr, tr = x.tr := ⟨_, rfl⟩
  rw [← etr] at HX ew1
  clear eJ etr
  go_enter Try.func12, Try.ntmps12
  go_wp2_with (first
    | (go_at_call 30; refine (HT.out _).mono ?_; rintro e w1 ⟨v, rfl, r2, r3⟩; have R2 : Hid (BS B Bk M a b c nn (E1 ++ x :: E2) w1) := r2; have R3 : Hid (Upd (bids Bk M E) (bids Bk M (E1 ++ x :: E2)) w w1) := r3; clear r2 r3)
    | (go_at_call 31; refine (HF.out _ R2.out).mono ?_; rintro e w' ⟨rfl, rfl⟩)
    | (go_at_call 32; refine (HR.out _ R2.out).mono ?_; rintro e w'' ⟨rfl, m, rfl⟩; obtain ⟨x1, x2, x3, X4⟩ := HX.out _ m R2.out)
    | (go_at_call 33; refine (HL.out _ X4.out.1).mono ?_; rintro e w2 ⟨rfl, r4⟩; have R4 : Hid (∃ x' : Ent, pl x' = { pl x with tr := t1, ts := insT (k, t) (offT k x.ts) } ∧ x'.nm = x.nm ∧ BS B Bk M a b c nn (E1 ++ x' :: E2) w2 ∧ Upd (bids Bk M (E1 ++ y :: E2)) (bids Bk M (E1 ++ x' :: E2)) _ w2) := r4; clear r4)
    | go_in)
  go_ret
  obtain ⟨x', h1, h2, h3, h4⟩ := R4.out
  exact ⟨rfl, x', h1, h2, h3, (R3.out.trans X4.out.2).trans h4⟩

set_option maxHeartbeats 2000000 in
set_option maxRecDepth 100000 in
theorem State_none (h : BS B Bk M a b c nw E w) (s : ByteArray) (hs : s.size ≤ maxLen) (hn : ∀ x ∈ E, x.nm ≠ s.data.toList) :
    Calls Try.prog 21 #[.pointer (some ⟨Bk, 0, none⟩), .string s] w fun e w' => e = .returned (.tuple #[.int .i64 0, .int .i64 0]) ∧ w' = w := by
  have HF : Hid (Calls Try.prog 31 #[.pointer (some ⟨Bk, 0, none⟩), .string s] w fun e w'' => e = .returned (.pointer none) ∧ w'' = w) := find_none h hs hn
  clear h hs hn
  go_enter Try.func21, Try.ntmps21
  go_wp2_with (first
    | (go_at_call 31; refine HF.out.mono ?_; rintro e w' ⟨rfl, rfl⟩)
    | go_in)
  go_ret2
  exact ⟨rfl, rfl⟩

set_option maxHeartbeats 2000000 in
set_option maxRecDepth 100000 in
theorem State_some (h : BS B Bk M a b c nw E w) (s : ByteArray) (hs : s.size ≤ maxLen) (hx : x ∈ E) (hxs : x.ts.length ≤ 1000000) (hn : x.nm = s.data.toList) :
    Calls Try.prog 21 #[.pointer (some ⟨Bk, 0, none⟩), .string s] w fun e w' => e = .returned (.tuple #[.int .i64 (lst x.dn x.ts.length x.tr b), .int .i64 (x.tr : Int)]) ∧ ∃ m, w' = w.drewN m := by
  have HF : Hid (Calls Try.prog 31 #[.pointer (some ⟨Bk, 0, none⟩), .string s] w fun e w'' => e = .returned (.pointer (some ⟨x.blk, 0, none⟩)) ∧ w'' = w) := find_some h hs hx hn
  have HS : Hid (∀ n, Calls Try.prog 40 #[.pointer (some ⟨Bk, 0, none⟩), .pointer (some ⟨x.blk, 0, none⟩)] (w.drewN n) fun e w' => e = .returned (.int .i64 (lst x.dn x.ts.length x.tr b)) ∧ ∃ m, w' = (w.drewN n).drewN m) := fun n => state_any (h.drewN n) hx hxs
  have hj := h.jobs x hx
  have c1 : ∀ m, (w.drewN m).cell? ⟨x.blk, 1, none⟩ = some (.int .i64 (x.tr : Int)) := fun m => hj.c1
  clear h hs hn hj hxs hx
  generalize lst x.dn (x.ts.length : Int) (x.tr : Int) b = st at *
  generalize x.blk = J at *
  generalize x.tr = tr at *
  go_enter Try.func21, Try.ntmps21
  go_wp2_with (first
    | (go_at_call 31; refine HF.out.mono ?_; rintro e w' ⟨rfl, rfl⟩)
    | go_in)
  go_quiet (first | (go_at_call 40; refine Calls.quiet_of (HS.out _)))
  go_wp2
  go_ret2
  exact ⟨rfl, _, rfl⟩
end
end Go.Proofs.Ytocahjnibdgmoaa
