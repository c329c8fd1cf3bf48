/- A book of leases: the job of which a worker has a lease. -/
import Derived.Test.YtocahjnibdgmoaaLeM
namespace Go.Proofs.Ytocahjnibdgmoaa
open Go.RowKit Go.Shelf Go.Maps Go.WideMaps Go.Sort

theorem tellB_mem {nw now : Int} {nb : Bool} {E : List Ent} {x : Ent} (hx : x ∈ tellB nw now nb E) : ∃ y ∈ E, x.nm = y.nm ∧ x.ts.length ≤ y.ts.length := by
  unfold tellB at hx
  split at hx
  · obtain ⟨y, hy, rfl⟩ := List.mem_map.1 hx
    exact ⟨y, hy, rfl, List.length_filter_le _ _⟩
  · exact ⟨x, hx, rfl, Nat.le_refl _⟩
theorem tellB_len (nw now : Int) (nb : Bool) (E : List Ent) : (tellB nw now nb E).length = E.length := by
  unfold tellB
  split
  · simp
  · rfl
theorem tellB_up {nw now : Int} {nb : Bool} {E : List Ent} (h : upE E) : upE (tellB nw now nb E) := by
  unfold tellB
  split
  · exact List.pairwise_map.2 h
  · exact h

section
variable {B Bk M : Nat} {a b c nw : Int} {E E1 E2 : List Ent} {x : Ent} {w : World}

/-- Time is told by a worker. -/
theorem tellw (h : BS B Bk M a b c nw E w) (hup : upE E) (hlen : E.length ≤ 1000000) (hshort : ∀ e ∈ E, e.ts.length ≤ 1000000) (k now : Int) (t : TypeId) :
    Calls Try.prog 30 #[.pointer (some ⟨Bk, 0, none⟩), .int .i64 now, .slice (some ⟨w.heap.size, 0, none⟩) 1 1] (w.alloc (.cells #[.int .i64 k] t)) fun e w' => ∃ v, e = .returned (.tuple #[v, .int .i64 (tellE nw now (nobody k))]) ∧ BS B Bk M a b c (tellN nw now (nobody k)) (tellB nw now (nobody k) E) w' ∧ Upd (bids Bk M E) (bids Bk M E) w w' := by
  have hA : Below w.heap.size w (w.alloc (.cells #[.int .i64 k] t)) := (Below.refl _ w).alloc (Nat.le_refl _) _
  have hc : (w.alloc (.cells #[.int .i64 k] t)).cell? ⟨w.heap.size, 0, none⟩ = some (.int .i64 k) := cell_one_new _ _ _ 0 _ rfl
  refine (tell_any (h.up hA) hup hlen hshort (cont1 w.heap.size 0 1 k _ hc) now).mono ?_
  rintro e w' ⟨v, rfl, r1, r2, r3⟩
  exact ⟨v, rfl, r2, (Upd.of_below hA).trans r3⟩

set_option maxHeartbeats 2000000 in
set_option maxRecDepth 100000 in
theorem leased_err (h : BS B Bk M a b c nw E w) (hup : upE E) (hlen : E.length ≤ 1000000) (hshort : ∀ e ∈ E, e.ts.length ≤ 1000000) (s : ByteArray) (k now : Int) (he : tellE nw now (nobody k) ≠ 0) :
    Calls Try.prog 36 #[.pointer (some ⟨Bk, 0, none⟩), .string s, .int .i64 k, .int .i64 now] w fun e w' => e = .returned (.tuple #[.pointer none, .int .i64 (tellE nw now (nobody k))]) ∧ BS B Bk M a b c (tellN nw now (nobody k)) (tellB nw now (nobody k) E) w' ∧ Upd (bids Bk M E) (bids Bk M E) w w' := by
  have HT : Hid (∀ t, Calls Try.prog 30 #[.pointer (some ⟨Bk, 0, none⟩), .int .i64 now, .slice (some ⟨w.heap.size, 0, none⟩) 1 1] (w.alloc (.cells #[.int .i64 k] t)) fun e w' => ∃ v, e = .returned (.tuple #[v, .int .i64 (tellE nw now (nobody k))]) ∧ BS B Bk M a b c (tellN nw now (nobody k)) (tellB nw now (nobody k) E) w' ∧ Upd (bids Bk M E) (bids Bk M E) w w') := fun t => tellw h hup hlen hshort k now t
  clear h hup hlen hshort
  generalize tellE nw now (nobody k) = er at *
  have k0 : (er == 0) = false := beq_eq_false_iff_ne.2 he
  clear he
  go_enter Try.func36, Try.ntmps36
  go_wp2_with (first
    | (go_at_call 30; refine (HT.out _).mono ?_; rintro e w' ⟨v, rfl, r2, r3⟩)
    | go_in)
  go_ret2
  exact ⟨rfl, r2, r3⟩

set_option maxHeartbeats 2000000 in
set_option maxRecDepth 100000 in
theorem leased_none (h : BS B Bk M a b c nw E w) (hup : upE E) (hlen : E.length ≤ 1000000) (hshort : ∀ e ∈ E, e.ts.length ≤ 1000000) (s : ByteArray) (hs : s.size ≤ maxLen) (k now : Int) (he : tellE nw now (nobody k) = 0) (hn : ∀ x ∈ tellB nw now (nobody k) E, x.nm ≠ s.data.toList) :
    Calls Try.prog 36 #[.pointer (some ⟨Bk, 0, none⟩), .string s, .int .i64 k, .int .i64 now] w fun e w' => e = .returned (.tuple #[.pointer none, .int .i64 5]) ∧ BS B Bk M a b c (tellN nw now (nobody k)) (tellB nw now (nobody k) E) w' ∧ Upd (bids Bk M E) (bids Bk M E) w w' := by
  have HT : Hid (∀ t, Calls Try.prog 30 #[.pointer (some ⟨Bk, 0, none⟩), .int .i64 now, .slice (some ⟨w.heap.size, 0, none⟩) 1 1] (w.alloc (.cells #[.int .i64 k] t)) fun e w' => ∃ v, e = .returned (.tuple #[v, .int .i64 (tellE nw now (nobody k))]) ∧ BS B Bk M a b c (tellN nw now (nobody k)) (tellB nw now (nobody k) E) w' ∧ Upd (bids Bk M E) (bids Bk M E) w w') := fun t => tellw h hup hlen hshort k now t
  have HF : Hid (∀ w', BS B Bk M a b c (tellN nw now (nobody k)) (tellB nw now (nobody k) E) w' → Calls Try.prog 31 #[.pointer (some ⟨Bk, 0, none⟩), .string s] w' fun e w'' => e = .returned (.pointer none) ∧ w'' = w') := fun w' hb => find_none hb hs hn
  rw [he] at HT
  clear h hup hlen hshort hn he hs
  generalize tellB nw now (nobody k) E = EE at *
  generalize tellN nw now (nobody k) = nn at *
  go_enter Try.func36, Try.ntmps36
  go_wp2_with (first
    | (go_at_call 30; refine (HT.out _).mono ?_; rintro e w' ⟨v, rfl, r2, r3⟩; have R2 : Hid (BS B Bk M a b c nn EE w') := r2; clear r2)
    | (go_at_call 31; refine (HF.out _ R2.out).mono ?_; rintro e w' ⟨rfl, rfl⟩)
    | go_in)
  go_ret2
  exact ⟨rfl, R2.out, r3⟩

set_option maxHeartbeats 2000000 in
set_option maxRecDepth 100000 in
theorem leased_has (h : BS B Bk M a b c nw E w) (hup : upE E) (hlen : E.length ≤ 1000000) (hshort : ∀ e ∈ E, e.ts.length ≤ 1000000) (s : ByteArray) (hs : s.size ≤ maxLen) (k now : Int) (hk : (Lit.int .i64 k).wf = true) (he : tellE nw now (nobody k) = 0) (hx : x ∈ tellB nw now (nobody k) E) (hn : x.nm = s.data.toList) :
    Calls Try.prog 36 #[.pointer (some ⟨Bk, 0, none⟩), .string s, .int .i64 k, .int .i64 now] w fun e w' => e = .returned (if hasT k x.ts = true then .tuple #[.pointer (some ⟨x.blk, 0, none⟩), .int .i64 0] else .tuple #[.pointer none, .int .i64 5]) ∧ BS B Bk M a b c (tellN nw now (nobody k)) (tellB nw now (nobody k) E) w' ∧ Upd (bids Bk M E) (bids Bk M E) w w' := by
  have HT : Hid (∀ t, Calls Try.prog 30 #[.pointer (some ⟨Bk, 0, none⟩), .int .i64 now, .slice (some ⟨w.heap.size, 0, none⟩) 1 1] (w.alloc (.cells #[.int .i64 k] t)) fun e w' => ∃ v, e = .returned (.tuple #[v, .int .i64 (tellE nw now (nobody k))]) ∧ BS B Bk M a b c (tellN nw now (nobody k)) (tellB nw now (nobody k) E) w' ∧ Upd (bids Bk M E) (bids Bk M E) w w') := fun t => tellw h hup hlen hshort k now t
  have HF : Hid (∀ w', BS B Bk M a b c (tellN nw now (nobody k)) (tellB nw now (nobody k) E) w' → Calls Try.prog 31 #[.pointer (some ⟨Bk, 0, none⟩), .string s] w' fun e w'' => e = .returned (.pointer (some ⟨x.blk, 0, none⟩)) ∧ w'' = w') := fun w' hb => find_some hb hs hx hn
  have HC : Hid (∀ w', BS B Bk M a b c (tellN nw now (nobody k)) (tellB nw now (nobody k) E) w' → w'.cell? ⟨x.blk, 2, none⟩ = some (.map x.tb) ∧ ∃ v, (Instr.lookup 61 (.map x.tb) (.int .i64 k) true).run Try.prog w' = .ok (.tuple #[v, .bool (hasT k x.ts)]) w') := fun w' hb => ⟨(hb.jobs x hx).c2, (hb.jobs x hx).look k hk⟩
  rw [he] at HT
  clear h hup hlen hshort hn he hs hx hk
  generalize tellB nw now (nobody k) E = EE at *
  generalize tellN nw now (nobody k) = nn at *
  generalize hasT k x.ts = has at *
  generalize x.tb = tb at *
  generalize x.blk = J at *
  cases has with
  | true =>
    rw [if_pos rfl]
    go_enter Try.func36, Try.ntmps36
    go_wp2_with (first
      | (go_at_call 30; refine (HT.out _).mono ?_; rintro e w' ⟨v, rfl, r2, r3⟩; have R2 : Hid (BS B Bk M a b c nn EE w') := r2; clear r2)
      | (go_at_call 31; refine (HF.out _ R2.out).mono ?_; rintro e w' ⟨rfl, rfl⟩; obtain ⟨cc, vv, hv⟩ := HC.out _ R2.out)
      | go_in)
    go_ret2
    exact ⟨rfl, R2.out, r3⟩
  | false =>
    rw [if_neg (by decide)]
    go_enter Try.func36, Try.ntmps36
    go_wp2_with (first
      | (go_at_call 30; refine (HT.out _).mono ?_; rintro e w' ⟨v, rfl, r2, r3⟩; have R2 : Hid (BS B Bk M a b c nn EE w') := r2; clear r2)
      | (go_at_call 31; refine (HF.out _ R2.out).mono ?_; rintro e w' ⟨rfl, rfl⟩; obtain ⟨cc, vv, hv⟩ := HC.out _ R2.out)
      | go_in)
    go_ret2
    exact ⟨rfl, R2.out, r3⟩
end
end Go.Proofs.Ytocahjnibdgmoaa
