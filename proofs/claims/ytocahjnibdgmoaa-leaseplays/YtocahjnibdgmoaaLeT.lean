/- A book of leases: time is told. -/
import Derived.Test.YtocahjnibdgmoaaLeEw
namespace Go.Proofs.Ytocahjnibdgmoaa
open Go.RowKit Go.Shelf Go.Maps Go.WideMaps Go.Sort

theorem BS.setNow {B Bk M : Nat} {a b c nw : Int} {E : List Ent} {w : World} (h : BS B Bk M a b c nw E w) (t : Int) : BS B Bk M a b c t E (w.setCell ⟨Bk, 3, none⟩ (.int .i64 t)) ∧ Upd (bids Bk M E) (bids Bk M E) w (w.setCell ⟨Bk, 3, none⟩ (.int .i64 t)) := by
  have hap := h.apart
  have hne : ∀ g ∈ M :: E.flatMap eids, g ≠ Bk := fun g hg e => by
    rw [bids, List.nodup_cons] at hap
    exact hap.1 (e ▸ hg)
  have hk : ∀ g ∈ M :: E.flatMap eids, (w.setCell ⟨Bk, 3, none⟩ (.int .i64 t)).heap[g]? = w.heap[g]? := fun g hg => Below.heap_setCell _ _ _ g (hne g hg)
  refine ⟨⟨h.lo, h.loM, ?_, ownsMap_heap h.own (hk M List.mem_cons_self), fun e he => (h.jobs e he).keep fun g hg => hk g (List.mem_cons_of_mem _ (List.mem_flatMap.2 ⟨e, he, hg⟩)), hap⟩, Upd.set w _ _ List.mem_cons_self⟩
  rw [Go.Joins.block_setCell h.blk]
  rfl

/-- What time told comes to. -/
def tellE (nw now : Int) (nb : Bool) : Int := if now < 0 ∨ 1000000000 < now ∨ nb = true then 3 else if now < nw then 4 else 0

section
variable {B Bk M : Nat} {a b c nw : Int} {E : List Ent} {w : World} {ws : Value} {nb : Bool}

set_option maxHeartbeats 1000000 in
set_option maxRecDepth 100000 in
theorem tell_range (hc : Calls Try.prog 48 #[ws, .func (.func 47) #[] #[]] w fun e w' => e = .returned (.bool nb) ∧ w' = w) (now : Int) (ht : now < 0 ∨ 1000000000 < now ∨ nb = true) :
    Calls Try.prog 30 #[.pointer (some ⟨Bk, 0, none⟩), .int .i64 now, ws] w fun e w' => e = .returned (.tuple #[.slice none 0 0, .int .i64 3]) ∧ w' = w := by
  have HC : Hid (Calls Try.prog 48 #[ws, .func (.func 47) #[] #[]] w fun e w' => e = .returned (.bool nb) ∧ w' = w) := hc
  clear hc
  by_cases h1 : now < 0
  · clear ht
    go_enter Try.func30, Try.ntmps30
    go_wp2
    go_ret2
    exact ⟨rfl, rfl⟩
  · by_cases h2 : 1000000000 < now
    · clear ht
      go_enter Try.func30, Try.ntmps30
      go_wp2
      go_ret2
      exact ⟨rfl, rfl⟩
    · obtain rfl : nb = true := by
        rcases ht with h | h | h
        · exact absurd h h1
        · exact absurd h h2
        · exact h
      clear ht
      go_enter Try.func30, Try.ntmps30
      go_wp2_with (first
        | (go_at_call 48; refine HC.out.mono ?_; rintro e w' ⟨rfl, rfl⟩)
        | go_in)
      go_ret2
      exact ⟨rfl, rfl⟩

set_option maxHeartbeats 1000000 in
set_option maxRecDepth 100000 in
theorem tell_state (h : BS B Bk M a b c nw E w) (hc : Calls Try.prog 48 #[ws, .func (.func 47) #[] #[]] w fun e w' => e = .returned (.bool false) ∧ w' = w) (now : Int) (h1 : ¬ now < 0) (h2 : ¬ 1000000000 < now) (h3 : now < nw) :
    Calls Try.prog 30 #[.pointer (some ⟨Bk, 0, none⟩), .int .i64 now, ws] w fun e w' => e = .returned (.tuple #[.slice none 0 0, .int .i64 4]) ∧ w' = w := by
  have HC : Hid (Calls Try.prog 48 #[ws, .func (.func 47) #[] #[]] w fun e w' => e = .returned (.bool false) ∧ w' = w) := hc
  have HN : Hid (Calls Try.prog 27 #[.pointer (some ⟨Bk, 0, none⟩)] w fun e w' => e = .returned (.bool false) ∧ w' = w) := lisNone h.c4
  have c3 := h.c3
  clear hc h
  go_enter Try.func30, Try.ntmps30
  go_wp2_with (first
    | (go_at_call 48; refine HC.out.mono ?_; rintro e w' ⟨rfl, rfl⟩)
    | (go_at_call 27; refine HN.out.mono ?_; rintro e w' ⟨rfl, rfl⟩)
    | go_in)
  go_ret2
  exact ⟨rfl, rfl⟩

set_option maxHeartbeats 1000000 in
set_option maxRecDepth 100000 in
theorem tell_ok (h : BS B Bk M a b c nw E w) (hup : upE E) (hlen : E.length ≤ 1000000) (hshort : ∀ e ∈ E, e.ts.length ≤ 1000000) (hc : Calls Try.prog 48 #[ws, .func (.func 47) #[] #[]] w fun e w' => e = .returned (.bool false) ∧ w' = w) (now : Int) (h1 : ¬ now < 0) (h2 : ¬ 1000000000 < now) (h3 : ¬ now < nw) :
    Calls Try.prog 30 #[.pointer (some ⟨Bk, 0, none⟩), .int .i64 now, ws] w fun e w' => ∃ v, e = .returned (.tuple #[v, .int .i64 0]) ∧ w'.ownsRow w.heap.size 9 1 v (E.filter (frees now)).length (((E.filter (frees now)).map Ent.nm).map encStr) ∧ BS B Bk M a b c now (E.map (cutE now)) w' ∧ Upd (bids Bk M E) (bids Bk M E) w w' := by
  have HC : Hid (Calls Try.prog 48 #[ws, .func (.func 47) #[] #[]] w fun e w' => e = .returned (.bool false) ∧ w' = w) := hc
  have HN : Hid (Calls Try.prog 27 #[.pointer (some ⟨Bk, 0, none⟩)] w fun e w' => e = .returned (.bool false) ∧ w' = w) := lisNone h.c4
  have HE : Hid (Calls Try.prog 49 #[.pointer (some ⟨Bk, 0, none⟩)] (w.setCell ⟨Bk, 3, none⟩ (.int .i64 now)) fun e w' => ∃ v, e = .returned v ∧ w'.ownsRow w.heap.size 9 1 v (E.filter (frees now)).length (((E.filter (frees now)).map Ent.nm).map encStr) ∧ BS B Bk M a b c now (E.map (cutE now)) w' ∧ Upd (bids Bk M E) (bids Bk M E) w w') := by
    obtain ⟨h4, h5⟩ := h.setNow now
    refine (end_any h4 hup hlen hshort).mono ?_
    rintro e w' ⟨v, rfl, r1, r2, r3⟩
    exact ⟨v, rfl, own_low r1 h5.size, r2, h5.trans r3⟩
  have c3 := h.c3
  have f3 := h.fz 3
  clear hc h hup hlen hshort
  go_enter Try.func30, Try.ntmps30
  go_wp2_with (first
    | (go_at_call 48; refine HC.out.mono ?_; rintro e w' ⟨rfl, rfl⟩)
    | (go_at_call 27; refine HN.out.mono ?_; rintro e w' ⟨rfl, rfl⟩)
    | (go_at_call 49; refine HE.out.mono ?_; rintro e w' ⟨v, rfl, r1, r2, r3⟩)
    | go_in)
  go_ret2
  exact ⟨_, rfl, r1, r2, r3⟩
/-- When it is, behind this; what is there. -/
def tellN (nw now : Int) (nb : Bool) : Int := if tellE nw now nb = 0 then now else nw
def tellB (nw now : Int) (nb : Bool) (E : List Ent) : List Ent := if tellE nw now nb = 0 then E.map (cutE now) else E
def tellF (nw now : Int) (nb : Bool) (E : List Ent) : List (List UInt8) := if tellE nw now nb = 0 then (E.filter (frees now)).map Ent.nm else []
theorem bids_cut (Bk M : Nat) (nw : Int) (E : List Ent) : bids Bk M (E.map (cutE nw)) = bids Bk M E := by
  unfold bids
  rw [List.flatMap_map]
  rfl
theorem bids_tell (Bk M : Nat) (nw now : Int) (nb : Bool) (E : List Ent) : bids Bk M (tellB nw now nb E) = bids Bk M E := by
  unfold tellB
  split
  · exact bids_cut ..
  · rfl

theorem tell_any (h : BS B Bk M a b c nw E w) (hup : upE E) (hlen : E.length ≤ 1000000) (hshort : ∀ e ∈ E, e.ts.length ≤ 1000000) (hc : Calls Try.prog 48 #[ws, .func (.func 47) #[] #[]] w fun e w' => e = .returned (.bool nb) ∧ w' = w) (now : Int) :
    Calls Try.prog 30 #[.pointer (some ⟨Bk, 0, none⟩), .int .i64 now, ws] w fun e w' => ∃ v, e = .returned (.tuple #[v, .int .i64 (tellE nw now nb)]) ∧ w'.ownsRow w.heap.size 9 1 v (tellF nw now nb E).length ((tellF nw now nb E).map encStr) ∧ BS B Bk M a b c (tellN nw now nb) (tellB nw now nb E) w' ∧ Upd (bids Bk M E) (bids Bk M E) w w' := by
  by_cases h1 : now < 0 ∨ 1000000000 < now ∨ nb = true
  · have e1 : tellE nw now nb = 3 := by unfold tellE; rw [if_pos h1]
    refine (tell_range hc now h1).mono ?_
    rintro e w' ⟨rfl, rfl⟩
    unfold tellF tellN tellB
    rw [e1]
    exact ⟨_, rfl, World.ownsRow_nil _ _ _ _, h, Upd.refl _ _⟩
  · have hn : nb = false := by
      cases nb with
      | false => rfl
      | true => exact absurd (.inr (.inr rfl)) h1
    subst hn
    have h2 : ¬ now < 0 := fun h => h1 (.inl h)
    have h3 : ¬ 1000000000 < now := fun h => h1 (.inr (.inl h))
    by_cases h4 : now < nw
    · have e1 : tellE nw now false = 4 := by unfold tellE; rw [if_neg h1, if_pos h4]
      refine (tell_state h hc now h2 h3 h4).mono ?_
      rintro e w' ⟨rfl, rfl⟩
      unfold tellF tellN tellB
      rw [e1]
      exact ⟨_, rfl, World.ownsRow_nil _ _ _ _, h, Upd.refl _ _⟩
    · have e1 : tellE nw now false = 0 := by unfold tellE; rw [if_neg h1, if_neg h4]
      refine (tell_ok h hup hlen hshort hc now h2 h3 h4).mono ?_
      rintro e w' ⟨v, rfl, r1, r2, r3⟩
      unfold tellF tellN tellB
      rw [e1]
      exact ⟨v, rfl, by rw [if_pos rfl, List.length_map]; exact r1, r2, r3⟩
end

set_option maxHeartbeats 1000000 in
set_option maxRecDepth 100000 in
theorem Tick_any {B Bk M : Nat} {a b c nw : Int} {E : List Ent} {w : World} (h : BS B Bk M a b c nw E w) (hup : upE E) (hlen : E.length ≤ 1000000) (hshort : ∀ e ∈ E, e.ts.length ≤ 1000000) (now : Int) :
    Calls Try.prog 18 #[.pointer (some ⟨Bk, 0, none⟩), .int .i64 now] w fun e w' => ∃ v, e = .returned (.tuple #[v, .int .i64 (tellE nw now false)]) ∧ w'.ownsRow w.heap.size 9 1 v (tellF nw now false E).length ((tellF nw now false E).map encStr) ∧ BS B Bk M a b c (tellN nw now false) (tellB nw now false E) w' ∧ Upd (bids Bk M E) (bids Bk M E) w w' := by
  have hT := tell_any h hup hlen hshort (cont0 w) now
  clear h hup hlen hshort
  go_enter Try.func18, Try.ntmps18
  go_wp2_with (first
    | (go_at_call 30; refine hT.mono ?_; rintro e w' ⟨v, rfl, r1, r2, r3⟩)
    | go_in)
  go_ret2
  exact ⟨_, rfl, r1, r2, r3⟩
end Go.Proofs.Ytocahjnibdgmoaa
