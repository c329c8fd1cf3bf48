/- A book of leases: a job is found; its state; why a worker may not have it; whether it has it. -/
import Derived.Test.YtocahjnibdgmoaaLeT
namespace Go.Proofs.Ytocahjnibdgmoaa
open Go.RowKit Go.Shelf Go.Maps Go.WideMaps Go.Sort

theorem drewNN (w : World) (m n : Nat) : (w.drewN m).drewN n = w.drewN (m + n) := by simp [World.drewN, Nat.add_assoc]

theorem JobAt.look {B : Nat} {w : World} {x : Ent} (h : JobAt B w x) (k : Int) (hk : (Lit.int .i64 k).wf = true) : ∃ v, (Instr.lookup 61 (.map x.tb) (.int .i64 k) true).run Try.prog w = .ok (.tuple #[v, .bool (hasT k x.ts)]) w := by
  rcases h.till with ⟨h1, h2⟩ | ⟨t, h1, h2, h3⟩
  · rw [h1, h2]
    exact ⟨_, Maps.look_nil true lawI Try.underlying61 (zeroI w) (keyOf_int_mk Try.underlying3 hk)⟩
  · rw [h1]
    obtain ⟨v, ps, hrun, _⟩ := h3.look_ok lawI Try.underlying61 (zeroI w) (plainElem_int Try.underlying3 (by decide)) (keyOf_int_mk Try.underlying3 hk)
    rw [has_D] at hrun
    exact ⟨v, hrun⟩
theorem JobAt.len {B : Nat} {w : World} {x : Ent} (h : JobAt B w x) (ty : TypeId) : (Builtin.len_ #[61] ty #[.map x.tb]).run Try.prog w = .ok (.int .i64 (x.ts.length : Int)) w := by
  rcases h.till with ⟨h1, h2⟩ | ⟨t, h1, h2, h3⟩
  · rw [h1, h2]
    exact Maps.len_nil Try.underlying61 ty
  · rw [h1]
    have := h3.len Try.underlying61 ty
    rw [size_D] at this
    exact this
theorem JobAt.tillAt {B : Nat} {w : World} {x : Ent} (h : JobAt B w x) (hs : x.ts.length ≤ 1000000) : TillAt w (.map x.tb) (.map (x.ts.map tD)) := by
  rcases h.till with ⟨h1, h2⟩ | ⟨t, h1, h2, h3⟩
  · rw [h1, h2]
    exact .inl ⟨rfl, rfl⟩
  · rw [h1]
    exact .inr ⟨t, _, rfl, h3, by unfold maxLen; omega⟩

section
variable {B Bk M : Nat} {a b c nw : Int} {E E1 E2 : List Ent} {x : Ent} {w : World}

theorem find_some (h : BS B Bk M a b c nw E w) {s : ByteArray} (hs : s.size ≤ maxLen) (hx : x ∈ E) (hn : x.nm = s.data.toList) :
    Calls Try.prog 31 #[.pointer (some ⟨Bk, 0, none⟩), .string s] w fun e w' => e = .returned (.pointer (some ⟨x.blk, 0, none⟩)) ∧ w' = w := by
  refine (lfind h.c4 h.own s hs).mono ?_
  rintro e w' ⟨v, rfl, ⟨ps, hv⟩, rfl⟩
  have hpw2 : (E.map eD).Pairwise (fun p q => p.1 ≠ q.1) := List.pairwise_map.2 (h.names.imp fun hne e => hne (by injection e))
  have hm : (Lit.string s.data.toList, DataW.lit (.int .i64 (x.blk : Int))) ∈ E.map eD := by rw [← hn]; exact List.mem_map.2 ⟨x, hx, rfl⟩
  rw [WideAt.atKey_mem _ (by exact trivial) hpw2 hm] at hv
  rcases ptrE_inv hv with ⟨_, h2⟩ | ⟨b, rfl, h2⟩
  · injection h2 with h2
    injection h2 with _ h2
    omega
  · injection h2 with h2
    injection h2 with _ h2
    obtain rfl : b = x.blk := by omega
    exact ⟨rfl, rfl⟩

theorem find_none (h : BS B Bk M a b c nw E w) {s : ByteArray} (hs : s.size ≤ maxLen) (hn : ∀ x ∈ E, x.nm ≠ s.data.toList) :
    Calls Try.prog 31 #[.pointer (some ⟨Bk, 0, none⟩), .string s] w fun e w' => e = .returned (.pointer none) ∧ w' = w := by
  refine (lfind h.c4 h.own s hs).mono ?_
  rintro e w' ⟨v, rfl, ⟨ps, hv⟩, rfl⟩
  have hno : Maps.has (DataW.map (E.map eD)) (.string s.data.toList) = false := by
    rw [has_eq, List.any_eq_false]
    intro p hp
    obtain ⟨x, hx, rfl⟩ := List.mem_map.1 hp
    rw [show (eD x).1 = Lit.string x.nm from rfl, sameKey_ne (fun e => hn x hx (by injection e))]
    simp
  rw [atKey_of_not_has hno] at hv
  rcases ptrE_inv hv with ⟨rfl, _⟩ | ⟨b, rfl, h2⟩
  · exact ⟨rfl, rfl⟩
  · injection h2 with h2
    injection h2 with _ h2
    omega

theorem state_any (h : BS B Bk M a b c nw E w) (hx : x ∈ E) (hs : x.ts.length ≤ 1000000) :
    Calls Try.prog 40 #[.pointer (some ⟨Bk, 0, none⟩), .pointer (some ⟨x.blk, 0, none⟩)] w fun e w' => e = .returned (.int .i64 (lst x.dn x.ts.length x.tr b)) ∧ ∃ m, w' = w.drewN m := by
  have := lstate h.blk (h.jobs x hx).blk ((h.jobs x hx).tillAt hs)
  rw [size_D] at this
  exact this

/-- Why a worker may not have it: by numbers alone. -/
def refC (st n tr b c : Int) (has : Bool) : Int := if st = 3 ∨ st = 4 then 4 else if has = true then 6 else if c ≤ n ∨ b ≤ tr then 2 else 0

set_option maxHeartbeats 2000000 in
set_option maxRecDepth 100000 in
theorem refusal_any (h : BS B Bk M a b c nw E w) (hx : x ∈ E) (hs : x.ts.length ≤ 1000000) (k : Int) (hk : (Lit.int .i64 k).wf = true) :
    Calls Try.prog 32 #[.pointer (some ⟨Bk, 0, none⟩), .pointer (some ⟨x.blk, 0, none⟩), .int .i64 k] w fun e w' => e = .returned (.int .i64 (refC (lst x.dn x.ts.length x.tr b) x.ts.length x.tr b c (hasT k x.ts))) ∧ ∃ m, w' = w.drewN m := by
  have hst := state_any h hx hs
  have hj := h.jobs x hx
  have c2 : ∀ m, (w.drewN m).cell? ⟨x.blk, 2, none⟩ = some (.map x.tb) := fun m => hj.c2
  have c1 : ∀ m, (w.drewN m).cell? ⟨x.blk, 1, none⟩ = some (.int .i64 (x.tr : Int)) := fun m => hj.c1
  have b1 : ∀ m, (w.drewN m).cell? ⟨Bk, 1, none⟩ = some (.int .i64 b) := fun m => h.c1
  have b2 : ∀ m, (w.drewN m).cell? ⟨Bk, 2, none⟩ = some (.int .i64 c) := fun m => h.c2
  have hlk : ∀ m, ∃ v, (Instr.lookup 61 (.map x.tb) (.int .i64 k) true).run Try.prog (w.drewN m) = .ok (.tuple #[v, .bool (hasT k x.ts)]) (w.drewN m) := fun m => JobAt.look (w := w.drewN m) (hj.keep fun _ _ => rfl) k hk
  have hln : ∀ m ty, (Builtin.len_ #[61] ty #[.map x.tb]).run Try.prog (w.drewN m) = .ok (.int .i64 (x.ts.length : Int)) (w.drewN m) := fun m ty => JobAt.len (w := w.drewN m) (hj.keep fun _ _ => rfl) ty
  generalize hasT k x.ts = has at *
  generalize x.ts.length = n at *
  generalize x.tr = tr at *
  generalize lst x.dn (n : Int) (tr : Int) b = st at *
  generalize x.tb = tb at *
  generalize x.blk = J at *
  have HS : Hid (Calls Try.prog 40 #[.pointer (some ⟨Bk, 0, none⟩), .pointer (some ⟨J, 0, none⟩)] w fun e w' => e = .returned (.int .i64 st) ∧ ∃ m, w' = w.drewN m) := hst
  have HL : Hid (∀ m, ∃ v, (Instr.lookup 61 (.map tb) (.int .i64 k) true).run Try.prog (w.drewN m) = .ok (.tuple #[v, .bool has]) (w.drewN m)) := hlk
  clear hst hlk hj h hs hx
  by_cases h1 : st = 3 ∨ st = 4
  · have e1 : refC st n tr b c has = 4 := by unfold refC; rw [if_pos h1]
    rw [e1]
    rcases h1 with rfl | rfl
    · clear e1
      go_enter Try.func32, Try.ntmps32
      go_wp2_with (first
        | (go_at_call 40; refine HS.out.mono ?_; rintro e w' ⟨rfl, m, rfl⟩)
        | go_in)
      go_ret
      exact ⟨rfl, m, rfl⟩
    · clear e1
      go_enter Try.func32, Try.ntmps32
      go_wp2_with (first
        | (go_at_call 40; refine HS.out.mono ?_; rintro e w' ⟨rfl, m, rfl⟩)
        | go_in)
      go_ret
      exact ⟨rfl, m, rfl⟩
  · have k3 : (st == 3) = false := beq_eq_false_iff_ne.2 fun e => h1 (.inl e)
    have k4 : (st == 4) = false := beq_eq_false_iff_ne.2 fun e => h1 (.inr e)
    cases hhas : has with
    | true =>
      have e1 : refC st n tr b c true = 6 := by unfold refC; rw [if_neg h1, if_pos rfl]
      rw [e1]
      subst hhas
      clear e1 h1
      go_enter Try.func32, Try.ntmps32
      go_wp2_with (first
        | (go_at_call 40; refine HS.out.mono ?_; rintro e w' ⟨rfl, m, rfl⟩; obtain ⟨v, hv⟩ := HL.out m)
        | go_in)
      go_ret
      exact ⟨rfl, m, rfl⟩
    | false =>
      subst hhas
      by_cases h2 : c ≤ (n : Int)
      · have e1 : refC st n tr b c false = 2 := by unfold refC; rw [if_neg h1, if_neg (by decide), if_pos (.inl h2)]
        rw [e1]
        clear e1 h1
        go_enter Try.func32, Try.ntmps32
        go_wp2_with (first
          | (go_at_call 40; refine HS.out.mono ?_; rintro e w' ⟨rfl, m, rfl⟩; obtain ⟨v, hv⟩ := HL.out m; have c2' := c2 m; have c1' := c1 m; have b1' := b1 m; have b2' := b2 m; have hln' := hln m)
          | go_in)
        go_quiet (fail)
        go_wp2
        go_ret
        exact ⟨rfl, m + nq, drewNN w m nq⟩
      · have hd : decide (c ≤ (n : Int)) = false := decide_eq_false h2
        by_cases h3 : b ≤ (tr : Int)
        · have e1 : refC st n tr b c false = 2 := by unfold refC; rw [if_neg h1, if_neg (by decide), if_pos (.inr h3)]
          rw [e1]
          clear e1 h1
          go_enter Try.func32, Try.ntmps32
          go_wp2_with (first
            | (go_at_call 40; refine HS.out.mono ?_; rintro e w' ⟨rfl, m, rfl⟩; obtain ⟨v, hv⟩ := HL.out m; have c2' := c2 m; have c1' := c1 m; have b1' := b1 m; have b2' := b2 m; have hln' := hln m)
            | go_in)
          go_quiet (fail)
          go_wp2
          go_ret
          exact ⟨rfl, m + nq, drewNN w m nq⟩
        · have e1 : refC st n tr b c false = 0 := by unfold refC; rw [if_neg h1, if_neg (by decide), if_neg (fun h => h.elim h2 h3)]
          have hd3 : decide (b ≤ (tr : Int)) = false := decide_eq_false h3
          rw [e1]
          clear e1 h1
          go_enter Try.func32, Try.ntmps32
          go_wp2_with (first
            | (go_at_call 40; refine HS.out.mono ?_; rintro e w' ⟨rfl, m, rfl⟩; obtain ⟨v, hv⟩ := HL.out m; have c2' := c2 m; have c1' := c1 m; have b1' := b1 m; have b2' := b2 m; have hln' := hln m)
            | go_in)
          go_quiet (fail)
          go_wp2
          go_ret
          exact ⟨rfl, m + nq, drewNN w m nq⟩
end
end Go.Proofs.Ytocahjnibdgmoaa
