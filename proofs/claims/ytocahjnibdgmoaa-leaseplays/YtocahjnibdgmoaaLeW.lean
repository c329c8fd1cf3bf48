/- A book of leases: each call, by the plain book. -/
import Derived.Test.YtocahjnibdgmoaaLeV
namespace Go.Proofs.Ytocahjnibdgmoaa
open Go.RowKit Go.Shelf Go.Maps Go.WideMaps Go.Sort

structure Bok (B Bk : Nat) (a b c nw : Int) (P : List Pj) (I : List Nat) (w : World) : Prop where
  ex : ∃ M E, BS B Bk M a b c nw E w ∧ E.map pl = P ∧ bids Bk M E = I
  pi : PI a b c nw P

section
variable {B Bk : Nat} {a b c nw : Int} {P : List Pj} {I : List Nat} {w w' : World}
theorem Bok.lt (h : Bok B Bk a b c nw P I w) : ∀ g ∈ I, B ≤ g ∧ g < w.heap.size := by
  obtain ⟨M, E, h1, h2, rfl⟩ := h.ex
  exact h1.lt
theorem Bok.self (h : Bok B Bk a b c nw P I w) : Bk ∈ I := by
  obtain ⟨M, E, h1, h2, rfl⟩ := h.ex
  simp [bids]
theorem Bok.keep (h : Bok B Bk a b c nw P I w) (hh : ∀ g ∈ I, w'.heap[g]? = w.heap[g]?) : Bok B Bk a b c nw P I w' := by
  obtain ⟨M, E, h1, h2, rfl⟩ := h.ex
  exact ⟨⟨M, E, h1.keep hh, h2, rfl⟩, h.pi⟩
theorem Bok.up (h : Bok B Bk a b c nw P I w) (hb : Below w.heap.size w w') : Bok B Bk a b c nw P I w' := h.keep fun g hg => hb.block g (h.lt g hg).2
theorem Bok.drewN (h : Bok B Bk a b c nw P I w) (m : Nat) : Bok B Bk a b c nw P I (w.drewN m) := h.keep fun _ _ => rfl

theorem upE_of {E : List Ent} (h : (E.map pl).Pairwise fun x y => x.nm ≤ y.nm) : upE E := (List.pairwise_map.1 h).imp fun h => h
theorem short_of {E : List Ent} (h : PI a b c nw (E.map pl)) : ∀ e ∈ E, e.ts.length ≤ 5 := fun e he => by
  have h1 := (h.each (pl e) (List.mem_map.2 ⟨e, he, rfl⟩)).sz
  have h2 := h.tc
  have h3 : ((pl e).ts.length : Int) = (e.ts.length : Int) := rfl
  omega
theorem len_of {E : List Ent} (h : PI a b c nw (E.map pl)) : E.length ≤ 200 := by have := h.len; rwa [List.length_map] at this
theorem wf_small {k : Int} (h1 : -9223372036854775808 ≤ k) (h2 : k ≤ 9223372036854775807) : (Lit.int .i64 k).wf = true := by
  simpa [Lit.wf, IntKind.min, IntKind.max, IntKind.signed, IntKind.bits] using ⟨h1, h2⟩

def tellT (nw now : Int) (nb : Bool) (P : List Pj) : List (List UInt8) := if tellE nw now nb = 0 then (P.filter (freesP now)).map Pj.nm else []
theorem pl_free (nw now : Int) (nb : Bool) (E : List Ent) : tellF nw now nb E = tellT nw now nb (E.map pl) := by
  unfold tellF tellT
  split
  · rw [List.filter_map, List.map_map]
    rfl
  · rfl

theorem Bok.tick (h : Bok B Bk a b c nw P I w) (now : Int) :
    Calls Try.prog 18 #[.pointer (some ⟨Bk, 0, none⟩), .int .i64 now] w fun e w' => ∃ v, e = .returned (.tuple #[v, .int .i64 (tellE nw now false)]) ∧ w'.ownsRow w.heap.size 9 1 v (tellT nw now false P).length ((tellT nw now false P).map encStr) ∧ Bok B Bk a b c (tellN nw now false) (tellP nw now false P) I w' ∧ Upd I I w w' := by
  obtain ⟨M, E, h1, rfl, rfl⟩ := h.ex
  have hs := short_of h.pi
  have hl := len_of h.pi
  refine (Tick_any h1 (upE_of h.pi.up) (by omega) (fun e he => by have := hs e he; omega) now).mono ?_
  rintro e w' ⟨v, rfl, r1, r2, r3⟩
  rw [pl_free] at r1
  exact ⟨v, rfl, r1, ⟨⟨M, _, r2, pl_tell _ _ _ _, bids_tell _ _ _ _ _ _⟩, h.pi.tell now false⟩, r3⟩

theorem Bok.state (h : Bok B Bk a b c nw P I w) (s : ByteArray) (hs : s.size ≤ maxLen) :
    Calls Try.prog 21 #[.pointer (some ⟨Bk, 0, none⟩), .string s] w fun e w' => e = .returned (match fndP P s.data.toList with | none => .tuple #[.int .i64 0, .int .i64 0] | some p => .tuple #[.int .i64 (lst p.dn p.ts.length p.tr b), .int .i64 (p.tr : Int)]) ∧ ∃ m, w' = w.drewN m := by
  obtain ⟨M, E, h1, rfl, rfl⟩ := h.ex
  rcases fnd_or E s.data.toList with ⟨E1, x, E2, hE, hn⟩ | hn
  · have hx : x ∈ E := by rw [hE]; simp
    have hf := fnd_some h1.names hx
    rw [hn] at hf
    rw [hf]
    exact State_some h1 s hs hx (by have := short_of h.pi x hx; omega) hn
  · rw [fnd_none hn]
    refine (State_none h1 s hs hn).mono ?_
    rintro e w' ⟨rfl, rfl⟩
    exact ⟨rfl, 0, rfl⟩

theorem Bok.leases (h : Bok B Bk a b c nw P I w) :
    Calls Try.prog 23 #[.pointer (some ⟨Bk, 0, none⟩)] w fun e w' => ∃ v, e = .returned v ∧ w'.ownsRow w.heap.size 52 3 v (lsP P).length (lcs (lsP P)) ∧ Below w.heap.size w w' := by
  obtain ⟨M, E, h1, rfl, rfl⟩ := h.ex
  have he : ∀ e ∈ E, PjOk a b c nw (pl e) := fun e he => h.pi.each _ (List.mem_map.2 ⟨e, he, rfl⟩)
  exact Leases_any h1 (upE_of h.pi.up) (len_of h.pi) (short_of h.pi) (fun e hx => (he e hx).wk) fun e hx q hq => by
    have := (he e hx).rg q hq
    exact wf_small (by omega) (by omega)

theorem Bok.add (h : Bok B Bk a b c nw P I w) (s : ByteArray) (hs : s.size ≤ maxLen) :
    Calls Try.prog 10 #[.pointer (some ⟨Bk, 0, none⟩), .string s] w fun e w' => e = .returned (.int .i64 (adE P s)) ∧ ∃ I', Bok B Bk a b c nw (adP P s) I' w' ∧ Upd I I' w w' := by
  obtain ⟨M, E, h1, rfl, rfl⟩ := h.ex
  have hadd := h.pi.add s
  have hsame : ∀ {w2 : World} {er : Int}, er ≠ 0 → adE (E.map pl) s = er → w2 = w → ∃ I', Bok B Bk a b c nw (adP (E.map pl) s) I' w2 ∧ Upd (bids Bk M E) I' w w2 := fun he h2 hw => by
    subst hw
    have : adP (E.map pl) s = E.map pl := by unfold adP; rw [h2, if_neg he]
    rw [this]
    exact ⟨_, h, Upd.refl _ _⟩
  cases hn : nameOk s with
  | false =>
    have e1 : adE (E.map pl) s = 1 := by unfold adE; rw [if_pos hn]
    rw [e1]
    refine (Add_form s hs hn w).mono ?_
    rintro e w' ⟨rfl, hw⟩
    exact ⟨rfl, hsame (by decide) e1 hw⟩
  | true =>
    rcases fnd_or E s.data.toList with ⟨E1, x, E2, hE, hx⟩ | hx
    · have hm : x ∈ E := by rw [hE]; simp
      have hf := fnd_some h1.names hm
      rw [hx] at hf
      have e1 : adE (E.map pl) s = 6 := by unfold adE; rw [if_neg (by rw [hn]; decide), if_pos (by rw [hf]; simp)]
      rw [e1]
      refine (Add_twice h1 s hs hn hm hx).mono ?_
      rintro e w' ⟨rfl, hw⟩
      exact ⟨rfl, hsame (by decide) e1 hw⟩
    · have hf : fndP (E.map pl) s.data.toList = none := fnd_none hx
      by_cases hl : 200 ≤ E.length
      · have e1 : adE (E.map pl) s = 2 := by unfold adE; rw [if_neg (by rw [hn]; decide), if_neg (by rw [hf]; simp), if_pos (by rw [List.length_map]; exact hl)]
        rw [e1]
        refine (Add_many h1 s hs hn hx hl).mono ?_
        rintro e w' ⟨rfl, hw⟩
        exact ⟨rfl, hsame (by decide) e1 hw⟩
      · have e1 : adE (E.map pl) s = 0 := by unfold adE; rw [if_neg (by rw [hn]; decide), if_neg (by rw [hf]; simp), if_neg (by rw [List.length_map]; exact hl)]
        rw [e1]
        refine (Add_ok h1 s hs hn hx (by omega)).mono ?_
        rintro e w' ⟨rfl, J, r1, r2⟩
        refine ⟨rfl, _, ⟨⟨M, _, r1, ?_, rfl⟩, hadd⟩, r2⟩
        rw [insP_pl]
        unfold adP
        rw [if_pos e1]
        rfl

theorem fE_tell {E : List Ent} {s : List UInt8} {now : Int} {nb : Bool} (hx : ∀ x ∈ tellB nw now nb E, x.nm ≠ s) : fndP (tellP nw now nb (E.map pl)) s = none := by
  rw [← pl_tell]
  exact fnd_none hx

theorem Bok.grant (h : Bok B Bk a b c nw P I w) (s : ByteArray) (hs : s.size ≤ maxLen) (k now : Int) (hk : (Lit.int .i64 k).wf = true) :
    Calls Try.prog 12 #[.pointer (some ⟨Bk, 0, none⟩), .string s, .int .i64 k, .int .i64 now] w fun e w' => e = .returned (.int .i64 (grE b c nw P s.data.toList k now)) ∧ ∃ I', Bok B Bk a b c (tellN nw now (nobody k)) (grP a b c nw P s.data.toList k now) I' w' ∧ Upd I I' w w' := by
  obtain ⟨M, E, h1, rfl, rfl⟩ := h.ex
  have hg := h.pi.grant s.data.toList k now
  have hup := upE_of h.pi.up
  have hsh := short_of h.pi
  have hl := len_of h.pi
  have hl2 : E.length ≤ 1000000 := by omega
  have hsh2 : ∀ e ∈ E, e.ts.length ≤ 1000000 := fun e he => by have := hsh e he; omega
  have hsame : ∀ {w2 : World} {er : Int}, er ≠ 0 → grE b c nw (E.map pl) s.data.toList k now = er → BS B Bk M a b c (tellN nw now (nobody k)) (tellB nw now (nobody k) E) w2 → Upd (bids Bk M E) (bids Bk M E) w w2 → ∃ I', Bok B Bk a b c (tellN nw now (nobody k)) (grP a b c nw (E.map pl) s.data.toList k now) I' w2 ∧ Upd (bids Bk M E) I' w w2 := fun he h2 h3 h4 => by
    refine ⟨_, ⟨⟨M, _, h3, ?_, bids_tell _ _ _ _ _ _⟩, hg⟩, h4⟩
    unfold grP
    rw [h2, if_neg he, pl_tell]
  by_cases ht : tellE nw now (nobody k) = 0
  · have htl := h.pi.tell now (nobody k)
    rw [← pl_tell] at htl
    rcases fnd_or (tellB nw now (nobody k) E) s.data.toList with ⟨E1, x, E2, hE, hx⟩ | hx
    · have hm : x ∈ tellB nw now (nobody k) E := by rw [hE]; simp
      have hpw : (tellB nw now (nobody k) E).Pairwise (fun x y => x.nm ≠ y.nm) := (List.pairwise_map.1 htl.ne).imp fun h => h
      have hf : fndP (tellP nw now (nobody k) (E.map pl)) s.data.toList = some (pl x) := by
        rw [← pl_tell, ← hx]
        exact fnd_some hpw hm
      have hxs := short_of htl x hm
      have hok := htl.each (pl x) (List.mem_map.2 ⟨x, hm, rfl⟩)
      have e1 : grE b c nw (E.map pl) s.data.toList k now = refP b c k (pl x) := by unfold grE; rw [if_neg (by simpa using ht), hf]
      rw [e1]
      by_cases hr : refP b c k (pl x) = 0
      · obtain ⟨z1, z2, _, _⟩ := tell_facts ht
        have htr := hok.tr
        have hb := h.pi.tb
        have htr2 : ((pl x).tr : Int) = (x.tr : Int) := rfl
        refine (Grant_ok h1 hup hl2 hsh2 s hs k now hk ht hE (by omega) hx (by omega) (wf_small (by have := h.pi.ta; omega) (by have := h.pi.ta; omega)) hr).mono ?_
        rintro e w' ⟨rfl, x', r1, r2, r3, r4⟩
        refine ⟨by rw [hr], _, ⟨⟨M, _, r3, ?_, rfl⟩, hg⟩, r4⟩
        rw [hE] at hpw
        rw [pl_set hpw (grF k (now + a)) r1]
        unfold grP
        rw [e1, if_pos hr, ← pl_tell, ← hx, hE]
      · refine (Grant_no h1 hup hl2 hsh2 s hs k now hk ht hm (by omega) hx rfl hr).mono ?_
        rintro e w' ⟨rfl, r1, r2⟩
        exact ⟨rfl, hsame hr e1 r1 r2⟩
    · have e1 : grE b c nw (E.map pl) s.data.toList k now = 5 := by unfold grE; rw [if_neg (by simpa using ht), fE_tell hx]
      rw [e1]
      refine (Grant_none h1 hup hl2 hsh2 s hs k now ht hx).mono ?_
      rintro e w' ⟨rfl, r1, r2⟩
      exact ⟨rfl, hsame (by decide) e1 r1 r2⟩
  · have e1 : grE b c nw (E.map pl) s.data.toList k now = tellE nw now (nobody k) := by unfold grE; rw [if_pos ht]
    rw [e1]
    refine (Grant_err h1 hup hl2 hsh2 s k now ht).mono ?_
    rintro e w' ⟨rfl, r1, r2⟩
    exact ⟨rfl, hsame ht e1 r1 r2⟩

/-- Whose lease it is. -/
theorem Bok.leased (h : Bok B Bk a b c nw P I w) (s : ByteArray) (hs : s.size ≤ maxLen) (k now : Int) (hk : (Lit.int .i64 k).wf = true) :
    (leE nw P s.data.toList k now ≠ 0 ∧ Calls Try.prog 36 #[.pointer (some ⟨Bk, 0, none⟩), .string s, .int .i64 k, .int .i64 now] w fun e w' => e = .returned (.tuple #[.pointer none, .int .i64 (leE nw P s.data.toList k now)]) ∧ Bok B Bk a b c (tellN nw now (nobody k)) (tellP nw now (nobody k) P) I w' ∧ Upd I I w w') ∨
    (leE nw P s.data.toList k now = 0 ∧ ∃ M E1 x E2, (E1 ++ x :: E2).map pl = tellP nw now (nobody k) P ∧ x.nm = s.data.toList ∧ x.ts.length ≤ 5 ∧ (E1 ++ x :: E2).Pairwise (fun x y => x.nm ≠ y.nm) ∧ Calls Try.prog 36 #[.pointer (some ⟨Bk, 0, none⟩), .string s, .int .i64 k, .int .i64 now] w fun e w' => e = .returned (.tuple #[.pointer (some ⟨x.blk, 0, none⟩), .int .i64 0]) ∧ BS B Bk M a b c (tellN nw now (nobody k)) (E1 ++ x :: E2) w' ∧ Upd I (bids Bk M (E1 ++ x :: E2)) w w') := by
  obtain ⟨M, E, h1, rfl, rfl⟩ := h.ex
  have hup := upE_of h.pi.up
  have hsh := short_of h.pi
  have hl := len_of h.pi
  have hl2 : E.length ≤ 1000000 := by omega
  have hsh2 : ∀ e ∈ E, e.ts.length ≤ 1000000 := fun e he => by have := hsh e he; omega
  have htl := h.pi.tell now (nobody k)
  have hsame : ∀ {w2 : World}, BS B Bk M a b c (tellN nw now (nobody k)) (tellB nw now (nobody k) E) w2 → Bok B Bk a b c (tellN nw now (nobody k)) (tellP nw now (nobody k) (E.map pl)) (bids Bk M E) w2 := fun h3 => ⟨⟨M, _, h3, pl_tell _ _ _ _, bids_tell _ _ _ _ _ _⟩, htl⟩
  by_cases ht : tellE nw now (nobody k) = 0
  · rcases fnd_or (tellB nw now (nobody k) E) s.data.toList with ⟨E1, x, E2, hE, hx⟩ | hx
    · have hm : x ∈ tellB nw now (nobody k) E := by rw [hE]; simp
      rw [← pl_tell] at htl
      have hpw : (tellB nw now (nobody k) E).Pairwise (fun x y => x.nm ≠ y.nm) := (List.pairwise_map.1 htl.ne).imp fun h => h
      have hf : fndP (tellP nw now (nobody k) (E.map pl)) s.data.toList = some (pl x) := by
        rw [← pl_tell, ← hx]
        exact fnd_some hpw hm
      have hc := leased_has h1 hup hl2 hsh2 s hs k now hk ht hm hx
      have e1 : leE nw (E.map pl) s.data.toList k now = if hasT k x.ts = true then 0 else 5 := by unfold leE; rw [if_neg (by simpa using ht), hf]; rfl
      by_cases hh : hasT k x.ts = true
      · right
        rw [if_pos hh] at e1
        refine ⟨e1, M, E1, x, E2, by rw [← hE, pl_tell], hx, short_of htl x hm, by rw [← hE]; exact hpw, hc.mono ?_⟩
        rintro e w' ⟨rfl, r1, r2⟩
        rw [hE] at r1
        refine ⟨by rw [if_pos hh], r1, ?_⟩
        rw [← hE, bids_tell]
        exact r2
      · left
        rw [if_neg hh] at e1
        rw [e1]
        refine ⟨by decide, hc.mono ?_⟩
        rintro e w' ⟨rfl, r1, r2⟩
        exact ⟨by rw [if_neg hh], hsame r1, r2⟩
    · left
      have e1 : leE nw (E.map pl) s.data.toList k now = 5 := by unfold leE; rw [if_neg (by simpa using ht), fE_tell hx]
      rw [e1]
      refine ⟨by decide, (leased_none h1 hup hl2 hsh2 s hs k now ht hx).mono ?_⟩
      rintro e w' ⟨rfl, r1, r2⟩
      exact ⟨rfl, hsame r1, r2⟩
  · left
    have e1 : leE nw (E.map pl) s.data.toList k now = tellE nw now (nobody k) := by unfold leE; rw [if_pos ht]
    rw [e1]
    refine ⟨ht, (leased_err h1 hup hl2 hsh2 s k now ht).mono ?_⟩
    rintro e w' ⟨rfl, r1, r2⟩
    exact ⟨rfl, hsame r1, r2⟩

theorem Bok.beat (h : Bok B Bk a b c nw P I w) (s : ByteArray) (hs : s.size ≤ maxLen) (k now : Int) (hk : (Lit.int .i64 k).wf = true) :
    Calls Try.prog 14 #[.pointer (some ⟨Bk, 0, none⟩), .string s, .int .i64 k, .int .i64 now] w fun e w' => e = .returned (.int .i64 (leE nw P s.data.toList k now)) ∧ ∃ I', Bok B Bk a b c (tellN nw now (nobody k)) (beP a nw P s.data.toList k now) I' w' ∧ Upd I I' w w' := by
  have hg := h.pi.beat s.data.toList k now
  rcases h.leased s hs k now hk with ⟨he, hc⟩ | ⟨he, M, E1, x, E2, hE, hx, hxs, hpw, hc⟩
  · refine (Beat_fail hc he).mono ?_
    rintro e w' ⟨rfl, r1, r2⟩
    refine ⟨rfl, I, ?_, r2⟩
    have : beP a nw P s.data.toList k now = tellP nw now (nobody k) P := by unfold beP; rw [if_neg he]
    rw [this]
    exact r1
  · obtain ⟨ht, _⟩ := leE_zero he
    obtain ⟨z1, z2, _, _⟩ := tell_facts ht
    refine (Beat_ok hc (by omega) hk (wf_small (by have := h.pi.ta; omega) (by have := h.pi.ta; omega))).mono ?_
    rintro e w' ⟨rfl, x', r1, r2, r3, r4⟩
    refine ⟨by rw [he], _, ⟨⟨M, _, r3, ?_, rfl⟩, hg⟩, r4⟩
    rw [pl_set hpw (beF k (now + a)) r1, hE]
    unfold beP
    rw [if_pos he, hx]

theorem Bok.done (h : Bok B Bk a b c nw P I w) (s : ByteArray) (hs : s.size ≤ maxLen) (k now : Int) (hk : (Lit.int .i64 k).wf = true) (g : Bool) :
    Calls Try.prog 16 #[.pointer (some ⟨Bk, 0, none⟩), .string s, .int .i64 k, .int .i64 now, .bool g] w fun e w' => e = .returned (.int .i64 (leE nw P s.data.toList k now)) ∧ ∃ I', Bok B Bk a b c (tellN nw now (nobody k)) (doP nw P s.data.toList k now g) I' w' ∧ Upd I I' w w' := by
  have hg := h.pi.done s.data.toList k now g
  rcases h.leased s hs k now hk with ⟨he, hc⟩ | ⟨he, M, E1, x, E2, hE, hx, hxs, hpw, hc⟩
  · refine (Done_fail hc he g).mono ?_
    rintro e w' ⟨rfl, r1, r2⟩
    refine ⟨rfl, I, ?_, r2⟩
    have : doP nw P s.data.toList k now g = tellP nw now (nobody k) P := by unfold doP; rw [if_neg he]
    rw [this]
    exact r1
  · have hfin : ∀ x' : Ent, pl x' = doF k g (pl x) → (E1 ++ x' :: E2).map pl = doP nw P s.data.toList k now g := fun x' r1 => by
      rw [pl_set hpw (doF k g) r1, hE]
      unfold doP
      rw [if_pos he, hx]
    cases g with
    | true =>
      refine (Done_good hc hk).mono ?_
      rintro e w' ⟨rfl, x', r1, r2, r3, r4⟩
      exact ⟨by rw [he], _, ⟨⟨M, _, r3, hfin x' r1, rfl⟩, hg⟩, r4⟩
    | false =>
      refine (Done_bad hc hk).mono ?_
      rintro e w' ⟨rfl, x', r1, r2, r3, r4⟩
      exact ⟨by rw [he], _, ⟨⟨M, _, r3, hfin x' r1, rfl⟩, hg⟩, r4⟩
end

theorem LNew_ok (a b c : Nat) (w : World) (h : termsOk a b c) :
    Calls Try.prog 7 #[.agg #[.int .i64 a, .int .i64 b, .int .i64 c]] w fun e w' => ∃ Bk I, e = .returned (.tuple #[.pointer (some ⟨Bk, 0, none⟩), .int .i64 0]) ∧ Bok w.heap.size Bk a b c 0 [] I w' ∧ (∀ g ∈ I, w.heap.size ≤ g) ∧ Below w.heap.size w w' := by
  refine (LNew_yes a b c w h).mono ?_
  rintro e w' ⟨Bk, M, rfl, h1, h2, h3, h4, h5, h6⟩
  obtain ⟨x1, x2, x3, x4, x5, x6⟩ := h
  refine ⟨Bk, [Bk, M], rfl, ⟨⟨M, [], ⟨h4, h5, h1, h2, fun e he => (by cases he), ?_⟩, rfl, rfl⟩, PI.new ⟨x1, x2⟩ ⟨x3, x4⟩ ⟨x5, x6⟩⟩, fun g hg => ?_, h3⟩
  · show [Bk, M].Nodup
    simp [h6]
  · rcases List.mem_cons.1 hg with rfl | hg
    · exact h4
    · rcases List.mem_cons.1 hg with rfl | hg
      · exact h5
      · cases hg
end Go.Proofs.Ytocahjnibdgmoaa
