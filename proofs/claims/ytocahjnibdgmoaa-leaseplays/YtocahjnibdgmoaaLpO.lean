/- LeasePlays: the program's book and the document's, side by side. -/
import Derived.Test.YtocahjnibdgmoaaLpL
namespace Go.Proofs.Ytocahjnibdgmoaa
open Go.RowKit Go.Shelf Go.Sort

structure LP (w0 : World) (Bk R : Nat) (a b c nw : Int) (P : List Pj) (nv : Int) (Q : List Pj) (F : List (Nat × Obj)) (w : World) : Prop where
  ex : ∃ I J, Bok w0.heap.size Bk a b c nw P I w ∧ DQ w0.heap.size R a b c nv Q J w ∧ (∀ g ∈ I, g ∉ J) ∧ ∀ x ∈ F, w.heap[x.1]? = some x.2 ∧ x.1 ∉ I ∧ x.1 ∉ J
  bel : Below w0.heap.size w0 w
  pq : PI a b c nv Q

section
variable {w0 w w' : World} {Bk R : Nat} {a b c nw nv : Int} {P Q : List Pj} {F : List (Nat × Obj)}
theorem LP.pi (h : LP w0 Bk R a b c nw P nv Q F w) : PI a b c nw P := by
  obtain ⟨I, J, h1, _⟩ := h.ex
  exact h1.pi
theorem LP.ofB {I I' J : List Nat} {nw' : Int} {P' : List Pj} (h : LP w0 Bk R a b c nw P nv Q F w) (h1 : Bok w0.heap.size Bk a b c nw P I w) (h2 : DQ w0.heap.size R a b c nv Q J w) (h3 : ∀ g ∈ I, g ∉ J) (h4 : ∀ x ∈ F, w.heap[x.1]? = some x.2 ∧ x.1 ∉ I ∧ x.1 ∉ J) (hB : Bok w0.heap.size Bk a b c nw' P' I' w') (hu : Upd I I' w w') : LP w0 Bk R a b c nw' P' nv Q F w' := by
  refine ⟨⟨I', J, hB, h2.keep fun g hg => hu.block g (h2.lt g hg).2 fun e => h3 g e hg, fun g hg hg2 => ?_, fun x hx => ?_⟩, h.bel.trans (hu.below (fun g hg => (h1.lt g hg).1) h.bel.size), h.pq⟩
  · rcases hu.new g hg with e | e
    · exact h3 g e hg2
    · have := (h2.lt g hg2).2
      omega
  · obtain ⟨a1, a2, a3⟩ := h4 x hx
    have hl : x.1 < w.heap.size := (Array.getElem?_eq_some_iff.1 a1).1
    refine ⟨(hu.block x.1 hl a2).trans a1, fun e => ?_, a3⟩
    rcases hu.new x.1 e with e | e
    · exact a2 e
    · omega
theorem LP.ofD {I J J' : List Nat} {nv' : Int} {Q' : List Pj} (h : LP w0 Bk R a b c nw P nv Q F w) (h1 : Bok w0.heap.size Bk a b c nw P I w) (h2 : DQ w0.heap.size R a b c nv Q J w) (h3 : ∀ g ∈ I, g ∉ J) (h4 : ∀ x ∈ F, w.heap[x.1]? = some x.2 ∧ x.1 ∉ I ∧ x.1 ∉ J) (hD : DQ w0.heap.size R a b c nv' Q' J' w') (hu : Upd J J' w w') (hp : PI a b c nv' Q') : LP w0 Bk R a b c nw P nv' Q' F w' := by
  refine ⟨⟨I, J', h1.keep fun g hg => hu.block g (h1.lt g hg).2 (h3 g hg), hD, fun g hg hg2 => ?_, fun x hx => ?_⟩, h.bel.trans (hu.below (fun g hg => (h2.lt g hg).1) h.bel.size), hp⟩
  · rcases hu.new g hg2 with e | e
    · exact h3 g hg e
    · have := (h1.lt g hg).2
      omega
  · obtain ⟨a1, a2, a3⟩ := h4 x hx
    have hl : x.1 < w.heap.size := (Array.getElem?_eq_some_iff.1 a1).1
    refine ⟨(hu.block x.1 hl a3).trans a1, a2, fun e => ?_⟩
    rcases hu.new x.1 e with e | e
    · exact a3 e
    · omega
theorem LP.up (h : LP w0 Bk R a b c nw P nv Q F w) (hb : Below w.heap.size w w') : LP w0 Bk R a b c nw P nv Q F w' := by
  obtain ⟨I, J, h1, h2, h3, h4⟩ := h.ex
  exact h.ofB h1 h2 h3 h4 (h1.up hb) (Upd.of_below hb)
theorem LP.drewN (h : LP w0 Bk R a b c nw P nv Q F w) (m : Nat) : LP w0 Bk R a b c nw P nv Q F (w.drewN m) := h.up ⟨rfl, rfl, rfl, Nat.le_refl _, fun _ _ => rfl⟩
theorem LP.drew (h : LP w0 Bk R a b c nw P nv Q F w) : LP w0 Bk R a b c nw P nv Q F w.drew := h.up (Below.refl _ w).drew
theorem LP.no (h : LP w0 Bk R a b c nw P nv Q F w) : LP w0 Bk R a b c nw P nv Q [] w := by
  obtain ⟨I, J, h1, h2, h3, h4⟩ := h.ex
  exact ⟨⟨I, J, h1, h2, h3, fun x hx => (by cases hx)⟩, h.bel, h.pq⟩
theorem LP.sub {F' : List (Nat × Obj)} (h : LP w0 Bk R a b c nw P nv Q F w) (hs : ∀ x ∈ F', x ∈ F) : LP w0 Bk R a b c nw P nv Q F' w := by
  obtain ⟨I, J, h1, h2, h3, h4⟩ := h.ex
  exact ⟨⟨I, J, h1, h2, h3, fun x hx => h4 x (hs x hx)⟩, h.bel, h.pq⟩
theorem LP.more (h : LP w0 Bk R a b c nw P nv Q F w) (hb : Below w.heap.size w w') {X : Nat} {o : Obj} (hX : w'.heap[X]? = some o) (hl : w.heap.size ≤ X) : LP w0 Bk R a b c nw P nv Q ((X, o) :: F) w' := by
  obtain ⟨I, J, h1, h2, h3, h4⟩ := h.ex
  refine ⟨⟨I, J, h1.up hb, h2.up hb, h3, fun x hx => ?_⟩, (h.up hb).bel, h.pq⟩
  rcases List.mem_cons.1 hx with rfl | hx
  · exact ⟨hX, fun e => by have := (h1.lt _ e).2; omega, fun e => by have := (h2.lt _ e).2; omega⟩
  · obtain ⟨a1, a2, a3⟩ := h4 x hx
    exact ⟨(hb.block x.1 (Array.getElem?_eq_some_iff.1 a1).1).trans a1, a2, a3⟩
theorem LP.blk {x : Nat × Obj} (h : LP w0 Bk R a b c nw P nv Q F w) (hx : x ∈ F) : w.heap[x.1]? = some x.2 := by
  obtain ⟨I, J, h1, h2, h3, h4⟩ := h.ex
  exact (h4 x hx).1
theorem LP.now (h : LP w0 Bk R a b c nw P nv Q F w) : w.cell? ⟨R, 3, none⟩ = some (.int .i64 nv) := by
  obtain ⟨I, J, h1, h2, h3, h4⟩ := h.ex
  obtain ⟨_, _, _, _, d, h5, _, _, rfl⟩ := h2.ex
  exact h5.c3

theorem LP.add (h : LP w0 Bk R a b c nw P nv Q F w) (s : ByteArray) (hs : s.size ≤ maxLen) : Calls Try.prog 10 #[.pointer (some ⟨Bk, 0, none⟩), .string s] w fun e w' => e = .returned (.int .i64 (adE P s)) ∧ LP w0 Bk R a b c nw (adP P s) nv Q F w' := by
  obtain ⟨I, J, h1, h2, h3, h4⟩ := h.ex
  refine (h1.add s hs).mono ?_
  rintro e w' ⟨rfl, I', r1, r2⟩
  exact ⟨rfl, h.ofB h1 h2 h3 h4 r1 r2⟩
theorem LP.radd (h : LP w0 Bk R a b c nw P nv Q F w) (s : ByteArray) (hs : s.size ≤ maxLen) : Calls Try.prog 11 #[.pointer (some ⟨R, 0, none⟩), .string s] w fun e w' => e = .returned (.int .i64 (adE Q s)) ∧ LP w0 Bk R a b c nw P nv (adP Q s) F w' := by
  obtain ⟨I, J, h1, h2, h3, h4⟩ := h.ex
  refine (h2.add h.pq s hs).mono ?_
  rintro e w' ⟨rfl, J', r1, r2⟩
  exact ⟨rfl, h.ofD h1 h2 h3 h4 r1 r2 (h.pq.add s)⟩
theorem LP.grant (h : LP w0 Bk R a b c nw P nv Q F w) (s : ByteArray) (hs : s.size ≤ maxLen) (k now : Int) (hk : (Lit.int .i64 k).wf = true) : Calls Try.prog 12 #[.pointer (some ⟨Bk, 0, none⟩), .string s, .int .i64 k, .int .i64 now] w fun e w' => e = .returned (.int .i64 (grE b c nw P s.data.toList k now)) ∧ LP w0 Bk R a b c (tellN nw now (nobody k)) (grP a b c nw P s.data.toList k now) nv Q F w' := by
  obtain ⟨I, J, h1, h2, h3, h4⟩ := h.ex
  refine (h1.grant s hs k now hk).mono ?_
  rintro e w' ⟨rfl, I', r1, r2⟩
  exact ⟨rfl, h.ofB h1 h2 h3 h4 r1 r2⟩
theorem LP.rgrant (h : LP w0 Bk R a b c nw P nv Q F w) (s : ByteArray) (k now : Int) : Calls Try.prog 13 #[.pointer (some ⟨R, 0, none⟩), .string s, .int .i64 k, .int .i64 now] w fun e w' => e = .returned (.int .i64 (grE b c nv Q s.data.toList k now)) ∧ LP w0 Bk R a b c nw P (tellN nv now (nobody k)) (grP a b c nv Q s.data.toList k now) F w' := by
  obtain ⟨I, J, h1, h2, h3, h4⟩ := h.ex
  refine (h2.grant h.pq s k now).mono ?_
  rintro e w' ⟨rfl, J', r1, r2⟩
  exact ⟨rfl, h.ofD h1 h2 h3 h4 r1 r2 (h.pq.grant s.data.toList k now)⟩
theorem LP.beat (h : LP w0 Bk R a b c nw P nv Q F w) (s : ByteArray) (hs : s.size ≤ maxLen) (k now : Int) (hk : (Lit.int .i64 k).wf = true) : Calls Try.prog 14 #[.pointer (some ⟨Bk, 0, none⟩), .string s, .int .i64 k, .int .i64 now] w fun e w' => e = .returned (.int .i64 (leE nw P s.data.toList k now)) ∧ LP w0 Bk R a b c (tellN nw now (nobody k)) (beP a nw P s.data.toList k now) nv Q F w' := by
  obtain ⟨I, J, h1, h2, h3, h4⟩ := h.ex
  refine (h1.beat s hs k now hk).mono ?_
  rintro e w' ⟨rfl, I', r1, r2⟩
  exact ⟨rfl, h.ofB h1 h2 h3 h4 r1 r2⟩
theorem LP.rbeat (h : LP w0 Bk R a b c nw P nv Q F w) (s : ByteArray) (k now : Int) : Calls Try.prog 15 #[.pointer (some ⟨R, 0, none⟩), .string s, .int .i64 k, .int .i64 now] w fun e w' => e = .returned (.int .i64 (leE nv Q s.data.toList k now)) ∧ LP w0 Bk R a b c nw P (tellN nv now (nobody k)) (beP a nv Q s.data.toList k now) F w' := by
  obtain ⟨I, J, h1, h2, h3, h4⟩ := h.ex
  refine (h2.beat h.pq s k now).mono ?_
  rintro e w' ⟨rfl, J', r1, r2⟩
  exact ⟨rfl, h.ofD h1 h2 h3 h4 r1 r2 (h.pq.beat s.data.toList k now)⟩
theorem LP.done (h : LP w0 Bk R a b c nw P nv Q F w) (s : ByteArray) (hs : s.size ≤ maxLen) (k now : Int) (hk : (Lit.int .i64 k).wf = true) (g : Bool) : Calls Try.prog 16 #[.pointer (some ⟨Bk, 0, none⟩), .string s, .int .i64 k, .int .i64 now, .bool g] w fun e w' => e = .returned (.int .i64 (leE nw P s.data.toList k now)) ∧ LP w0 Bk R a b c (tellN nw now (nobody k)) (doP nw P s.data.toList k now g) nv Q F w' := by
  obtain ⟨I, J, h1, h2, h3, h4⟩ := h.ex
  refine (h1.done s hs k now hk g).mono ?_
  rintro e w' ⟨rfl, I', r1, r2⟩
  exact ⟨rfl, h.ofB h1 h2 h3 h4 r1 r2⟩
theorem LP.rdone (h : LP w0 Bk R a b c nw P nv Q F w) (s : ByteArray) (k now : Int) (g : Bool) : Calls Try.prog 17 #[.pointer (some ⟨R, 0, none⟩), .string s, .int .i64 k, .int .i64 now, .bool g] w fun e w' => e = .returned (.int .i64 (leE nv Q s.data.toList k now)) ∧ LP w0 Bk R a b c nw P (tellN nv now (nobody k)) (doP nv Q s.data.toList k now g) F w' := by
  obtain ⟨I, J, h1, h2, h3, h4⟩ := h.ex
  refine (h2.done h.pq s k now g).mono ?_
  rintro e w' ⟨rfl, J', r1, r2⟩
  exact ⟨rfl, h.ofD h1 h2 h3 h4 r1 r2 (h.pq.done s.data.toList k now g)⟩
/-- Time goes on: the list of the first stays while the second is told. -/
theorem LP.tick (h : LP w0 Bk R a b c nw P nv Q F w) (now : Int) : Calls Try.prog 18 #[.pointer (some ⟨Bk, 0, none⟩), .int .i64 now] w fun e w' => ∃ ao cap, e = .returned (.tuple #[.slice ao (tellT nw now false P).length cap, .int .i64 (tellE nw now false)]) ∧ ∃ F2, LP w0 Bk R a b c (tellN nw now false) (tellP nw now false P) nv Q (F2 ++ F) w' ∧ ∀ W : World, (∀ x ∈ F2, W.heap[x.1]? = some x.2) → W.ownsRow w.heap.size 9 1 (.slice ao (tellT nw now false P).length cap) (tellT nw now false P).length ((tellT nw now false P).map encStr) := by
  obtain ⟨I, J, h1, h2, h3, h4⟩ := h.ex
  refine (h1.tick now).mono ?_
  rintro e w' ⟨v, rfl, r0, r1, r2⟩
  have hL := h.ofB h1 h2 h3 h4 r1 r2
  obtain ⟨ao, cap, rfl⟩ := row_shape r0
  refine ⟨ao, cap, rfl, ?_⟩
  rcases r0.2 with ⟨e1, e2⟩ | ⟨g, cap', cur, e1, e2, e3, e4⟩
  · refine ⟨[], hL, fun W _ => ?_⟩
    exact ⟨r0.1, .inl ⟨e1, e2⟩⟩
  · refine ⟨[(g, .cells cur 9 (0, 0))], ?_, fun W hW => ⟨r0.1, .inr ⟨g, cap', cur, e1, e2, hW (g, .cells cur 9 (0, 0)) List.mem_cons_self, e4⟩⟩⟩
    obtain ⟨I', J', k1, k2, k3, k4⟩ := hL.ex
    refine ⟨⟨I, J, r1, h2.keep fun x hx => r2.block x (h2.lt x hx).2 fun e => h3 x e hx, h3, fun x hx => ?_⟩, hL.bel, hL.pq⟩
    rcases List.mem_append.1 hx with hx | hx
    · rw [List.mem_singleton.1 hx]
      exact ⟨e3, fun e => by have := (h1.lt _ e).2; omega, fun e => by have := (h2.lt _ e).2; omega⟩
    · exact ⟨(k4 x hx).1, (h4 x hx).2⟩
theorem LP.rtime (h : LP w0 Bk R a b c nw P nv Q F w) (now : Int) : Calls Try.prog 19 #[.pointer (some ⟨R, 0, none⟩), .int .i64 now, .int .i64 1] w fun e w' => ∃ ao cap, e = .returned (.tuple #[.slice ao (tellT nv now false Q).length cap, .int .i64 (tellE nv now false)]) ∧ w'.ownsRow w.heap.size 9 1 (.slice ao (tellT nv now false Q).length cap) (tellT nv now false Q).length ((tellT nv now false Q).map encStr) ∧ LP w0 Bk R a b c nw P (tellN nv now false) (tellP nv now false Q) F w' := by
  obtain ⟨I, J, h1, h2, h3, h4⟩ := h.ex
  have hn : nobody 1 = false := by decide
  have := h2.time h.pq now 1
  rw [hn] at this
  refine this.mono ?_
  rintro e w' ⟨ao, cap, J', rfl, r0, r1, r2⟩
  exact ⟨ao, cap, rfl, r0, h.ofD h1 h2 h3 h4 r1 r2 (h.pq.tell now false)⟩
theorem LP.state (h : LP w0 Bk R a b c nw P nv Q F w) (s : ByteArray) (hs : s.size ≤ maxLen) :
    Calls Try.prog 21 #[.pointer (some ⟨Bk, 0, none⟩), .string s] w fun e w' => e = .returned (match fndP P s.data.toList with | none => .tuple #[.int .i64 0, .int .i64 0] | some p => .tuple #[.int .i64 (lst p.dn p.ts.length p.tr b), .int .i64 (p.tr : Int)]) ∧ ∃ m, w' = w.drewN m := by
  obtain ⟨I, J, h1, h2, h3, h4⟩ := h.ex
  exact h1.state s hs
/-- Where the document's book has a job, and what it tells of it. -/
theorem LP.look (h : LP w0 Bk R a b c nw P nv Q F w) (s : ByteArray) :
    (fndP Q s.data.toList = none ∧ ∀ m, Calls Try.prog 22 #[.pointer (some ⟨R, 0, none⟩), .string s] (w.drewN m) fun e w' => e = .returned (.int .i64 (-1)) ∧ w' = w.drewN m) ∨
    ∃ p k gs cs ns gt ct nt, fndP Q s.data.toList = some p ∧ (∀ m, Calls Try.prog 22 #[.pointer (some ⟨R, 0, none⟩), .string s] (w.drewN m) fun e w' => e = .returned (.int .i64 ((k : Nat) : Int)) ∧ w' = w.drewN m) ∧ w.cell? ⟨R, 5, none⟩ = some (.slice (some ⟨gs, 0, none⟩) ns cs) ∧ k < ns ∧ w.cell? ⟨gs, k, none⟩ = some (.int .i64 (lst p.dn p.ts.length p.tr b)) ∧ w.cell? ⟨R, 6, none⟩ = some (.slice (some ⟨gt, 0, none⟩) nt ct) ∧ k < nt ∧ w.cell? ⟨gt, k, none⟩ = some (.int .i64 (p.tr : Int)) := by
  obtain ⟨I, J, h1, h2, h3, h4⟩ := h.ex
  obtain ⟨na, sa, ta, aa, d, h5, h6, h7, h8⟩ := h2.ex
  have hsm := h7.small h.pq
  have hAt := fun m => At_any (w := w.drewN m) (DS.keep h5 fun _ _ => rfl) (by omega) s
  cases hf : fndP Q s.data.toList with
  | none =>
    left
    rw [h7.noidx hf] at hAt
    exact ⟨rfl, hAt⟩
  | some p =>
    right
    obtain ⟨k, hk, hn, hi, hS, hT⟩ := h7.idx hf
    rw [hi] at hAt
    have hkS : k < d.S.length := by rw [h7.sl]; exact hk
    have hkT : k < d.T.length := by rw [h7.tl]; exact hk
    obtain ⟨gs, cs, rfl, hsc⟩ := row_i h5.sr k hkS
    obtain ⟨gt, ct, rfl, htc⟩ := row_i h5.tr k hkT
    refine ⟨p, k, gs, cs, d.S.length, gt, ct, d.T.length, rfl, hAt, h5.c5, hkS, ?_, h5.c6, hkT, ?_⟩
    · rw [hsc, ← hS]; simp [List.getD_eq_getElem?_getD, List.getElem?_eq_getElem hkS]
    · rw [htc, ← hT]; simp [List.getD_eq_getElem?_getD, List.getElem?_eq_getElem hkT]
theorem LP.leases (h : LP w0 Bk R a b c nw P nv Q F w) : Calls Try.prog 23 #[.pointer (some ⟨Bk, 0, none⟩)] w fun e w' => ∃ ao cap, e = .returned (.slice ao (lsP P).length cap) ∧ w'.ownsRow w.heap.size 52 3 (.slice ao (lsP P).length cap) (lsP P).length (lcs (lsP P)) ∧ LP w0 Bk R a b c nw P nv Q F w' := by
  obtain ⟨I, J, h1, h2, h3, h4⟩ := h.ex
  refine h1.leases.mono ?_
  rintro e w' ⟨v, rfl, r0, r1⟩
  obtain ⟨ao, cap, rfl⟩ := row_shape r0
  exact ⟨ao, cap, rfl, r0, h.up r1⟩
theorem LP.rsorted (h : LP w0 Bk R a b c nw P nv Q F w) : Calls Try.prog 24 #[.pointer (some ⟨R, 0, none⟩)] w fun e w' => ∃ ao cap, e = .returned (.slice ao (lsP Q).length cap) ∧ w'.ownsRow w.heap.size 52 3 (.slice ao (lsP Q).length cap) (lsP Q).length (lcs (lsP Q)) ∧ LP w0 Bk R a b c nw P nv Q F w' ∧ Below w.heap.size w w' := by
  obtain ⟨I, J, h1, h2, h3, h4⟩ := h.ex
  refine (h2.sorted h.pq).mono ?_
  rintro e w' ⟨v, rfl, r0, r1⟩
  obtain ⟨ao, cap, rfl⟩ := row_shape r0
  exact ⟨ao, cap, rfl, r0, h.up r1, r1⟩
/-- Both begin. -/
theorem LP.start (h : BA w0 Bk a b c 0 [] w) : LP w0 Bk w.heap.size a b c 0 [] 0 [] [] (w.alloc (.cells #[.int .i64 a, .int .i64 b, .int .i64 c, .int .i64 0, .slice none 0 0, .slice none 0 0, .slice none 0 0, .slice none 0 0] 36)) := by
  obtain ⟨I, h1, h2⟩ := h
  have hb : Below w.heap.size w (w.alloc (.cells #[.int .i64 a, .int .i64 b, .int .i64 c, .int .i64 0, .slice none 0 0, .slice none 0 0, .slice none 0 0, .slice none 0 0] 36)) := (Below.refl _ w).alloc (Nat.le_refl _) _
  have hx := heap_alloc_new w (.cells #[.int .i64 a, .int .i64 b, .int .i64 c, .int .i64 0, .slice none 0 0, .slice none 0 0, .slice none 0 0, .slice none 0 0] 36)
  refine ⟨⟨I, [w.heap.size], h1.up hb, ⟨.slice none 0 0, .slice none 0 0, .slice none 0 0, .slice none 0 0, ⟨0, [], [], [], []⟩, ⟨h2.size, hx, fun r hr => ?_, by simp [rid, rws, ob, Value.ownBlock]⟩, by simp [rid, rws, ob, Value.ownBlock], ⟨List.nodup_nil, rfl, rfl, rfl, fun k hk => (by cases hk), fun p hp => (by cases hp), .refl _⟩, rfl⟩, fun g hg hg2 => ?_, fun x hx => (by cases hx)⟩, h2.trans (hb.mono h2.size), h1.pi⟩
  · simp only [rws, List.mem_cons, List.not_mem_nil, or_false] at hr
    rcases hr with rfl | rfl | rfl | rfl <;> exact .inl (World.ownsRow_nil _ _ _ _)
  · have := (h1.lt g hg).2
    have := List.mem_singleton.1 hg2
    omega
end
end Go.Proofs.Ytocahjnibdgmoaa
