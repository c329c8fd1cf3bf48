/- LeaseBounds: what lies in memory all the way. -/
import Derived.Test.YtocahjnibdgmoaaLeBk
namespace Go.Proofs.Ytocahjnibdgmoaa
open Go.RowKit Go.Shelf Go.Maps Go.WideMaps Go.Sort

structure LB (w0 : World) (Bk : Nat) (a b c nw : Int) (P : List Pj) (jv dv : Value) (J D : List (List UInt8)) (F : List (Nat × Obj)) (w : World) : Prop where
  ex : ∃ I, Bok w0.heap.size Bk a b c nw P I w ∧ (∀ g, jv.ownBlock = some g → g ∉ I) ∧ (∀ g, dv.ownBlock = some g → g ∉ I) ∧ (∀ x ∈ F, x.1 ∉ I)
  bel : Below w0.heap.size w0 w
  jr : w.ownsRow w0.heap.size 9 1 jv J.length (J.map encStr)
  dr : w.ownsRow w0.heap.size 9 1 dv D.length (D.map encStr)
  ap : ∀ g, jv.ownBlock = some g → dv.ownBlock ≠ some g
  fr : ∀ x ∈ F, w.heap[x.1]? = some x.2 ∧ jv.ownBlock ≠ some x.1 ∧ dv.ownBlock ≠ some x.1

section
variable {w0 w w' : World} {Bk : Nat} {a b c nw : Int} {P : List Pj} {jv dv : Value} {J D : List (List UInt8)} {F : List (Nat × Obj)}
theorem LB.upd {I I' : List Nat} {nw' : Int} {P' : List Pj} (h : LB w0 Bk a b c nw P jv dv J D F w) (hB : Bok w0.heap.size Bk a b c nw P I w) (h1 : ∀ g, jv.ownBlock = some g → g ∉ I) (h2 : ∀ g, dv.ownBlock = some g → g ∉ I) (h3 : ∀ x ∈ F, x.1 ∉ I) (hB' : Bok w0.heap.size Bk a b c nw' P' I' w') (hu : Upd I I' w w') : LB w0 Bk a b c nw' P' jv dv J D F w' := by
  have hx : ∀ g, g < w.heap.size → g ∉ I → g ∉ I' := fun g hg hn hm => by
    rcases hu.new g hm with e | e
    · exact hn e
    · omega
  refine ⟨⟨I', hB', fun g hg => hx g (h.jr.lt g hg).2 (h1 g hg), fun g hg => hx g (h.dr.lt g hg).2 (h2 g hg), fun x hx2 => hx _ (Array.getElem?_eq_some_iff.1 (h.fr x hx2).1).1 (h3 x hx2)⟩, h.bel.trans (hu.below (fun g hg => (hB.lt g hg).1) h.bel.size), own_heapL h.jr fun g hg => hu.block g (h.jr.lt g hg).2 (h1 g hg), own_heapL h.dr fun g hg => hu.block g (h.dr.lt g hg).2 (h2 g hg), h.ap, fun x hx2 => ⟨(hu.block x.1 (Array.getElem?_eq_some_iff.1 (h.fr x hx2).1).1 (h3 x hx2)).trans (h.fr x hx2).1, (h.fr x hx2).2⟩⟩
theorem LB.up (h : LB w0 Bk a b c nw P jv dv J D F w) (hb : Below w.heap.size w w') : LB w0 Bk a b c nw P jv dv J D F w' := by
  obtain ⟨I, h1, h2, h3, h4⟩ := h.ex
  exact h.upd h1 h2 h3 h4 (h1.up hb) (Upd.of_below hb)
theorem LB.drewN (h : LB w0 Bk a b c nw P jv dv J D F w) (m : Nat) : LB w0 Bk a b c nw P jv dv J D F (w.drewN m) := h.up ⟨rfl, rfl, rfl, Nat.le_refl _, fun _ _ => rfl⟩
theorem LB.no (h : LB w0 Bk a b c nw P jv dv J D F w) : LB w0 Bk a b c nw P jv dv J D [] w := by
  obtain ⟨I, h1, h2, h3, h4⟩ := h.ex
  exact ⟨⟨I, h1, h2, h3, fun x hx => (by cases hx)⟩, h.bel, h.jr, h.dr, h.ap, fun x hx => (by cases hx)⟩
/-- A block that is told besides. -/
theorem LB.more (h : LB w0 Bk a b c nw P jv dv J D F w) (hb : Below w.heap.size w w') {X : Nat} {o : Obj} (hX : w'.heap[X]? = some o) (hl : w.heap.size ≤ X) : LB w0 Bk a b c nw P jv dv J D ((X, o) :: F) w' := by
  have h' := h.up hb
  obtain ⟨I, h1, h2, h3, h4⟩ := h.ex
  refine ⟨⟨I, h1.up hb, h2, h3, fun x hx => ?_⟩, h'.bel, h'.jr, h'.dr, h'.ap, fun x hx => ?_⟩
  · rcases List.mem_cons.1 hx with rfl | hx
    · exact fun e => by have := (h1.lt _ e).2; omega
    · exact h4 x hx
  · rcases List.mem_cons.1 hx with rfl | hx
    · exact ⟨hX, fun e => by have := (h.jr.lt _ e).2; omega, fun e => by have := (h.dr.lt _ e).2; omega⟩
    · exact h'.fr x hx
theorem LB.blk {X : Nat} {o : Obj} (h : LB w0 Bk a b c nw P jv dv J D ((X, o) :: F) w) : w.heap[X]? = some o := (h.fr (X, o) List.mem_cons_self).1
theorem LB.pi (h : LB w0 Bk a b c nw P jv dv J D F w) : PI a b c nw P := by
  obtain ⟨I, h1, h2, h3, h4⟩ := h.ex
  exact h1.pi
theorem LB.add (h : LB w0 Bk a b c nw P jv dv J D F w) (s : ByteArray) (hs : s.size ≤ maxLen) : Calls Try.prog 10 #[.pointer (some ⟨Bk, 0, none⟩), .string s] w fun e w' => e = .returned (.int .i64 (adE P s)) ∧ LB w0 Bk a b c nw (adP P s) jv dv J D F w' := by
  obtain ⟨I, h1, h2, h3, h4⟩ := h.ex
  refine (h1.add s hs).mono ?_
  rintro e w' ⟨rfl, I', r1, r2⟩
  exact ⟨rfl, h.upd h1 h2 h3 h4 r1 r2⟩
theorem LB.grant (h : LB w0 Bk a b c nw P jv dv J D F w) (s : ByteArray) (hs : s.size ≤ maxLen) (k now : Int) (hk : (Lit.int .i64 k).wf = true) : Calls Try.prog 12 #[.pointer (some ⟨Bk, 0, none⟩), .string s, .int .i64 k, .int .i64 now] w fun e w' => e = .returned (.int .i64 (grE b c nw P s.data.toList k now)) ∧ LB w0 Bk a b c (tellN nw now (nobody k)) (grP a b c nw P s.data.toList k now) jv dv J D F w' := by
  obtain ⟨I, h1, h2, h3, h4⟩ := h.ex
  refine (h1.grant s hs k now hk).mono ?_
  rintro e w' ⟨rfl, I', r1, r2⟩
  exact ⟨rfl, h.upd h1 h2 h3 h4 r1 r2⟩
theorem LB.beat (h : LB w0 Bk a b c nw P jv dv J D F w) (s : ByteArray) (hs : s.size ≤ maxLen) (k now : Int) (hk : (Lit.int .i64 k).wf = true) : Calls Try.prog 14 #[.pointer (some ⟨Bk, 0, none⟩), .string s, .int .i64 k, .int .i64 now] w fun e w' => e = .returned (.int .i64 (leE nw P s.data.toList k now)) ∧ LB w0 Bk a b c (tellN nw now (nobody k)) (beP a nw P s.data.toList k now) jv dv J D F w' := by
  obtain ⟨I, h1, h2, h3, h4⟩ := h.ex
  refine (h1.beat s hs k now hk).mono ?_
  rintro e w' ⟨rfl, I', r1, r2⟩
  exact ⟨rfl, h.upd h1 h2 h3 h4 r1 r2⟩
theorem LB.done (h : LB w0 Bk a b c nw P jv dv J D F w) (s : ByteArray) (hs : s.size ≤ maxLen) (k now : Int) (hk : (Lit.int .i64 k).wf = true) (g : Bool) : Calls Try.prog 16 #[.pointer (some ⟨Bk, 0, none⟩), .string s, .int .i64 k, .int .i64 now, .bool g] w fun e w' => e = .returned (.int .i64 (leE nw P s.data.toList k now)) ∧ LB w0 Bk a b c (tellN nw now (nobody k)) (doP nw P s.data.toList k now g) jv dv J D F w' := by
  obtain ⟨I, h1, h2, h3, h4⟩ := h.ex
  refine (h1.done s hs k now hk g).mono ?_
  rintro e w' ⟨rfl, I', r1, r2⟩
  exact ⟨rfl, h.upd h1 h2 h3 h4 r1 r2⟩
theorem LB.tick (h : LB w0 Bk a b c nw P jv dv J D F w) (now : Int) : Calls Try.prog 18 #[.pointer (some ⟨Bk, 0, none⟩), .int .i64 now] w fun e w' => ∃ v, e = .returned (.tuple #[v, .int .i64 (tellE nw now false)]) ∧ LB w0 Bk a b c (tellN nw now false) (tellP nw now false P) jv dv J D F w' := by
  obtain ⟨I, h1, h2, h3, h4⟩ := h.ex
  refine (h1.tick now).mono ?_
  rintro e w' ⟨v, rfl, r0, r1, r2⟩
  exact ⟨v, rfl, h.upd h1 h2 h3 h4 r1 r2⟩
theorem LB.leases (h : LB w0 Bk a b c nw P jv dv J D F w) : Calls Try.prog 23 #[.pointer (some ⟨Bk, 0, none⟩)] w fun e w' => ∃ ao cap, e = .returned (.slice ao (lsP P).length cap) ∧ w'.ownsRow w.heap.size 52 3 (.slice ao (lsP P).length cap) (lsP P).length (lcs (lsP P)) ∧ LB w0 Bk a b c nw P jv dv J D F w' := by
  obtain ⟨I, h1, h2, h3, h4⟩ := h.ex
  refine h1.leases.mono ?_
  rintro e w' ⟨v, rfl, r0, r1⟩
  obtain ⟨ao, cap, rfl⟩ := row_shape r0
  exact ⟨ao, cap, rfl, r0, h.up r1⟩
/-- One text more in the first list, or in the second. -/
theorem LB.appJ {o : Obj} {g cap : Nat} {x : List UInt8} {w3 : World} (h : LB w0 Bk a b c nw P jv dv J D F w) (hrow : w3.ownsRow w0.heap.size 9 1 (.slice (some ⟨g, 0, none⟩) (J.length + 1) cap) (J.length + 1) (J.map encStr ++ [encStr x])) (hg : (w.alloc o).grownBy w3 jv.ownBlock) (hat : jv.ownBlock = some g ∨ g = (w.alloc o).heap.size) : LB w0 Bk a b c nw P (.slice (some ⟨g, 0, none⟩) (J.length + 1) cap) dv (J ++ [x]) D F w3 := by
  obtain ⟨I, h1, h2, h3, h4⟩ := h.ex
  have hz : (w.alloc o).heap.size = w.heap.size + 1 := World.size_alloc _ _
  have hA : Below w.heap.size w (w.alloc o) := (Below.refl _ w).alloc (Nat.le_refl _) _
  have hk : ∀ k, k < w.heap.size → jv.ownBlock ≠ some k → w3.heap[k]? = w.heap[k]? := fun k hk hn => (hg.block k (by omega) fun e => hn e.symm).trans (hA.block k hk)
  have hgn : ∀ k, k < w.heap.size → jv.ownBlock ≠ some k → g ≠ k := fun k hk hn e => by
    subst e
    rcases hat with e | e
    · exact hn e
    · omega
  have ob : ∀ k, (Value.slice (some ⟨g, 0, none⟩) (J.length + 1) cap).ownBlock = some k → g = k := fun k e => by simpa [Value.ownBlock] using e
  have hIlt := fun k hk => (h1.lt k hk)
  have hIj : ∀ k ∈ I, jv.ownBlock ≠ some k := fun k hk e => h2 k e hk
  refine ⟨⟨I, h1.keep fun k hk2 => hk k (hIlt k hk2).2 (hIj k hk2), fun k e hkI => hgn k (hIlt k hkI).2 (hIj k hkI) (ob k e), h3, h4⟩, ?_, by rw [List.length_append, List.map_append]; exact hrow, own_heapL h.dr fun k hk2 => hk k (h.dr.lt k hk2).2 (fun e => h.ap k e hk2), fun k e e2 => hgn k (h.dr.lt k e2).2 (fun e3 => h.ap k e3 e2) (ob k e), fun x hx => ?_⟩
  · have hw := h.bel.size
    refine ⟨hg.os.trans h.bel.os, hg.tape.trans h.bel.tape, hg.output.trans h.bel.output, by have := hg.size; omega, fun k hk2 => (hk k (by omega) fun e => ?_).trans (h.bel.block k hk2)⟩
    have := (h.jr.lt k e).1
    omega
  · obtain ⟨f1, f2, f3⟩ := h.fr x hx
    have hl : x.1 < w.heap.size := (Array.getElem?_eq_some_iff.1 f1).1
    exact ⟨(hk x.1 hl f2).trans f1, fun e => hgn x.1 hl f2 (ob _ e), f3⟩
theorem LB.swap (h : LB w0 Bk a b c nw P jv dv J D F w) : LB w0 Bk a b c nw P dv jv D J F w := by
  obtain ⟨I, h1, h2, h3, h4⟩ := h.ex
  exact ⟨⟨I, h1, h3, h2, h4⟩, h.bel, h.dr, h.jr, fun g e1 e2 => h.ap g e2 e1, fun x hx => ⟨(h.fr x hx).1, (h.fr x hx).2.2, (h.fr x hx).2.1⟩⟩
theorem LB.appD {o : Obj} {g cap : Nat} {x : List UInt8} {w3 : World} (h : LB w0 Bk a b c nw P jv dv J D F w) (hrow : w3.ownsRow w0.heap.size 9 1 (.slice (some ⟨g, 0, none⟩) (D.length + 1) cap) (D.length + 1) (D.map encStr ++ [encStr x])) (hg : (w.alloc o).grownBy w3 dv.ownBlock) (hat : dv.ownBlock = some g ∨ g = (w.alloc o).heap.size) : LB w0 Bk a b c nw P jv (.slice (some ⟨g, 0, none⟩) (D.length + 1) cap) J (D ++ [x]) F w3 := (h.swap.appJ hrow hg hat).swap
theorem LB.start (h : BA w0 Bk a b c nw P w) : LB w0 Bk a b c nw P (.slice none 0 0) (.slice none 0 0) [] [] [] w := by
  obtain ⟨I, h1, h2⟩ := h
  exact ⟨⟨I, h1, fun g hg => (by cases hg), fun g hg => (by cases hg), fun x hx => (by cases hx)⟩, h2, World.ownsRow_nil _ _ _ _, World.ownsRow_nil _ _ _ _, fun g hg => (by cases hg), fun x hx => (by cases hx)⟩
end

/-- What is known of jobs and of what is done goes on. -/
theorem fnd_map {P : List Pj} {s : List UInt8} (f : Pj → Pj) (hf : ∀ p, (f p).nm = p.nm) : fndP (P.map f) s = (fndP P s).map f := by
  unfold fndP
  rw [List.find?_map]
  congr 2
  funext p
  show ((f p).nm == s) = (p.nm == s)
  rw [hf]
theorem JD.map {P : List Pj} {J D : List (List UInt8)} (h : JD P J D) (f : Pj → Pj) (hf : ∀ p, (f p).nm = p.nm) (hd : ∀ p, p.dn = true → (f p).dn = true) : JD (P.map f) J D :=
  ⟨fun s hs => by obtain ⟨p, hp⟩ := h.j s hs; exact ⟨f p, by rw [fnd_map f hf, hp]; rfl⟩, fun s hs => by obtain ⟨p, hp, hq⟩ := h.d s hs; exact ⟨f p, by rw [fnd_map f hf, hp]; rfl, hd p hq⟩, h.jl, h.dl⟩
section
variable {a b c nw now k : Int} {P : List Pj} {J D : List (List UInt8)} {s : List UInt8}
theorem JD.tell (h : JD P J D) (now : Int) (nb : Bool) : JD (tellP nw now nb P) J D := by
  unfold tellP
  split
  · exact h.map _ (fun _ => rfl) fun _ h => h
  · exact h
theorem JD.set (h : JD P J D) (f : Pj → Pj) (hf : ∀ p, (f p).nm = p.nm) (hd : ∀ p, p.dn = true → (f p).dn = true) : JD (setP P s f) J D :=
  h.map (fun p => if p.nm = s then f p else p) (fun p => by
    show (if p.nm = s then f p else p).nm = p.nm
    split
    · exact hf p
    · rfl) fun p hp => by
    show (if p.nm = s then f p else p).dn = true
    split
    · exact hd p hp
    · exact hp
theorem JD.grant (h : JD P J D) : JD (grP a b c nw P s k now) J D := by
  unfold grP
  split
  · exact (h.tell now _).set _ (fun _ => rfl) fun _ h => h
  · exact h.tell now _
theorem JD.beat (h : JD P J D) : JD (beP a nw P s k now) J D := by
  unfold beP
  split
  · exact (h.tell now _).set _ (fun _ => rfl) fun _ h => h
  · exact h.tell now _
theorem JD.done (h : JD P J D) (g : Bool) : JD (doP nw P s k now g) J D := by
  unfold doP
  split
  · refine (h.tell now _).set _ (fun p => by unfold doF; split <;> rfl) fun p hp => ?_
    unfold doF
    split
    · rfl
    · exact hp
  · exact h.tell now _
theorem JD.doneD (h : JD P J D) (h0 : leE nw P s k now = 0) (hl : D.length + 1 ≤ 1000) : JD (doP nw P s k now true) J (D ++ [s]) := by
  have h1 := h.done (nw := nw) (s := s) (k := k) (now := now) true
  refine ⟨h1.j, fun x hx => ?_, h1.jl, by simpa using hl⟩
  rcases List.mem_append.1 hx with hx | hx
  · exact h1.d x hx
  · have hx2 : x = s := by simpa using hx
    subst hx2
    obtain ⟨_, p, hp, _⟩ := leE_zero h0
    unfold doP
    rw [if_pos h0]
    refine ⟨doF k true p, ?_, rfl⟩
    unfold setP
    rw [fnd_map _ (fun q => by
      show (if q.nm = x then doF k true q else q).nm = q.nm
      split
      · rfl
      · rfl), hp]
    show some (if p.nm = x then doF k true p else p) = _
    rw [if_pos (fnd_mem hp).2]
theorem insP_fnd {x : Pj} {p : Pj} : ∀ {P : List Pj}, fndP P s = some p → x.nm ≠ s → fndP (insP x P) s = some p
  | [], h, _ => by cases h
  | y :: r, h, hn => by
    have hx : (x.nm == s) = false := beq_eq_false_iff_ne.2 hn
    unfold insP
    split
    · unfold fndP at h ⊢
      rw [List.find?_cons, hx]
      exact h
    · unfold fndP at h ⊢
      rw [List.find?_cons] at h ⊢
      cases hy : (y.nm == s) with
      | true => rw [hy] at h; exact h
      | false => rw [hy] at h; exact insP_fnd (P := r) h hn
theorem insP_self {x : Pj} : ∀ {P : List Pj}, (∀ p ∈ P, p.nm ≠ x.nm) → fndP (insP x P) x.nm = some x
  | [], _ => by unfold insP fndP; simp
  | y :: r, h => by
    unfold insP
    split
    · unfold fndP; simp
    · unfold fndP
      rw [List.find?_cons, show (y.nm == x.nm) = false from beq_eq_false_iff_ne.2 (h y (by simp))]
      exact insP_self (P := r) fun p hp => h p (by simp [hp])
theorem JD.add (h : JD P J D) (t : ByteArray) : JD (adP P t) J D := by
  unfold adP
  split
  · rename_i h0
    obtain ⟨_, h2, _⟩ := adE_zero h0
    have hne : ∀ {s : List UInt8} {p : Pj}, fndP P s = some p → (⟨t.data.toList, false, 0, []⟩ : Pj).nm ≠ s := fun hp e => by
      rw [← e] at hp
      rw [show (⟨t.data.toList, false, 0, []⟩ : Pj).nm = t.data.toList from rfl, h2] at hp
      cases hp
    exact ⟨fun s hs => by obtain ⟨p, hp⟩ := h.j s hs; exact ⟨p, insP_fnd hp (hne hp)⟩, fun s hs => by obtain ⟨p, hp, hq⟩ := h.d s hs; exact ⟨p, insP_fnd hp (hne hp), hq⟩, h.jl, h.dl⟩
  · exact h
theorem JD.addJ (h : JD P J D) {t : ByteArray} (h0 : adE P t = 0) (hl : J.length + 1 ≤ 1000) : JD (adP P t) (J ++ [t.data.toList]) D := by
  have h1 := h.add t
  refine ⟨fun x hx => ?_, h1.d, by simpa using hl, h1.dl⟩
  rcases List.mem_append.1 hx with hx | hx
  · exact h1.j x hx
  · have hx2 : x = t.data.toList := by simpa using hx
    subst hx2
    obtain ⟨_, h2, _⟩ := adE_zero h0
    unfold adP
    rw [if_pos h0]
    exact ⟨_, insP_self (x := ⟨t.data.toList, false, 0, []⟩) fun p hp => fnd_no h2 p hp⟩
end
end Go.Proofs.Ytocahjnibdgmoaa
