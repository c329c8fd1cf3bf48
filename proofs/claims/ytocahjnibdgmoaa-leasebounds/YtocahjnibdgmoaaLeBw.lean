/- LeaseBounds, walked. -/
import Derived.Test.YtocahjnibdgmoaaLeBs
import Derived.Test.YtocahjnibdgmoaaLeArC
namespace Go.Proofs.Ytocahjnibdgmoaa
open Go.RowKit Go.Shelf Go.Maps Go.WideMaps Go.Sort

/-- All the way. -/
structure BW (w0 : World) (Bk : Nat) (a b c : Int) (now : Int) (jv dv : Value) (k : Nat) (w : World) : Prop where
  ex : ∃ nw P J D, LB w0 Bk a b c nw P jv dv J D [] w ∧ JD P J D ∧ J.length ≤ k ∧ D.length ≤ k ∧ nw ≤ now
  t0 : 0 ≤ now
  t1 : now ≤ 1000000000

/-- Behind a call of the book; behind the list of its leases. -/
def BE (w0 : World) (Bk : Nat) (a b c : Int) (now er : Int) (jv dv : Value) (k : Nat) (w : World) : Prop := ∃ nw P J D, LB w0 Bk a b c nw P jv dv J D [] w ∧ JD P J D ∧ J.length ≤ k ∧ D.length ≤ k ∧ nw ≤ now ∧ (er = 3 ∨ nw = now)
def BL (w0 : World) (Bk : Nat) (a b c : Int) (now er : Int) (jv dv : Value) (k : Nat) (ao : Option Addr) (cap n : Nat) (w : World) : Prop := ∃ nw P J D HB, LB w0 Bk a b c nw P jv dv J D [] w ∧ JD P J D ∧ J.length ≤ k ∧ D.length ≤ k ∧ nw ≤ now ∧ (er = 3 ∨ nw = now) ∧ n = (lsP P).length ∧ w.ownsRow HB 52 3 (.slice ao n cap) n (lcs (lsP P)) ∧ n ≤ 1000000
theorem BE.leases {w0 w : World} {Bk : Nat} {a b c now er : Int} {jv dv : Value} {k : Nat} (h : BE w0 Bk a b c now er jv dv k w) : Calls Try.prog 23 #[.pointer (some ⟨Bk, 0, none⟩)] w fun e w' => ∃ ao cap n, e = .returned (.slice ao n cap) ∧ Hid (BL w0 Bk a b c now er jv dv k ao cap n w') := by
  obtain ⟨nw, P, J, D, h1, h2, h3, h4, h5, h6⟩ := h
  refine h1.leases.mono ?_
  rintro e w' ⟨ao, cap, rfl, r1, r2⟩
  refine ⟨ao, cap, _, rfl, nw, P, J, D, _, r2, h2, h3, h4, h5, h6, rfl, r1, ?_⟩
  have := lsP_len P 200 (fun p hp => by have h7 := (h1.pi.each p hp).sz; have h8 := h1.pi.tc; omega) h1.pi.len
  omega
theorem encS (s : ByteArray) : encStr s.data.toList = .string s := by
  show Value.string ⟨s.data.toList.toArray⟩ = _
  rw [Array.toArray_toList]
theorem tell_ok2 {nw now : Int} (h : nw ≤ now) (h0 : 0 ≤ now) (h1 : now ≤ 1000000000) : tellE nw now false = 0 := by unfold tellE; rw [if_neg (by simp; omega), if_neg (by omega)]
theorem tell_or {nw now : Int} (k : Int) (h : nw ≤ now) (h0 : 0 ≤ now) (h1 : now ≤ 1000000000) : (tellE nw now (nobody k) = 3 ∧ tellN nw now (nobody k) = nw) ∨ (tellE nw now (nobody k) = 0 ∧ tellN nw now (nobody k) = now) := by
  cases hn : nobody k with
  | true =>
    left
    have : tellE nw now true = 3 := by unfold tellE; rw [if_pos (.inr (.inr rfl))]
    exact ⟨this, by unfold tellN; rw [this]; rfl⟩
  | false =>
    right
    have := tell_ok2 h h0 h1
    exact ⟨this, tellN_zero this⟩
theorem tellN_le {nw now : Int} (k : Int) (h : nw ≤ now) (h0 : 0 ≤ now) (h1 : now ≤ 1000000000) : tellN nw now (nobody k) ≤ now := by
  rcases tell_or k h h0 h1 with ⟨_, e⟩ | ⟨_, e⟩ <;> omega
theorem gr3 {nw now : Int} {b c k : Int} {P : List Pj} {s : List UInt8} (h : nw ≤ now) (h0 : 0 ≤ now) (h1 : now ≤ 1000000000) : grE b c nw P s k now = 3 ∨ tellN nw now (nobody k) = now := by
  rcases tell_or k h h0 h1 with ⟨e, _⟩ | ⟨_, e⟩
  · left; unfold grE; rw [if_pos (by rw [e]; decide), e]
  · exact .inr e
theorem le3 {nw now : Int} {k : Int} {P : List Pj} {s : List UInt8} (h : nw ≤ now) (h0 : 0 ≤ now) (h1 : now ≤ 1000000000) : leE nw P s k now = 3 ∨ tellN nw now (nobody k) = now := by
  rcases tell_or k h h0 h1 with ⟨e, _⟩ | ⟨_, e⟩
  · left; unfold leE; rw [if_pos (by rw [e]; decide), e]
  · exact .inr e

theorem LB.tickE {w0 w : World} {Bk : Nat} {a b c nw now : Int} {P : List Pj} {jv dv : Value} {J D : List (List UInt8)} {F : List (Nat × Obj)} {k : Nat} (h : LB w0 Bk a b c nw P jv dv J D F w) (hJ : JD P J D) (h1 : J.length ≤ k) (h2 : D.length ≤ k) (h3 : nw ≤ now) (h4 : 0 ≤ now) (h5 : now ≤ 1000000000) :
    Calls Try.prog 18 #[.pointer (some ⟨Bk, 0, none⟩), .int .i64 now] w fun e w' => ∃ v, e = .returned (.tuple #[v, .int .i64 0]) ∧ Hid (BE w0 Bk a b c now 0 jv dv k w') := by
  have ht := tell_ok2 h3 h4 h5
  refine (h.tick now).mono ?_
  rintro e w' ⟨v, rfl, r1⟩
  rw [tellN_zero ht] at r1
  exact ⟨v, by rw [ht], _, _, J, D, r1.no, hJ.tell now false, h1, h2, Int.le_refl _, .inr rfl⟩
theorem call_cells {W : World} {X : Nat} {v0 v1 v2 v3 v4 : Value} {t : TypeId} (h : W.heap[X]? = some (.cells #[v0, v1, v2, v3, v4] t (0, 0))) : W.cell? ⟨X, 3, none⟩ = some v3 ∧ W.cell? ⟨X, 4, none⟩ = some v4 := ⟨Lib.cell_of_heap h 3, Lib.cell_of_heap h 4⟩
theorem new1 (W : World) (t : TypeId) (x : Value) : ∀ (j : Nat) (u : Value), [x][j]? = some u → (W.alloc (.cells #[x] t)).cell? ((⟨W.heap.size, 0, none⟩ : Addr).add j) = some u := by
  intro j u hj
  have hb := heap_alloc_new W (.cells #[x] t)
  match j, hj with
  | 0, hj => simp at hj; subst hj; exact Lib.cell_of_heap hb 0

set_option maxHeartbeats 8000000 in
set_option maxRecDepth 100000 in
theorem bounds_no (a b c : Int) (ao : Option Addr) (cap n : Nat) (w : World) (h : ¬ termsOk a b c) :
    Calls Try.prog 4 #[.agg #[.int .i64 a, .int .i64 b, .int .i64 c], .slice ao n cap] w fun e w' => e = .returned (.bool true) ∧ Below w.heap.size w w' := by
  have HBg : Hid (Calls Try.prog 6 #[] (wT w a b c) fun e w' => e = .returned (.bool true) ∧ Hid (Below (wT w a b c).heap.size (wT w a b c) w')) := lbegun _
  have HN : Hid (∀ W, Calls Try.prog 7 #[.agg #[.int .i64 a, .int .i64 b, .int .i64 c]] W fun e w' => e = .returned (.tuple #[.pointer none, .int .i64 3]) ∧ Hid (Below W.heap.size W w')) := fun W => LNew_no a b c W h
  clear h
  go_enter Try.func4, Try.ntmps4
  go_wp2_with (first
    | (go_at_call 6; refine HBg.out.mono ?_; rintro e w1 ⟨rfl, R1⟩; obtain ⟨c0, c1, c2⟩ := wT_cells R1.out)
    | (go_at_call 7; refine (HN.out _).mono ?_; rintro e w2 ⟨rfl, R2⟩)
    | go_in)
  go_ret
  have h1 := wT_bel R1.out
  exact ⟨rfl, h1.trans (R2.out.mono h1.size)⟩

set_option maxHeartbeats 8000000 in
set_option maxRecDepth 100000 in
theorem bounds_yes (a b c : Nat) (ao : Option Addr) (cap : Nat) (l : List (Int × Int × Int × ByteArray × Bool)) (w : World) (h : termsOk a b c) (hl : CallsIn w ao l) :
    Calls Try.prog 4 #[.agg #[.int .i64 a, .int .i64 b, .int .i64 c], .slice ao l.length cap] w fun e w' => e = .returned (.bool true) ∧ Below w.heap.size w w' := by
  obtain ⟨w0, hw0⟩ : ∃ w0, w0 = wT w a b c := ⟨_, rfl⟩
  have HBg : Hid (Calls Try.prog 6 #[] (wT w a b c) fun e w' => e = .returned (.bool true) ∧ Hid (Below w0.heap.size w0 w')) := by rw [hw0]; exact lbegun _
  have HC : Hid (∀ W, Below w0.heap.size w0 W → W.cell? ⟨w.heap.size, 0, none⟩ = some (.int .i64 a) ∧ W.cell? ⟨w.heap.size, 1, none⟩ = some (.int .i64 b) ∧ W.cell? ⟨w.heap.size, 2, none⟩ = some (.int .i64 c)) := fun W hb => wT_cells (by rw [← hw0]; exact hb)
  have HE : Hid (∀ W, Below w0.heap.size w0 W → Below w.heap.size w W) := fun W hb => wT_bel (a := a) (b := b) (c := c) (by rw [← hw0]; exact hb)
  have HZ : Hid (w.heap.size < w0.heap.size) := by unfold Hid; rw [hw0]; unfold wT; rw [World.size_alloc]; omega
  have HN : Hid (∀ W, Below w0.heap.size w0 W → Calls Try.prog 7 #[.agg #[.int .i64 a, .int .i64 b, .int .i64 c]] W fun e w' => ∃ Bk, e = .returned (.tuple #[.pointer (some ⟨Bk, 0, none⟩), .int .i64 0]) ∧ Hid (BW w0 Bk a b c 0 (.slice none 0 0) (.slice none 0 0) 0 w')) := fun W hb => by
    refine (BA.new h hb).mono ?_
    rintro e w' ⟨Bk, rfl, r1⟩
    exact ⟨Bk, rfl, ⟨0, [], [], [], LB.start r1, ⟨fun s hs => (by cases hs), fun s hs => (by cases hs), Nat.zero_le _, Nat.zero_le _⟩, Nat.le_refl _, Nat.le_refl _, Int.le_refl _⟩, Int.le_refl _, by decide⟩
  have HL : Hid (CallsIn w ao l) := hl
  obtain ⟨n, hn⟩ : ∃ n, n = l.length := ⟨_, rfl⟩
  have HNn : Hid (n = l.length) := hn
  rw [← hn]
  obtain ⟨i0, hi, hz0, hz1, hz2⟩ := info_parts infS
  clear hl hw0 h hn
  go_enter Try.func4, Try.ntmps4
  go_wp2_with (first
    | (go_at_call 6; refine HBg.out.mono ?_; rintro e w1 ⟨rfl, R1⟩; obtain ⟨c0, c1, c2⟩ := HC.out _ R1.out)
    | (go_at_call 7; refine (HN.out _ R1.out).mono ?_; rintro e w2 ⟨Bk, rfl, R2⟩)
    | go_in)
  clear c0 c1 c2 HBg HN R1
  go_loopw [7, 8, 9, 10] (fun tv jv dv i wr => ∃ (k : Nat) (now : Int), k ≤ n ∧ tv = .int .i64 now ∧ i = .int .i64 (k : Int) ∧ k ≤ 250 ∧ Hid (BW w0 Bk a b c now jv dv k wr)) (fun _ _ _ i _ => n - (RowKit.intOf i).toNat)
  case atStart => exact ⟨0, 0, Nat.zero_le _, rfl, rfl, by omega, R2⟩
  case round =>
    obtain ⟨k, now, hk, rfl, rfl, hk2, HI⟩ := hrel
    clear R2
    by_cases hkl : k < n ∧ k < 250
    · have j1 : (k : Int) < (n : Int) := by omega
      have j2 : (k : Int) < 250 := by omega
      have hkl2 : k < l.length := by have := HNn.out; omega
      obtain ⟨g, o, rfl, hg, hcell⟩ := HL.out.at_ (by intro e; rw [e] at hkl2; cases hkl2)
      obtain ⟨h1, h2, h3, h4, h5⟩ := hcell k hkl2
      obtain ⟨⟨nw, P, J, D, hLB, hJD, hJk, hDk, hnw⟩, ht0, ht1⟩ := HI.out
      have hbl := hLB.bel
      have hgw : g < w0.heap.size := by have := HZ.out; omega
      have hgr : g < wr.heap.size := by have := hbl.size; omega
      have hold : ∀ (x : Nat), wr.cell? ⟨g, x, none⟩ = w.cell? ⟨g, x, none⟩ := fun x => (HE.out _ hbl).cell (p := ⟨g, x, none⟩) hg
      have a0 := (hold _).trans h1
      have a1 := (hold _).trans h2
      have a2 := (hold _).trans h3
      have a3 := (hold _).trans h4
      have a4 := (hold _).trans h5
      have hsz : (l[k]).2.2.2.1.size ≤ maxLen := HL.out.sz _ (List.getElem_mem hkl2)
      have hkd := HL.out.kd _ (List.getElem_mem hkl2)
      clear h1 h2 h3 h4 h5 hold hcell HI
      generalize l[k] = mv at *
      obtain ⟨kd, wk, dn, s, gd⟩ := mv
      simp only at a0 a1 a2 a3 a4 hsz hkd
      obtain ⟨dt, hdt⟩ : ∃ dt, dt = chs dn 30 := ⟨_, rfl⟩
      have hdl : dt < 30 := by rw [hdt]; exact chs_lt dn (by decide)
      obtain ⟨cc, hcc⟩ : ∃ cc, cc = chs kd 5 := ⟨_, rfl⟩
      have hcl : cc < 5 := by rw [hcc]; exact chs_lt kd (by decide)
      have HC30 : Hid (∀ W, Calls Try.prog 9 #[.int .i64 dn, .int .i64 30] W fun e w' => e = .returned (.int .i64 (dt : Int)) ∧ w' = W) := fun W => by rw [hdt]; exact choose_any dn 30 W hkd.2.2.1 hkd.2.2.2 (by decide)
      have HC5 : Hid (∀ W, Calls Try.prog 9 #[.int .i64 kd, .int .i64 5] W fun e w' => e = .returned (.int .i64 (cc : Int)) ∧ w' = W) := fun W => by rw [hcc]; exact choose_any kd 5 W hkd.1.1 hkd.1.2 (by decide)
      obtain ⟨t1, hT1⟩ : ∃ t1, t1 = now + (dt : Int) := ⟨_, rfl⟩
      have y1 : now + (dt : Int) = t1 := hT1.symm
      have y2 : IntKind.i64.wrap t1 = t1 := by rw [IntKind.wrap_i64]; omega
      obtain ⟨t2, hT2⟩ : ∃ t2, t2 = min 1000000000 t1 := ⟨_, rfl⟩
      have y3 : min 1000000000 t1 = t2 := hT2.symm
      have HT : Hid (now ≤ t2 ∧ 0 ≤ t2 ∧ t2 ≤ 1000000000) := by unfold Hid; omega
      have hb3 : Below wr.heap.size wr (wr.alloc (.cells #[.int .i64 kd, .int .i64 wk, .int .i64 dn, .string s, .bool gd] 38)) := (Below.refl _ wr).alloc (Nat.le_refl _) _
      have hL3 : LB w0 Bk a b c nw P u8 u9 J D [(wr.heap.size, .cells #[.int .i64 kd, .int .i64 wk, .int .i64 dn, .string s, .bool gd] 38 (0, 0))] (wr.alloc (.cells #[.int .i64 kd, .int .i64 wk, .int .i64 dn, .string s, .bool gd] 38)) := hLB.more hb3 (heap_alloc_new wr _) (Nat.le_refl _)
      have HX : Hid (LB w0 Bk a b c nw P u8 u9 J D [(wr.heap.size, .cells #[.int .i64 kd, .int .i64 wk, .int .i64 dn, .string s, .bool gd] 38 (0, 0))] (wr.alloc (.cells #[.int .i64 kd, .int .i64 wk, .int .i64 dn, .string s, .bool gd] 38)) ∧ JD P J D ∧ J.length ≤ k ∧ D.length ≤ k ∧ nw ≤ now ∧ s.size ≤ maxLen ∧ (Lit.int .i64 wk).wf = true) := ⟨hL3, hJD, hJk, hDk, hnw, hsz, wf_small hkd.2.1.1 hkd.2.1.2⟩
      obtain ⟨k1, hk1e⟩ : ∃ k1, k1 = k + 1 := ⟨_, rfl⟩
      have z1 : (k : Int) + 1 = (k1 : Int) := by omega
      have z2 : IntKind.i64.wrap (k1 : Int) = (k1 : Int) := by rw [IntKind.wrap_i64]; omega
      have HK1 : Hid (k1 = k + 1 ∧ k < n ∧ k < 250) := ⟨hk1e, hkl⟩
      clear hLB hJD hJk hDk hnw ht0 ht1 hbl hgw hsz hkd hdt hdl hcc hT1 hT2 hb3 hL3 hk1e hg hkl hkl2 hk hk2
      have hc5 : cc = 0 ∨ cc = 1 ∨ cc = 2 ∨ cc = 3 ∨ cc = 4 := by omega
      clear hcl
      rcases hc5 with rfl | rfl | rfl | rfl | rfl
      · have HA : Hid (Calls Try.prog 10 #[.pointer (some ⟨Bk, 0, none⟩), .string s] (wr.alloc (.cells #[.int .i64 kd, .int .i64 wk, .int .i64 dn, .string s, .bool gd] 38)) fun e w' => e = .returned (.int .i64 (adE P s)) ∧ w'.cell? ⟨wr.heap.size, 3, none⟩ = some (.string s) ∧ Hid (LB w0 Bk a b c nw (adP P s) u8 u9 J D [(wr.heap.size, .cells #[.int .i64 kd, .int .i64 wk, .int .i64 dn, .string s, .bool gd] 38 (0, 0))] w')) := by
          obtain ⟨x1, x2, x3, x4, x5, x6, x7⟩ := HX.out
          refine (x1.add s x6).mono ?_
          rintro e w' ⟨rfl, r1⟩
          exact ⟨rfl, (call_cells r1.blk).1, r1⟩
        by_cases hae : adE P s = 0
        · have HJ2 : Hid (JD (adP P s) (J ++ [s.data.toList]) D ∧ J.length ≤ k ∧ D.length ≤ k ∧ nw ≤ t2) := by
            obtain ⟨x1, x2, x3, x4, x5, x6, x7⟩ := HX.out
            have := HK1.out
            have := HT.out
            exact ⟨x2.addJ hae (by omega), x3, x4, by omega⟩
          rw [hae] at HA
          obtain ⟨jn, hjn⟩ : ∃ jn, jn = J.length := ⟨_, rfl⟩
          have HJN : Hid (jn = J.length) := hjn
          have q1 : jn + 1 ≤ maxLen := by have := HJ2.out.2.1; have := HK1.out; unfold maxLen; omega
          have q2 : (jn + 1) * 16 ≤ 140737488355328 := by have := HJ2.out.2.1; have := HK1.out; omega
          clear HX hae hjn
          go_wp2_with (first
            | (go_at_call 9; with_reducible refine (HC30.out _).mono ?_; rintro e w' ⟨rfl, rfl⟩)
            | (go_at_call 9; with_reducible refine (HC5.out _).mono ?_; rintro e w' ⟨rfl, rfl⟩)
            | (go_at_call 10; refine HA.out.mono ?_; rintro e w4 ⟨rfl, b3, R4⟩; have q3 : w0.heap.size ≤ (w4.alloc (.cells #[.string s] 9)).heap.size := (by have := R4.out.bel.size; rw [World.size_alloc]; omega); have hrw : w4.ownsRow w0.heap.size 9 1 u8 jn (J.map encStr) := (by have := R4.out.jr; rw [← HJN.out] at this; exact this))
            | (at_builtin; refine wpList_append_lies _ rfl _ _ 32 rfl w0.heap.size 9 i0 (.string ⟨#[]⟩) 1 16 Try.underlying32 hi hz0 hz1 hz2 rfl (by decide) _ jn (J.map encStr) rfl (hrw.alloc _) ⟨w4.heap.size, 0, none⟩ 1 1 [.string s] rfl rfl (new1 _ _ _) (by simp [Value.oneCell']) (by decide) q1 q2 q3 (w4.heap.size + 1) (World.size_alloc _ _) ?_; intro g5 cap5 w5 hown5 hgrow5 hat5 hlt5; go_frame; have R5b := (show Hid (Calls Try.prog 18 #[.pointer (some ⟨Bk, 0, none⟩), .int .i64 t2] w5 fun e w' => ∃ v, e = .returned (.tuple #[v, .int .i64 0]) ∧ Hid (BE w0 Bk a b c t2 0 (.slice (some ⟨g5, 0, none⟩) (jn + 1) cap5) u9 k1 w')) from by
              have hap := R4.out.appJ (x := s.data.toList) (g := g5) (cap := cap5) (w3 := w5) (by rw [encS, ← HJN.out]; exact hown5) hgrow5 (by rw [World.size_alloc]; exact hat5)
              rw [← HJN.out] at hap
              have := HK1.out
              exact hap.tickE HJ2.out.1 (by rw [List.length_append]; have := HJ2.out.2.1; simp; omega) (by have := HJ2.out.2.2.1; omega) HJ2.out.2.2.2 HT.out.2.1 HT.out.2.2))
            | (go_at_call 18; refine (R5b.out).mono ?_; rintro e w5' ⟨v5, rfl, R5⟩)
            | (go_at_call 23; refine (BE.leases R5.out).mono ?_; rintro e w6 ⟨a6, c6, n6, rfl, R6⟩)
            | fail)
          obtain ⟨nw', P', J', D', HB6, q1, q2, q3, q4, q5, q6, q7, q8, q9⟩ := R6.out
          obtain ⟨I6, q10, _, _, _⟩ := q1.ex
          obtain ⟨aj, cj, hjs⟩ := row_shape q1.jr
          have HF : Hid (∀ m, BW w0 Bk a b c t2 (.slice (some ⟨g5, 0, none⟩) (jn + 1) cap5) u9 k1 (w6.drewN m)) := fun m => ⟨⟨nw', P', J', D', q1.drewN m, q2, q3, q4, q5⟩, HT.out.2.1, HT.out.2.2⟩
          obtain ⟨_, cT1, cT2⟩ := HC.out _ q1.bel
          refine heldL _ _ _ _ _ _ _ _ _ _ _ _ _ _ _ _ _ _ _ _ _ _ _ _ _ _ _ _ _ _ _ _ _ _ _ _ _ _ _ _ _ _ _ _ _ _ _ _ _ _ _ _ _ _ _ _ _ _ _ _ _ _ _ _ _ _ _ _ _ _ _ _ _ _ _ _ _ _ _ _ _ _ _ _ _ _ _ _ _ _ _ _ _ _ _ _ _ _ _ _ _ _ _ _ _ _ _ _ _ _ _ _ _ _ _ _ _ _ _ _ _ _ _ _ _ _ _ _ _ _ _ _ _ _ _ _ _ _ _ _ _ _ _ _ _ _ _ _ _ _ _ _ _ _ _ _ _ _ _ _ _ _ _ _ _ _ _ _ _ _ _ _ _ _ _ _ _ _ _ _ _ _ _ _ _ _ _ _ _ _ _ _ _ _ _ _ _ _ _ _ _ _ _ _ _ _ _ _ _ _ _ _ _ _ _ _ _ _ w6 q10 a6 c6 n6 q7 q8 q9 t2 0 q6 _ ?_
          intro u4 u14 u15 u16 u126 u127 u128 u129 u130 u131 u132 u133 u134 u135 u136 u137 u138 u139 u140 u141 u142 u143 u144 u145 u146 u147 u148 u149 u150 u151 u152 u153 u154 u155 u156 u157 u158 u159 u160 m
          go_wp2
          rw [hjs]
          refine jobsL _ _ _ _ _ _ _ _ _ _ _ _ _ _ _ _ _ _ _ _ _ _ _ _ _ _ _ _ _ _ _ _ _ _ _ _ _ _ _ _ _ _ _ _ _ _ _ _ _ _ _ _ _ _ _ _ _ _ _ _ _ _ _ _ _ _ _ _ _ _ _ _ _ _ _ _ _ _ _ _ _ _ _ _ _ _ _ _ _ _ _ _ _ _ _ _ _ _ _ _ _ _ _ _ _ _ _ _ _ _ _ _ _ _ _ _ _ _ _ _ _ _ _ _ _ _ _ _ _ _ _ _ _ _ _ _ _ _ _ _ _ _ _ _ _ _ _ _ _ _ _ _ _ _ _ _ _ _ _ _ _ _ _ _ _ _ _ _ _ _ _ _ _ _ _ _ _ _ _ _ _ _ _ _ _ _ _ _ _ _ _ _ _ _ _ _ _ _ _ _ _ _ _ _ _ _ _ _ _ _ _ _ _ _ _ _ _ (w6.drewN m) (T := w.heap.size) (q10.drewN m) a6 c6 n6 q7 (own_heapL q8 fun _ _ => rfl) q9 cT1 cT2 aj J'.length cj J' D' rfl (own_heapL (hjs ▸ q1.jr) fun _ _ => rfl) u9 (own_heapL q1.dr fun _ _ => rfl) q2 _ ?_
          intro u4 u17 u18 u19 u20 u21 u161 u162 u163 u164 u165 u166 u167 u168 u169 u170 u171 u172 u173 u174 u175 u176 u177 u178 u179 u180 u181 u182 u183 u184 u185 u186 u187 u188 u189 u190 u191 u192 u193 u194 u195 u196 u197 u198 u199 u200 u201 u202 u203 u204 u205 u206 u207 u208 u209 u210 u211 u212 u213 u214 u215 u216 u217 u218 u219 u220 u221 u222 m2
          rw [drewNN]
          go_wp2
          go_roundw
          case rel => exact ⟨k1, t2, by have := HK1.out; omega, rfl, rfl, by have := HK1.out; omega, hjs ▸ (HF.out (m + m2))⟩
          case measure => have := HK1.out; simp [RowKit.intOf]; omega
        · have HJ2 : Hid (JD (adP P s) J D ∧ J.length ≤ k ∧ D.length ≤ k ∧ nw ≤ t2) := by
            obtain ⟨x1, x2, x3, x4, x5, x6, x7⟩ := HX.out
            have := HT.out
            exact ⟨x2.add s, x3, x4, by omega⟩
          obtain ⟨ae, hae2⟩ : ∃ ae, ae = adE P s := ⟨_, rfl⟩
          rw [← hae2] at HA hae
          have hae3 : (ae == 0) = false := beq_eq_false_iff_ne.2 hae
          clear HX hae2 hae
          go_wp2_with (first
            | (go_at_call 9; with_reducible refine (HC30.out _).mono ?_; rintro e w' ⟨rfl, rfl⟩)
            | (go_at_call 9; with_reducible refine (HC5.out _).mono ?_; rintro e w' ⟨rfl, rfl⟩)
            | (go_at_call 10; refine HA.out.mono ?_; rintro e w4 ⟨rfl, b3, R4⟩; have R5b : Hid (Calls Try.prog 18 #[.pointer (some ⟨Bk, 0, none⟩), .int .i64 t2] w4 fun e w' => ∃ v, e = .returned (.tuple #[v, .int .i64 0]) ∧ Hid (BE w0 Bk a b c t2 0 u8 u9 k1 w')) := R4.out.tickE HJ2.out.1 (by have := HJ2.out.2.1; have := HK1.out; omega) (by have := HJ2.out.2.2.1; have := HK1.out; omega) HJ2.out.2.2.2 HT.out.2.1 HT.out.2.2)
            | (go_at_call 18; refine (R5b.out).mono ?_; rintro e w5 ⟨v5, rfl, R5⟩)
            | (go_at_call 23; refine (BE.leases R5.out).mono ?_; rintro e w6 ⟨a6, c6, n6, rfl, R6⟩)
            | fail)
          obtain ⟨nw', P', J', D', HB6, q1, q2, q3, q4, q5, q6, q7, q8, q9⟩ := R6.out
          obtain ⟨I6, q10, _, _, _⟩ := q1.ex
          obtain ⟨aj, cj, hjs⟩ := row_shape q1.jr
          have HF : Hid (∀ m, BW w0 Bk a b c t2 u8 u9 k1 (w6.drewN m)) := fun m => ⟨⟨nw', P', J', D', q1.drewN m, q2, q3, q4, q5⟩, HT.out.2.1, HT.out.2.2⟩
          obtain ⟨_, cT1, cT2⟩ := HC.out _ q1.bel
          refine heldL _ _ _ _ _ _ _ _ _ _ _ _ _ _ _ _ _ _ _ _ _ _ _ _ _ _ _ _ _ _ _ _ _ _ _ _ _ _ _ _ _ _ _ _ _ _ _ _ _ _ _ _ _ _ _ _ _ _ _ _ _ _ _ _ _ _ _ _ _ _ _ _ _ _ _ _ _ _ _ _ _ _ _ _ _ _ _ _ _ _ _ _ _ _ _ _ _ _ _ _ _ _ _ _ _ _ _ _ _ _ _ _ _ _ _ _ _ _ _ _ _ _ _ _ _ _ _ _ _ _ _ _ _ _ _ _ _ _ _ _ _ _ _ _ _ _ _ _ _ _ _ _ _ _ _ _ _ _ _ _ _ _ _ _ _ _ _ _ _ _ _ _ _ _ _ _ _ _ _ _ _ _ _ _ _ _ _ _ _ _ _ _ _ _ _ _ _ _ _ _ _ _ _ _ _ _ _ _ _ _ _ _ _ _ _ _ _ _ w6 q10 a6 c6 n6 q7 q8 q9 t2 0 q6 _ ?_
          intro u4 u14 u15 u16 u126 u127 u128 u129 u130 u131 u132 u133 u134 u135 u136 u137 u138 u139 u140 u141 u142 u143 u144 u145 u146 u147 u148 u149 u150 u151 u152 u153 u154 u155 u156 u157 u158 u159 u160 m
          go_wp2
          subst hjs
          refine jobsL _ _ _ _ _ _ _ _ _ _ _ _ _ _ _ _ _ _ _ _ _ _ _ _ _ _ _ _ _ _ _ _ _ _ _ _ _ _ _ _ _ _ _ _ _ _ _ _ _ _ _ _ _ _ _ _ _ _ _ _ _ _ _ _ _ _ _ _ _ _ _ _ _ _ _ _ _ _ _ _ _ _ _ _ _ _ _ _ _ _ _ _ _ _ _ _ _ _ _ _ _ _ _ _ _ _ _ _ _ _ _ _ _ _ _ _ _ _ _ _ _ _ _ _ _ _ _ _ _ _ _ _ _ _ _ _ _ _ _ _ _ _ _ _ _ _ _ _ _ _ _ _ _ _ _ _ _ _ _ _ _ _ _ _ _ _ _ _ _ _ _ _ _ _ _ _ _ _ _ _ _ _ _ _ _ _ _ _ _ _ _ _ _ _ _ _ _ _ _ _ _ _ _ _ _ _ _ _ _ _ _ _ _ _ _ _ _ (w6.drewN m) (T := w.heap.size) (q10.drewN m) a6 c6 n6 q7 (own_heapL q8 fun _ _ => rfl) q9 cT1 cT2 aj J'.length cj J' D' rfl (own_heapL (q1.jr) fun _ _ => rfl) u9 (own_heapL q1.dr fun _ _ => rfl) q2 _ ?_
          intro u4 u17 u18 u19 u20 u21 u161 u162 u163 u164 u165 u166 u167 u168 u169 u170 u171 u172 u173 u174 u175 u176 u177 u178 u179 u180 u181 u182 u183 u184 u185 u186 u187 u188 u189 u190 u191 u192 u193 u194 u195 u196 u197 u198 u199 u200 u201 u202 u203 u204 u205 u206 u207 u208 u209 u210 u211 u212 u213 u214 u215 u216 u217 u218 u219 u220 u221 u222 m2
          rw [drewNN]
          go_wp2
          go_roundw
          case rel => exact ⟨k1, t2, by have := HK1.out; omega, rfl, rfl, by have := HK1.out; omega, (HF.out (m + m2))⟩
          case measure => have := HK1.out; simp [RowKit.intOf]; omega
      · have HO : Hid (Calls Try.prog 12 #[.pointer (some ⟨Bk, 0, none⟩), .string s, .int .i64 wk, .int .i64 t2] (wr.alloc (.cells #[.int .i64 kd, .int .i64 wk, .int .i64 dn, .string s, .bool gd] 38)) fun e w' => ∃ er, e = .returned (.int .i64 er) ∧ Hid (BE w0 Bk a b c t2 er u8 u9 k1 w')) := by
          obtain ⟨x1, x2, x3, x4, x5, x6, x7⟩ := HX.out
          obtain ⟨y4, y5, y6⟩ := HT.out
          refine (x1.grant s x6 wk t2 x7).mono ?_
          rintro e w' ⟨rfl, r1⟩
          exact ⟨_, rfl, _, _, J, D, r1.no, x2.grant, by have := HK1.out.1; omega, by have := HK1.out.1; omega, tellN_le wk (by omega) y5 y6, gr3 (by omega) y5 y6⟩
        clear HX
        go_wp2_with (first
          | (go_at_call 9; with_reducible refine (HC30.out _).mono ?_; rintro e w' ⟨rfl, rfl⟩)
          | (go_at_call 9; with_reducible refine (HC5.out _).mono ?_; rintro e w' ⟨rfl, rfl⟩)
          | (go_at_call 12; refine HO.out.mono ?_; rintro e w5 ⟨er, rfl, R5⟩)
          | (go_at_call 23; refine (BE.leases R5.out).mono ?_; rintro e w6 ⟨a6, c6, n6, rfl, R6⟩)
          | fail)
        obtain ⟨nw', P', J', D', HB6, q1, q2, q3, q4, q5, q6, q7, q8, q9⟩ := R6.out
        obtain ⟨I6, q10, _, _, _⟩ := q1.ex
        obtain ⟨aj, cj, hjs⟩ := row_shape q1.jr
        have HF : Hid (∀ m, BW w0 Bk a b c t2 u8 u9 k1 (w6.drewN m)) := fun m => ⟨⟨nw', P', J', D', q1.drewN m, q2, q3, q4, q5⟩, HT.out.2.1, HT.out.2.2⟩
        obtain ⟨_, cT1, cT2⟩ := HC.out _ q1.bel
        refine heldL _ _ _ _ _ _ _ _ _ _ _ _ _ _ _ _ _ _ _ _ _ _ _ _ _ _ _ _ _ _ _ _ _ _ _ _ _ _ _ _ _ _ _ _ _ _ _ _ _ _ _ _ _ _ _ _ _ _ _ _ _ _ _ _ _ _ _ _ _ _ _ _ _ _ _ _ _ _ _ _ _ _ _ _ _ _ _ _ _ _ _ _ _ _ _ _ _ _ _ _ _ _ _ _ _ _ _ _ _ _ _ _ _ _ _ _ _ _ _ _ _ _ _ _ _ _ _ _ _ _ _ _ _ _ _ _ _ _ _ _ _ _ _ _ _ _ _ _ _ _ _ _ _ _ _ _ _ _ _ _ _ _ _ _ _ _ _ _ _ _ _ _ _ _ _ _ _ _ _ _ _ _ _ _ _ _ _ _ _ _ _ _ _ _ _ _ _ _ _ _ _ _ _ _ _ _ _ _ _ _ _ _ _ _ _ _ _ _ w6 q10 a6 c6 n6 q7 q8 q9 t2 er q6 _ ?_
        intro u4 u14 u15 u16 u126 u127 u128 u129 u130 u131 u132 u133 u134 u135 u136 u137 u138 u139 u140 u141 u142 u143 u144 u145 u146 u147 u148 u149 u150 u151 u152 u153 u154 u155 u156 u157 u158 u159 u160 m
        go_wp2
        subst hjs
        refine jobsL _ _ _ _ _ _ _ _ _ _ _ _ _ _ _ _ _ _ _ _ _ _ _ _ _ _ _ _ _ _ _ _ _ _ _ _ _ _ _ _ _ _ _ _ _ _ _ _ _ _ _ _ _ _ _ _ _ _ _ _ _ _ _ _ _ _ _ _ _ _ _ _ _ _ _ _ _ _ _ _ _ _ _ _ _ _ _ _ _ _ _ _ _ _ _ _ _ _ _ _ _ _ _ _ _ _ _ _ _ _ _ _ _ _ _ _ _ _ _ _ _ _ _ _ _ _ _ _ _ _ _ _ _ _ _ _ _ _ _ _ _ _ _ _ _ _ _ _ _ _ _ _ _ _ _ _ _ _ _ _ _ _ _ _ _ _ _ _ _ _ _ _ _ _ _ _ _ _ _ _ _ _ _ _ _ _ _ _ _ _ _ _ _ _ _ _ _ _ _ _ _ _ _ _ _ _ _ _ _ _ _ _ _ _ _ _ _ (w6.drewN m) (T := w.heap.size) (q10.drewN m) a6 c6 n6 q7 (own_heapL q8 fun _ _ => rfl) q9 cT1 cT2 aj J'.length cj J' D' rfl (own_heapL (q1.jr) fun _ _ => rfl) u9 (own_heapL q1.dr fun _ _ => rfl) q2 _ ?_
        intro u4 u17 u18 u19 u20 u21 u161 u162 u163 u164 u165 u166 u167 u168 u169 u170 u171 u172 u173 u174 u175 u176 u177 u178 u179 u180 u181 u182 u183 u184 u185 u186 u187 u188 u189 u190 u191 u192 u193 u194 u195 u196 u197 u198 u199 u200 u201 u202 u203 u204 u205 u206 u207 u208 u209 u210 u211 u212 u213 u214 u215 u216 u217 u218 u219 u220 u221 u222 m2
        rw [drewNN]
        go_wp2
        go_roundw
        case rel => exact ⟨k1, t2, by have := HK1.out; omega, rfl, rfl, by have := HK1.out; omega, (HF.out (m + m2))⟩
        case measure => have := HK1.out; simp [RowKit.intOf]; omega
      · have HO : Hid (Calls Try.prog 14 #[.pointer (some ⟨Bk, 0, none⟩), .string s, .int .i64 wk, .int .i64 t2] (wr.alloc (.cells #[.int .i64 kd, .int .i64 wk, .int .i64 dn, .string s, .bool gd] 38)) fun e w' => ∃ er, e = .returned (.int .i64 er) ∧ Hid (BE w0 Bk a b c t2 er u8 u9 k1 w')) := by
          obtain ⟨x1, x2, x3, x4, x5, x6, x7⟩ := HX.out
          obtain ⟨y4, y5, y6⟩ := HT.out
          refine (x1.beat s x6 wk t2 x7).mono ?_
          rintro e w' ⟨rfl, r1⟩
          exact ⟨_, rfl, _, _, J, D, r1.no, x2.beat, by have := HK1.out.1; omega, by have := HK1.out.1; omega, tellN_le wk (by omega) y5 y6, le3 (by omega) y5 y6⟩
        clear HX
        go_wp2_with (first
          | (go_at_call 9; with_reducible refine (HC30.out _).mono ?_; rintro e w' ⟨rfl, rfl⟩)
          | (go_at_call 9; with_reducible refine (HC5.out _).mono ?_; rintro e w' ⟨rfl, rfl⟩)
          | (go_at_call 14; refine HO.out.mono ?_; rintro e w5 ⟨er, rfl, R5⟩)
          | (go_at_call 23; refine (BE.leases R5.out).mono ?_; rintro e w6 ⟨a6, c6, n6, rfl, R6⟩)
          | fail)
        obtain ⟨nw', P', J', D', HB6, q1, q2, q3, q4, q5, q6, q7, q8, q9⟩ := R6.out
        obtain ⟨I6, q10, _, _, _⟩ := q1.ex
        obtain ⟨aj, cj, hjs⟩ := row_shape q1.jr
        have HF : Hid (∀ m, BW w0 Bk a b c t2 u8 u9 k1 (w6.drewN m)) := fun m => ⟨⟨nw', P', J', D', q1.drewN m, q2, q3, q4, q5⟩, HT.out.2.1, HT.out.2.2⟩
        obtain ⟨_, cT1, cT2⟩ := HC.out _ q1.bel
        refine heldL _ _ _ _ _ _ _ _ _ _ _ _ _ _ _ _ _ _ _ _ _ _ _ _ _ _ _ _ _ _ _ _ _ _ _ _ _ _ _ _ _ _ _ _ _ _ _ _ _ _ _ _ _ _ _ _ _ _ _ _ _ _ _ _ _ _ _ _ _ _ _ _ _ _ _ _ _ _ _ _ _ _ _ _ _ _ _ _ _ _ _ _ _ _ _ _ _ _ _ _ _ _ _ _ _ _ _ _ _ _ _ _ _ _ _ _ _ _ _ _ _ _ _ _ _ _ _ _ _ _ _ _ _ _ _ _ _ _ _ _ _ _ _ _ _ _ _ _ _ _ _ _ _ _ _ _ _ _ _ _ _ _ _ _ _ _ _ _ _ _ _ _ _ _ _ _ _ _ _ _ _ _ _ _ _ _ _ _ _ _ _ _ _ _ _ _ _ _ _ _ _ _ _ _ _ _ _ _ _ _ _ _ _ _ _ _ _ _ w6 q10 a6 c6 n6 q7 q8 q9 t2 er q6 _ ?_
        intro u4 u14 u15 u16 u126 u127 u128 u129 u130 u131 u132 u133 u134 u135 u136 u137 u138 u139 u140 u141 u142 u143 u144 u145 u146 u147 u148 u149 u150 u151 u152 u153 u154 u155 u156 u157 u158 u159 u160 m
        go_wp2
        subst hjs
        refine jobsL _ _ _ _ _ _ _ _ _ _ _ _ _ _ _ _ _ _ _ _ _ _ _ _ _ _ _ _ _ _ _ _ _ _ _ _ _ _ _ _ _ _ _ _ _ _ _ _ _ _ _ _ _ _ _ _ _ _ _ _ _ _ _ _ _ _ _ _ _ _ _ _ _ _ _ _ _ _ _ _ _ _ _ _ _ _ _ _ _ _ _ _ _ _ _ _ _ _ _ _ _ _ _ _ _ _ _ _ _ _ _ _ _ _ _ _ _ _ _ _ _ _ _ _ _ _ _ _ _ _ _ _ _ _ _ _ _ _ _ _ _ _ _ _ _ _ _ _ _ _ _ _ _ _ _ _ _ _ _ _ _ _ _ _ _ _ _ _ _ _ _ _ _ _ _ _ _ _ _ _ _ _ _ _ _ _ _ _ _ _ _ _ _ _ _ _ _ _ _ _ _ _ _ _ _ _ _ _ _ _ _ _ _ _ _ _ _ (w6.drewN m) (T := w.heap.size) (q10.drewN m) a6 c6 n6 q7 (own_heapL q8 fun _ _ => rfl) q9 cT1 cT2 aj J'.length cj J' D' rfl (own_heapL (q1.jr) fun _ _ => rfl) u9 (own_heapL q1.dr fun _ _ => rfl) q2 _ ?_
        intro u4 u17 u18 u19 u20 u21 u161 u162 u163 u164 u165 u166 u167 u168 u169 u170 u171 u172 u173 u174 u175 u176 u177 u178 u179 u180 u181 u182 u183 u184 u185 u186 u187 u188 u189 u190 u191 u192 u193 u194 u195 u196 u197 u198 u199 u200 u201 u202 u203 u204 u205 u206 u207 u208 u209 u210 u211 u212 u213 u214 u215 u216 u217 u218 u219 u220 u221 u222 m2
        rw [drewNN]
        go_wp2
        go_roundw
        case rel => exact ⟨k1, t2, by have := HK1.out; omega, rfl, rfl, by have := HK1.out; omega, (HF.out (m + m2))⟩
        case measure => have := HK1.out; simp [RowKit.intOf]; omega
      · have HA : Hid (Calls Try.prog 16 #[.pointer (some ⟨Bk, 0, none⟩), .string s, .int .i64 wk, .int .i64 t2, .bool gd] (wr.alloc (.cells #[.int .i64 kd, .int .i64 wk, .int .i64 dn, .string s, .bool gd] 38)) fun e w' => e = .returned (.int .i64 (leE nw P s.data.toList wk t2)) ∧ w'.cell? ⟨wr.heap.size, 3, none⟩ = some (.string s) ∧ w'.cell? ⟨wr.heap.size, 4, none⟩ = some (.bool gd) ∧ Hid (LB w0 Bk a b c (tellN nw t2 (nobody wk)) (doP nw P s.data.toList wk t2 gd) u8 u9 J D [(wr.heap.size, .cells #[.int .i64 kd, .int .i64 wk, .int .i64 dn, .string s, .bool gd] 38 (0, 0))] w')) := by
          obtain ⟨x1, x2, x3, x4, x5, x6, x7⟩ := HX.out
          refine (x1.done s x6 wk t2 x7 gd).mono ?_
          rintro e w' ⟨rfl, r1⟩
          exact ⟨rfl, (call_cells r1.blk).1, (call_cells r1.blk).2, r1⟩
        have HJ2 : Hid (JD P J D ∧ J.length ≤ k ∧ D.length ≤ k ∧ nw ≤ t2 ∧ tellN nw t2 (nobody wk) ≤ t2 ∧ (leE nw P s.data.toList wk t2 = 3 ∨ tellN nw t2 (nobody wk) = t2)) := by
          obtain ⟨x1, x2, x3, x4, x5, x6, x7⟩ := HX.out
          obtain ⟨y4, y5, y6⟩ := HT.out
          exact ⟨x2, x3, x4, by omega, tellN_le wk (by omega) y5 y6, le3 (by omega) y5 y6⟩
        by_cases hae : leE nw P s.data.toList wk t2 = 0
        · rw [hae] at HA
          cases hgd : gd with
          | true =>
            subst hgd
            have HJ3 : Hid (JD (doP nw P s.data.toList wk t2 true) J (D ++ [s.data.toList])) := HJ2.out.1.doneD hae (by have := HJ2.out.2.2.1; have := HK1.out; omega)
            have HJ4 : Hid ((0 : Int) = 3 ∨ tellN nw t2 (nobody wk) = t2) := by have := HJ2.out.2.2.2.2.2; rw [hae] at this; exact this
            obtain ⟨jn, hjn⟩ : ∃ jn, jn = D.length := ⟨_, rfl⟩
            have HJN : Hid (jn = D.length) := hjn
            have q1 : jn + 1 ≤ maxLen := by have := HJ2.out.2.2.1; have := HK1.out; unfold maxLen; omega
            have q2 : (jn + 1) * 16 ≤ 140737488355328 := by have := HJ2.out.2.2.1; have := HK1.out; omega
            clear HX hae hjn
            go_wp2_with (first
              | (go_at_call 9; with_reducible refine (HC30.out _).mono ?_; rintro e w' ⟨rfl, rfl⟩)
              | (go_at_call 9; with_reducible refine (HC5.out _).mono ?_; rintro e w' ⟨rfl, rfl⟩)
              | (go_at_call 16; refine HA.out.mono ?_; rintro e w4 ⟨rfl, b3, b4, R4⟩; have q3 : w0.heap.size ≤ (w4.alloc (.cells #[.string s] 9)).heap.size := (by have := R4.out.bel.size; rw [World.size_alloc]; omega); have hrw : w4.ownsRow w0.heap.size 9 1 u9 jn (D.map encStr) := (by have := R4.out.dr; rw [← HJN.out] at this; exact this))
              | (at_builtin; refine wpList_append_lies _ rfl _ _ 32 rfl w0.heap.size 9 i0 (.string ⟨#[]⟩) 1 16 Try.underlying32 hi hz0 hz1 hz2 rfl (by decide) _ jn (D.map encStr) rfl (hrw.alloc _) ⟨w4.heap.size, 0, none⟩ 1 1 [.string s] rfl rfl (new1 _ _ _) (by simp [Value.oneCell']) (by decide) q1 q2 q3 (w4.heap.size + 1) (World.size_alloc _ _) ?_; intro g5 cap5 w5 hown5 hgrow5 hat5 hlt5; go_frame; have R5 := (show Hid (BE w0 Bk a b c t2 0 u8 (.slice (some ⟨g5, 0, none⟩) (jn + 1) cap5) k1 w5) from by
                have hap := R4.out.appD (x := s.data.toList) (g := g5) (cap := cap5) (w3 := w5) (by rw [encS, ← HJN.out]; exact hown5) hgrow5 (by rw [World.size_alloc]; exact hat5)
                rw [← HJN.out] at hap
                have := HK1.out
                exact ⟨_, _, J, _, hap.no, HJ3.out, by have := HJ2.out.2.1; omega, by rw [List.length_append]; have := HJ2.out.2.2.1; simp; omega, HJ2.out.2.2.2.2.1, HJ4.out⟩))
              | (go_at_call 23; refine (BE.leases R5.out).mono ?_; rintro e w6 ⟨a6, c6, n6, rfl, R6⟩)
              | fail)
            obtain ⟨nw', P', J', D', HB6, q1, q2, q3, q4, q5, q6, q7, q8, q9⟩ := R6.out
            obtain ⟨I6, q10, _, _, _⟩ := q1.ex
            obtain ⟨aj, cj, hjs⟩ := row_shape q1.jr
            have HF : Hid (∀ m, BW w0 Bk a b c t2 u8 (.slice (some ⟨g5, 0, none⟩) (jn + 1) cap5) k1 (w6.drewN m)) := fun m => ⟨⟨nw', P', J', D', q1.drewN m, q2, q3, q4, q5⟩, HT.out.2.1, HT.out.2.2⟩
            obtain ⟨_, cT1, cT2⟩ := HC.out _ q1.bel
            refine heldL _ _ _ _ _ _ _ _ _ _ _ _ _ _ _ _ _ _ _ _ _ _ _ _ _ _ _ _ _ _ _ _ _ _ _ _ _ _ _ _ _ _ _ _ _ _ _ _ _ _ _ _ _ _ _ _ _ _ _ _ _ _ _ _ _ _ _ _ _ _ _ _ _ _ _ _ _ _ _ _ _ _ _ _ _ _ _ _ _ _ _ _ _ _ _ _ _ _ _ _ _ _ _ _ _ _ _ _ _ _ _ _ _ _ _ _ _ _ _ _ _ _ _ _ _ _ _ _ _ _ _ _ _ _ _ _ _ _ _ _ _ _ _ _ _ _ _ _ _ _ _ _ _ _ _ _ _ _ _ _ _ _ _ _ _ _ _ _ _ _ _ _ _ _ _ _ _ _ _ _ _ _ _ _ _ _ _ _ _ _ _ _ _ _ _ _ _ _ _ _ _ _ _ _ _ _ _ _ _ _ _ _ _ _ _ _ _ _ w6 q10 a6 c6 n6 q7 q8 q9 t2 0 q6 _ ?_
            intro u4 u14 u15 u16 u126 u127 u128 u129 u130 u131 u132 u133 u134 u135 u136 u137 u138 u139 u140 u141 u142 u143 u144 u145 u146 u147 u148 u149 u150 u151 u152 u153 u154 u155 u156 u157 u158 u159 u160 m
            go_wp2
            subst hjs
            refine jobsL _ _ _ _ _ _ _ _ _ _ _ _ _ _ _ _ _ _ _ _ _ _ _ _ _ _ _ _ _ _ _ _ _ _ _ _ _ _ _ _ _ _ _ _ _ _ _ _ _ _ _ _ _ _ _ _ _ _ _ _ _ _ _ _ _ _ _ _ _ _ _ _ _ _ _ _ _ _ _ _ _ _ _ _ _ _ _ _ _ _ _ _ _ _ _ _ _ _ _ _ _ _ _ _ _ _ _ _ _ _ _ _ _ _ _ _ _ _ _ _ _ _ _ _ _ _ _ _ _ _ _ _ _ _ _ _ _ _ _ _ _ _ _ _ _ _ _ _ _ _ _ _ _ _ _ _ _ _ _ _ _ _ _ _ _ _ _ _ _ _ _ _ _ _ _ _ _ _ _ _ _ _ _ _ _ _ _ _ _ _ _ _ _ _ _ _ _ _ _ _ _ _ _ _ _ _ _ _ _ _ _ _ _ _ _ _ _ (w6.drewN m) (T := w.heap.size) (q10.drewN m) a6 c6 n6 q7 (own_heapL q8 fun _ _ => rfl) q9 cT1 cT2 aj J'.length cj J' D' rfl (own_heapL (q1.jr) fun _ _ => rfl) (.slice (some ⟨g5, 0, none⟩) (jn + 1) cap5) (own_heapL q1.dr fun _ _ => rfl) q2 _ ?_
            intro u4 u17 u18 u19 u20 u21 u161 u162 u163 u164 u165 u166 u167 u168 u169 u170 u171 u172 u173 u174 u175 u176 u177 u178 u179 u180 u181 u182 u183 u184 u185 u186 u187 u188 u189 u190 u191 u192 u193 u194 u195 u196 u197 u198 u199 u200 u201 u202 u203 u204 u205 u206 u207 u208 u209 u210 u211 u212 u213 u214 u215 u216 u217 u218 u219 u220 u221 u222 m2
            rw [drewNN]
            go_wp2
            go_roundw
            case rel => exact ⟨k1, t2, by have := HK1.out; omega, rfl, rfl, by have := HK1.out; omega, (HF.out (m + m2))⟩
            case measure => have := HK1.out; simp [RowKit.intOf]; omega
          | false =>
            subst hgd
            have HJ4 : Hid (JD (doP nw P s.data.toList wk t2 false) J D ∧ ((0 : Int) = 3 ∨ tellN nw t2 (nobody wk) = t2)) := ⟨HJ2.out.1.done false, by have := HJ2.out.2.2.2.2.2; rw [hae] at this; exact this⟩
            clear HX hae
            go_wp2_with (first
              | (go_at_call 9; with_reducible refine (HC30.out _).mono ?_; rintro e w' ⟨rfl, rfl⟩)
              | (go_at_call 9; with_reducible refine (HC5.out _).mono ?_; rintro e w' ⟨rfl, rfl⟩)
              | (go_at_call 16; refine HA.out.mono ?_; rintro e w5 ⟨rfl, b3, b4, R4⟩; have R5 : Hid (BE w0 Bk a b c t2 0 u8 u9 k1 w5) := ⟨_, _, J, D, R4.out.no, HJ4.out.1, by have := HJ2.out.2.1; have := HK1.out; omega, by have := HJ2.out.2.2.1; have := HK1.out; omega, HJ2.out.2.2.2.2.1, HJ4.out.2⟩)
              | (go_at_call 23; refine (BE.leases R5.out).mono ?_; rintro e w6 ⟨a6, c6, n6, rfl, R6⟩)
              | fail)
            obtain ⟨nw', P', J', D', HB6, q1, q2, q3, q4, q5, q6, q7, q8, q9⟩ := R6.out
            obtain ⟨I6, q10, _, _, _⟩ := q1.ex
            obtain ⟨aj, cj, hjs⟩ := row_shape q1.jr
            have HF : Hid (∀ m, BW w0 Bk a b c t2 u8 u9 k1 (w6.drewN m)) := fun m => ⟨⟨nw', P', J', D', q1.drewN m, q2, q3, q4, q5⟩, HT.out.2.1, HT.out.2.2⟩
            obtain ⟨_, cT1, cT2⟩ := HC.out _ q1.bel
            refine heldL _ _ _ _ _ _ _ _ _ _ _ _ _ _ _ _ _ _ _ _ _ _ _ _ _ _ _ _ _ _ _ _ _ _ _ _ _ _ _ _ _ _ _ _ _ _ _ _ _ _ _ _ _ _ _ _ _ _ _ _ _ _ _ _ _ _ _ _ _ _ _ _ _ _ _ _ _ _ _ _ _ _ _ _ _ _ _ _ _ _ _ _ _ _ _ _ _ _ _ _ _ _ _ _ _ _ _ _ _ _ _ _ _ _ _ _ _ _ _ _ _ _ _ _ _ _ _ _ _ _ _ _ _ _ _ _ _ _ _ _ _ _ _ _ _ _ _ _ _ _ _ _ _ _ _ _ _ _ _ _ _ _ _ _ _ _ _ _ _ _ _ _ _ _ _ _ _ _ _ _ _ _ _ _ _ _ _ _ _ _ _ _ _ _ _ _ _ _ _ _ _ _ _ _ _ _ _ _ _ _ _ _ _ _ _ _ _ _ w6 q10 a6 c6 n6 q7 q8 q9 t2 0 q6 _ ?_
            intro u4 u14 u15 u16 u126 u127 u128 u129 u130 u131 u132 u133 u134 u135 u136 u137 u138 u139 u140 u141 u142 u143 u144 u145 u146 u147 u148 u149 u150 u151 u152 u153 u154 u155 u156 u157 u158 u159 u160 m
            go_wp2
            subst hjs
            refine jobsL _ _ _ _ _ _ _ _ _ _ _ _ _ _ _ _ _ _ _ _ _ _ _ _ _ _ _ _ _ _ _ _ _ _ _ _ _ _ _ _ _ _ _ _ _ _ _ _ _ _ _ _ _ _ _ _ _ _ _ _ _ _ _ _ _ _ _ _ _ _ _ _ _ _ _ _ _ _ _ _ _ _ _ _ _ _ _ _ _ _ _ _ _ _ _ _ _ _ _ _ _ _ _ _ _ _ _ _ _ _ _ _ _ _ _ _ _ _ _ _ _ _ _ _ _ _ _ _ _ _ _ _ _ _ _ _ _ _ _ _ _ _ _ _ _ _ _ _ _ _ _ _ _ _ _ _ _ _ _ _ _ _ _ _ _ _ _ _ _ _ _ _ _ _ _ _ _ _ _ _ _ _ _ _ _ _ _ _ _ _ _ _ _ _ _ _ _ _ _ _ _ _ _ _ _ _ _ _ _ _ _ _ _ _ _ _ _ (w6.drewN m) (T := w.heap.size) (q10.drewN m) a6 c6 n6 q7 (own_heapL q8 fun _ _ => rfl) q9 cT1 cT2 aj J'.length cj J' D' rfl (own_heapL (q1.jr) fun _ _ => rfl) u9 (own_heapL q1.dr fun _ _ => rfl) q2 _ ?_
            intro u4 u17 u18 u19 u20 u21 u161 u162 u163 u164 u165 u166 u167 u168 u169 u170 u171 u172 u173 u174 u175 u176 u177 u178 u179 u180 u181 u182 u183 u184 u185 u186 u187 u188 u189 u190 u191 u192 u193 u194 u195 u196 u197 u198 u199 u200 u201 u202 u203 u204 u205 u206 u207 u208 u209 u210 u211 u212 u213 u214 u215 u216 u217 u218 u219 u220 u221 u222 m2
            rw [drewNN]
            go_wp2
            go_roundw
            case rel => exact ⟨k1, t2, by have := HK1.out; omega, rfl, rfl, by have := HK1.out; omega, (HF.out (m + m2))⟩
            case measure => have := HK1.out; simp [RowKit.intOf]; omega
        · have HJ4 : Hid (JD (doP nw P s.data.toList wk t2 gd) J D) := HJ2.out.1.done gd
          obtain ⟨ae, hae2⟩ : ∃ ae, ae = leE nw P s.data.toList wk t2 := ⟨_, rfl⟩
          rw [← hae2] at HA hae HJ2
          have hae3 : (ae == 0) = false := beq_eq_false_iff_ne.2 hae
          clear HX hae2 hae
          go_wp2_with (first
            | (go_at_call 9; with_reducible refine (HC30.out _).mono ?_; rintro e w' ⟨rfl, rfl⟩)
            | (go_at_call 9; with_reducible refine (HC5.out _).mono ?_; rintro e w' ⟨rfl, rfl⟩)
            | (go_at_call 16; refine HA.out.mono ?_; rintro e w5 ⟨rfl, b3, b4, R4⟩; have R5 : Hid (BE w0 Bk a b c t2 ae u8 u9 k1 w5) := ⟨_, _, J, D, R4.out.no, HJ4.out, by have := HJ2.out.2.1; have := HK1.out; omega, by have := HJ2.out.2.2.1; have := HK1.out; omega, HJ2.out.2.2.2.2.1, HJ2.out.2.2.2.2.2⟩)
            | (go_at_call 23; refine (BE.leases R5.out).mono ?_; rintro e w6 ⟨a6, c6, n6, rfl, R6⟩)
            | fail)
          obtain ⟨nw', P', J', D', HB6, q1, q2, q3, q4, q5, q6, q7, q8, q9⟩ := R6.out
          obtain ⟨I6, q10, _, _, _⟩ := q1.ex
          obtain ⟨aj, cj, hjs⟩ := row_shape q1.jr
          have HF : Hid (∀ m, BW w0 Bk a b c t2 u8 u9 k1 (w6.drewN m)) := fun m => ⟨⟨nw', P', J', D', q1.drewN m, q2, q3, q4, q5⟩, HT.out.2.1, HT.out.2.2⟩
          obtain ⟨_, cT1, cT2⟩ := HC.out _ q1.bel
          refine heldL _ _ _ _ _ _ _ _ _ _ _ _ _ _ _ _ _ _ _ _ _ _ _ _ _ _ _ _ _ _ _ _ _ _ _ _ _ _ _ _ _ _ _ _ _ _ _ _ _ _ _ _ _ _ _ _ _ _ _ _ _ _ _ _ _ _ _ _ _ _ _ _ _ _ _ _ _ _ _ _ _ _ _ _ _ _ _ _ _ _ _ _ _ _ _ _ _ _ _ _ _ _ _ _ _ _ _ _ _ _ _ _ _ _ _ _ _ _ _ _ _ _ _ _ _ _ _ _ _ _ _ _ _ _ _ _ _ _ _ _ _ _ _ _ _ _ _ _ _ _ _ _ _ _ _ _ _ _ _ _ _ _ _ _ _ _ _ _ _ _ _ _ _ _ _ _ _ _ _ _ _ _ _ _ _ _ _ _ _ _ _ _ _ _ _ _ _ _ _ _ _ _ _ _ _ _ _ _ _ _ _ _ _ _ _ _ _ _ w6 q10 a6 c6 n6 q7 q8 q9 t2 ae q6 _ ?_
          intro u4 u14 u15 u16 u126 u127 u128 u129 u130 u131 u132 u133 u134 u135 u136 u137 u138 u139 u140 u141 u142 u143 u144 u145 u146 u147 u148 u149 u150 u151 u152 u153 u154 u155 u156 u157 u158 u159 u160 m
          go_wp2
          subst hjs
          refine jobsL _ _ _ _ _ _ _ _ _ _ _ _ _ _ _ _ _ _ _ _ _ _ _ _ _ _ _ _ _ _ _ _ _ _ _ _ _ _ _ _ _ _ _ _ _ _ _ _ _ _ _ _ _ _ _ _ _ _ _ _ _ _ _ _ _ _ _ _ _ _ _ _ _ _ _ _ _ _ _ _ _ _ _ _ _ _ _ _ _ _ _ _ _ _ _ _ _ _ _ _ _ _ _ _ _ _ _ _ _ _ _ _ _ _ _ _ _ _ _ _ _ _ _ _ _ _ _ _ _ _ _ _ _ _ _ _ _ _ _ _ _ _ _ _ _ _ _ _ _ _ _ _ _ _ _ _ _ _ _ _ _ _ _ _ _ _ _ _ _ _ _ _ _ _ _ _ _ _ _ _ _ _ _ _ _ _ _ _ _ _ _ _ _ _ _ _ _ _ _ _ _ _ _ _ _ _ _ _ _ _ _ _ _ _ _ _ _ (w6.drewN m) (T := w.heap.size) (q10.drewN m) a6 c6 n6 q7 (own_heapL q8 fun _ _ => rfl) q9 cT1 cT2 aj J'.length cj J' D' rfl (own_heapL (q1.jr) fun _ _ => rfl) u9 (own_heapL q1.dr fun _ _ => rfl) q2 _ ?_
          intro u4 u17 u18 u19 u20 u21 u161 u162 u163 u164 u165 u166 u167 u168 u169 u170 u171 u172 u173 u174 u175 u176 u177 u178 u179 u180 u181 u182 u183 u184 u185 u186 u187 u188 u189 u190 u191 u192 u193 u194 u195 u196 u197 u198 u199 u200 u201 u202 u203 u204 u205 u206 u207 u208 u209 u210 u211 u212 u213 u214 u215 u216 u217 u218 u219 u220 u221 u222 m2
          rw [drewNN]
          go_wp2
          go_roundw
          case rel => exact ⟨k1, t2, by have := HK1.out; omega, rfl, rfl, by have := HK1.out; omega, (HF.out (m + m2))⟩
          case measure => have := HK1.out; simp [RowKit.intOf]; omega
      · have HO : Hid (Calls Try.prog 18 #[.pointer (some ⟨Bk, 0, none⟩), .int .i64 t2] (wr.alloc (.cells #[.int .i64 kd, .int .i64 wk, .int .i64 dn, .string s, .bool gd] 38)) fun e w' => ∃ v, e = .returned (.tuple #[v, .int .i64 0]) ∧ Hid (BE w0 Bk a b c t2 0 u8 u9 k1 w')) := by
          obtain ⟨x1, x2, x3, x4, x5, x6, x7⟩ := HX.out
          obtain ⟨y4, y5, y6⟩ := HT.out
          have ht := tell_ok2 (nw := nw) (now := t2) (by omega) y5 y6
          refine (x1.tick t2).mono ?_
          rintro e w' ⟨v, rfl, r1⟩
          rw [tellN_zero ht] at r1
          exact ⟨v, by rw [ht], _, _, J, D, r1.no, x2.tell t2 false, by have := HK1.out.1; omega, by have := HK1.out.1; omega, Int.le_refl _, .inr rfl⟩
        clear HX
        go_wp2_with (first
          | (go_at_call 9; with_reducible refine (HC30.out _).mono ?_; rintro e w' ⟨rfl, rfl⟩)
          | (go_at_call 9; with_reducible refine (HC5.out _).mono ?_; rintro e w' ⟨rfl, rfl⟩)
          | (go_at_call 18; refine HO.out.mono ?_; rintro e w5 ⟨v5, rfl, R5⟩)
          | (go_at_call 23; refine (BE.leases R5.out).mono ?_; rintro e w6 ⟨a6, c6, n6, rfl, R6⟩)
          | fail)
        obtain ⟨nw', P', J', D', HB6, q1, q2, q3, q4, q5, q6, q7, q8, q9⟩ := R6.out
        obtain ⟨I6, q10, _, _, _⟩ := q1.ex
        obtain ⟨aj, cj, hjs⟩ := row_shape q1.jr
        have HF : Hid (∀ m, BW w0 Bk a b c t2 u8 u9 k1 (w6.drewN m)) := fun m => ⟨⟨nw', P', J', D', q1.drewN m, q2, q3, q4, q5⟩, HT.out.2.1, HT.out.2.2⟩
        obtain ⟨_, cT1, cT2⟩ := HC.out _ q1.bel
        refine heldL _ _ _ _ _ _ _ _ _ _ _ _ _ _ _ _ _ _ _ _ _ _ _ _ _ _ _ _ _ _ _ _ _ _ _ _ _ _ _ _ _ _ _ _ _ _ _ _ _ _ _ _ _ _ _ _ _ _ _ _ _ _ _ _ _ _ _ _ _ _ _ _ _ _ _ _ _ _ _ _ _ _ _ _ _ _ _ _ _ _ _ _ _ _ _ _ _ _ _ _ _ _ _ _ _ _ _ _ _ _ _ _ _ _ _ _ _ _ _ _ _ _ _ _ _ _ _ _ _ _ _ _ _ _ _ _ _ _ _ _ _ _ _ _ _ _ _ _ _ _ _ _ _ _ _ _ _ _ _ _ _ _ _ _ _ _ _ _ _ _ _ _ _ _ _ _ _ _ _ _ _ _ _ _ _ _ _ _ _ _ _ _ _ _ _ _ _ _ _ _ _ _ _ _ _ _ _ _ _ _ _ _ _ _ _ _ _ _ w6 q10 a6 c6 n6 q7 q8 q9 t2 0 q6 _ ?_
        intro u4 u14 u15 u16 u126 u127 u128 u129 u130 u131 u132 u133 u134 u135 u136 u137 u138 u139 u140 u141 u142 u143 u144 u145 u146 u147 u148 u149 u150 u151 u152 u153 u154 u155 u156 u157 u158 u159 u160 m
        go_wp2
        subst hjs
        refine jobsL _ _ _ _ _ _ _ _ _ _ _ _ _ _ _ _ _ _ _ _ _ _ _ _ _ _ _ _ _ _ _ _ _ _ _ _ _ _ _ _ _ _ _ _ _ _ _ _ _ _ _ _ _ _ _ _ _ _ _ _ _ _ _ _ _ _ _ _ _ _ _ _ _ _ _ _ _ _ _ _ _ _ _ _ _ _ _ _ _ _ _ _ _ _ _ _ _ _ _ _ _ _ _ _ _ _ _ _ _ _ _ _ _ _ _ _ _ _ _ _ _ _ _ _ _ _ _ _ _ _ _ _ _ _ _ _ _ _ _ _ _ _ _ _ _ _ _ _ _ _ _ _ _ _ _ _ _ _ _ _ _ _ _ _ _ _ _ _ _ _ _ _ _ _ _ _ _ _ _ _ _ _ _ _ _ _ _ _ _ _ _ _ _ _ _ _ _ _ _ _ _ _ _ _ _ _ _ _ _ _ _ _ _ _ _ _ _ (w6.drewN m) (T := w.heap.size) (q10.drewN m) a6 c6 n6 q7 (own_heapL q8 fun _ _ => rfl) q9 cT1 cT2 aj J'.length cj J' D' rfl (own_heapL (q1.jr) fun _ _ => rfl) u9 (own_heapL q1.dr fun _ _ => rfl) q2 _ ?_
        intro u4 u17 u18 u19 u20 u21 u161 u162 u163 u164 u165 u166 u167 u168 u169 u170 u171 u172 u173 u174 u175 u176 u177 u178 u179 u180 u181 u182 u183 u184 u185 u186 u187 u188 u189 u190 u191 u192 u193 u194 u195 u196 u197 u198 u199 u200 u201 u202 u203 u204 u205 u206 u207 u208 u209 u210 u211 u212 u213 u214 u215 u216 u217 u218 u219 u220 u221 u222 m2
        rw [drewNN]
        go_wp2
        go_roundw
        case rel => exact ⟨k1, t2, by have := HK1.out; omega, rfl, rfl, by have := HK1.out; omega, (HF.out (m + m2))⟩
        case measure => have := HK1.out; simp [RowKit.intOf]; omega
    · have hLB : Below w.heap.size w wr := by
        obtain ⟨⟨nw, P, J, D, hLB, _⟩, _, _⟩ := HI.out
        exact HE.out _ hLB.bel
      have HF : Hid (Below w.heap.size w wr) := hLB
      clear hLB
      by_cases hkn : k < n
      · have j1 : (k : Int) < (n : Int) := by omega
        have j2 : ¬ (k : Int) < 250 := by omega
        clear hkl hk hk2 hkn
        go_wp2
        go_ret
        exact ⟨rfl, HF.out⟩
      · have j1 : ¬ (k : Int) < (n : Int) := by omega
        clear hkl hk hk2 hkn
        go_wp2
        go_ret
        exact ⟨rfl, HF.out⟩
end Go.Proofs.Ytocahjnibdgmoaa
