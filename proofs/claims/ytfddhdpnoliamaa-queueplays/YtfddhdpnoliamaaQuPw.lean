/- QueuePlays, walked. -/
import Derived.Test.YtfddhdpnoliamaaQuPq
namespace Go.Proofs.Ytfddhdpnoliamaa
open Go.RowKit Go.Shelf

/-- Moves that came in. -/
structure MovesIn (w : World) (ao : Option Addr) (l : List (Int × Int × ByteArray × Int)) : Prop where
  at_ : l ≠ [] → ∃ g o, ao = some ⟨g, o, none⟩ ∧ g < w.heap.size ∧ ∀ (k : Nat) (hk : k < l.length), w.cell? ⟨g, o + k * 4, none⟩ = some (.int .i64 (l[k]).1) ∧ w.cell? ⟨g, o + k * 4 + 1, none⟩ = some (.int .i64 (l[k]).2.1) ∧ w.cell? ⟨g, o + k * 4 + 2, none⟩ = some (.string (l[k]).2.2.1) ∧ w.cell? ⟨g, o + k * 4 + 3, none⟩ = some (.int .i64 (l[k]).2.2.2)
  sz : ∀ x ∈ l, x.2.2.1.size ≤ maxLen
  kd : ∀ x ∈ l, -9223372036854775808 ≤ x.1 ∧ x.1 ≤ 9223372036854775807
  len : l.length ≤ 4611686018427387904

def PW (P R : Nat) (w0 W : World) : Prop := ∃ q r, St w0.heap.size P R [] W q r ∧ Sim q r ∧ QI q ∧ Below w0.heap.size w0 W

theorem PW.up {P R : Nat} {w0 W W' : World} (h : PW P R w0 W) (hb : Below W.heap.size W W') : PW P R w0 W' := by
  obtain ⟨q, r, h1, h2, h3, h4⟩ := h
  exact ⟨q, r, h1.up hb, h2, h3, h4.trans (hb.mono h1.lo)⟩
theorem QI.putQ {q : Qu} (h : QI q) (hs : sizeL q.ring ≤ 200) (x : Int) (s : ByteArray) (y : Int) : QI (Go.Proofs.Ytfddhdpnoliamaa.putQ q x s y) := by
  unfold Go.Proofs.Ytfddhdpnoliamaa.putQ
  by_cases hpe : putE q x s y = 0
  · rw [if_pos hpe]
    have hje : jobE x s y = 0 := by
      unfold putE at hpe
      split at hpe
      · rename_i h; exact absurd hpe h
      · rename_i h; simpa using h
    have hrg : ¬ (x < 1 ∨ 20 < x ∨ y < 1 ∨ 1000 < y) := fun e => by
      unfold jobE at hje
      rw [if_pos e] at hje
      exact absurd hje (by decide)
    exact h.add _ (by show 1 ≤ y.toNat; omega) (by show y.toNat ≤ 1000; omega) hs
  · rw [if_neg hpe]
    exact h

set_option maxHeartbeats 8000000 in
set_option maxRecDepth 100000 in
theorem plays_walk (m : Int) (ao : Option Addr) (cap : Nat) (l : List (Int × Int × ByteArray × Int)) (w : World) (hl : MovesIn w ao l) :
    Calls Try.prog 3 #[.int .i64 m, .slice ao l.length cap] w fun e w' => e = .returned (.bool true) ∧ Below w.heap.size w w' := by
  have HBg : Hid (Calls Try.prog 7 #[] w fun e w' => e = .returned (.bool true) ∧ Below w.heap.size w w') := begun_any w
  by_cases hm : m < 1 ∨ 1000 < m
  · have HN : Hid (∀ W, Calls Try.prog 8 #[.int .i64 m] W fun e w' => e = .returned (.tuple #[.pointer none, .int .i64 3]) ∧ w' = W) := fun W => New_no m W hm
    rcases hm with hm | hm
    · clear hl
      go_enter Try.func3, Try.ntmps3
      go_wp2_with fail
      refine HBg.out.mono ?_
      rintro e w1 ⟨rfl, hb1⟩
      go_wp2_with fail
      refine (HN.out w1).mono ?_
      rintro e w2 ⟨rfl, rfl⟩
      go_wp2
      go_ret
      exact ⟨rfl, hb1⟩
    · have hm2 : ¬ m < 1 := by omega
      clear hl
      go_enter Try.func3, Try.ntmps3
      go_wp2_with fail
      refine HBg.out.mono ?_
      rintro e w1 ⟨rfl, hb1⟩
      go_wp2_with fail
      refine (HN.out w1).mono ?_
      rintro e w2 ⟨rfl, rfl⟩
      go_wp2
      go_ret
      exact ⟨rfl, hb1⟩
  obtain ⟨mn, rfl⟩ : ∃ mn : Nat, (mn : Int) = m := ⟨m.toNat, by omega⟩
  have hm1 : 1 ≤ mn := by omega
  have hm2 : mn ≤ 1000 := by omega
  have hm3 : ¬ (mn : Int) < 1 := by omega
  have hm4 : ¬ 1000 < (mn : Int) := by omega
  have HN : Hid (∀ W : World, Calls Try.prog 8 #[.int .i64 mn] W fun e w' => e = .returned (.tuple #[.pointer (some ⟨W.heap.size, 0, none⟩), .int .i64 0]) ∧ QS W.heap.size W.heap.size (.slice none 0 0) [] w' ⟨mn, [], false⟩ ∧ Below W.heap.size W w' ∧ w'.heap.size = W.heap.size + 1) := fun W => New_yes mn W hm1 hm2
  have HL : Hid (MovesIn w ao l) := hl
  have HM : Hid (QI ⟨mn, [], false⟩) := QI.new mn hm1 hm2
  clear hm hl hm1 hm2
  go_enter Try.func3, Try.ntmps3
  go_wp2_with fail
  refine HBg.out.mono ?_
  rintro e w1 ⟨rfl, hb1⟩
  go_wp2_with fail
  refine (HN.out w1).mono ?_
  rintro e w2 ⟨rfl, hq2, hb2, hz2⟩
  have HB1 : Hid (Below w.heap.size w w1) := hb1
  have H2 : Hid (PW w1.heap.size w2.heap.size w1 (w2.alloc (.cells #[.int .i64 (mn : Int), .slice none 0 0, .slice none 0 0, .bool false, .slice none 0 0] 32))) := by
    have hba : Below w2.heap.size w2 (w2.alloc (.cells #[.int .i64 (mn : Int), .slice none 0 0, .slice none 0 0, .bool false, .slice none 0 0] 32)) := (Below.refl _ w2).alloc (Nat.le_refl _) _
    refine ⟨⟨mn, [], false⟩, ⟨mn, [], [], false, []⟩, ⟨.slice none 0 0, [], .slice none 0 0, .slice none 0 0, .slice none 0 0, hq2.up hba, ⟨heap_alloc_new w2 _, by omega, .inl ⟨rfl, .inl ⟨rfl, rfl⟩⟩, .inl ⟨rfl, .inl ⟨rfl, rfl⟩⟩, .inl ⟨rfl, .inl ⟨rfl, rfl⟩⟩, by simp [rids, ob, Value.ownBlock]⟩, fun g hg hg2 => ?_, fun x hx => by cases hx⟩, Sim.new mn, HM.out, hb2.trans (hba.mono (by omega))⟩
    have e1 := (hq2.lt g hg).2
    have e2 : g = w2.heap.size := by simpa [rids, ob, Value.ownBlock] using hg2
    omega
  clear hb1 hq2 hb2 hz2 HN HBg HM
  generalize hP : w1.heap.size = P at *
  go_wp2
  generalize w2.alloc (.cells #[.int .i64 (mn : Int), .slice none 0 0, .slice none 0 0, .bool false, .slice none 0 0] 32) = w3 at *
  generalize w2.heap.size = R at *
  go_loopw [8] (fun v wr => ∃ k : Nat, k ≤ l.length ∧ v = .int .i64 (k : Int) ∧ Hid (PW P R w1 wr)) (fun v _ => l.length - (intOf v).toNat)
  case atStart => exact ⟨0, Nat.zero_le _, rfl, H2.out⟩
  case round =>
    obtain ⟨k, hk1, rfl, HI⟩ := hrel
    clear H2
    by_cases hkl : k < l.length ∧ k < 300
    · have i1 : (k : Int) < (l.length : Int) := by omega
      have i2 : (k : Int) < 300 := by omega
      obtain ⟨g, o, rfl, hg, hcell⟩ := HL.out.at_ (by intro e; rw [e] at hkl; simp at hkl)
      obtain ⟨h1, h2, h3, h4⟩ := hcell k hkl.1
      obtain ⟨q, r, hSt, hSm, hQ, hB⟩ := HI.out
      have hgw : g < w1.heap.size := by have := HB1.out.size; omega
      have hgr : g < wr.heap.size := by have := hB.size; omega
      have hold : ∀ (x : Nat), wr.cell? ⟨g, x, none⟩ = w.cell? ⟨g, x, none⟩ := fun x => (hB.cell (p := ⟨g, x, none⟩) hgw).trans (HB1.out.cell (p := ⟨g, x, none⟩) hg)
      have a0 := (hold _).trans h1
      have a1 := (hold _).trans h2
      have a2 := (hold _).trans h3
      have a3 := (hold _).trans h4
      have hsz : (l[k]).2.2.1.size ≤ maxLen := HL.out.sz _ (List.getElem_mem hkl.1)
      have hkd := HL.out.kd _ (List.getElem_mem hkl.1)
      clear h1 h2 h3 h4 hold hcell HI
      generalize l[k] = mv at *
      obtain ⟨kd, x, s, y⟩ := mv
      simp only at a0 a1 a2 a3 hsz hkd
      obtain ⟨k1, hk1e⟩ : ∃ k1, k1 = k + 1 := ⟨_, rfl⟩
      have z1 : (k : Int) + 1 = (k1 : Int) := by omega
      have z2 : IntKind.i64.wrap (k1 : Int) = (k1 : Int) := by rw [IntKind.wrap_i64]; omega
      have HK1 : Hid (k1 = k + 1 ∧ k < l.length) := ⟨hk1e, hkl.1⟩
      have hb3 : Below wr.heap.size wr (wr.alloc (.cells #[.int .i64 x, .string s, .int .i64 y] 34)) := (Below.refl _ wr).alloc (Nat.le_refl _) _
      have hS3 : St w1.heap.size P R [(wr.heap.size, .cells #[.int .i64 x, .string s, .int .i64 y] 34 (0, 0))] (wr.alloc (.cells #[.int .i64 x, .string s, .int .i64 y] 34)) q r := hSt.add hb3 (heap_alloc_new wr _) (Nat.le_refl _)
      have hB3 : Below w1.heap.size w1 (wr.alloc (.cells #[.int .i64 x, .string s, .int .i64 y] 34)) := hB.trans (hb3.mono hB.size)
      have a0b : (wr.alloc (.cells #[.int .i64 x, .string s, .int .i64 y] 34)).cell? ⟨g, o + k * 4, none⟩ = some (.int .i64 kd) := (World.cell?_alloc_past _ _ _ hgr).trans a0
      have HX : Hid (St w1.heap.size P R [(wr.heap.size, .cells #[.int .i64 x, .string s, .int .i64 y] 34 (0, 0))] (wr.alloc (.cells #[.int .i64 x, .string s, .int .i64 y] 34)) q r ∧ Sim q r ∧ QI q ∧ Below w1.heap.size w1 (wr.alloc (.cells #[.int .i64 x, .string s, .int .i64 y] 34)) ∧ s.size ≤ maxLen) := ⟨hS3, hSm, hQ, hB3, hsz⟩
      have HCh : Hid (∀ W, Calls Try.prog 9 #[.int .i64 kd, .int .i64 4] W fun e w' => e = .returned (.int .i64 (chs kd 4 : Int)) ∧ w' = W) := fun W => choose_any kd 4 W hkd.1 hkd.2 (by decide)
      have hc4 : chs kd 4 < 4 := chs_lt kd (by decide)
      have n1 : ¬ g = wr.heap.size := by omega
      clear hSt hSm hQ hB hsz hkd hk1e hb3 hS3 hB3 hg hgw hgr hk1 hkl
      generalize chs kd 4 = cc at *
      have hcc : cc = 0 ∨ cc = 1 ∨ cc = 2 ∨ cc = 3 := by omega
      clear hc4
      rcases hcc with hcc | hcc | hcc | hcc
      · subst hcc
        go_wp2_with (go_at_call 9; refine (HCh.out _).mono ?_; rintro e w' ⟨rfl, rfl⟩)
        clear HCh a0 a1 a2 a3 a0b n1
        generalize wr.alloc (.cells #[.int .i64 x, .string s, .int .i64 y] 34) = W3 at *
        generalize wr.heap.size = J at *
        have hjc : ∀ {W : World} {q' : Qu} {r' : Rg}, St w1.heap.size P R [(J, .cells #[.int .i64 x, .string s, .int .i64 y] 34 (0, 0))] W q' r' → (W.cell? ⟨J, 0, none⟩ = some (.int .i64 x) ∧ W.cell? ⟨J, 1, none⟩ = some (.string s) ∧ W.cell? ⟨J, 2, none⟩ = some (.int .i64 y)) := fun h => by
          have hb := h.blk List.mem_cons_self
          exact ⟨by rw [Lib.cell_of_heap hb]; rfl, by rw [Lib.cell_of_heap hb]; rfl, by rw [Lib.cell_of_heap hb]; rfl⟩
        have HPu : Hid (Calls Try.prog 10 #[.pointer (some ⟨P, 0, none⟩), .agg #[.int .i64 x, .string s, .int .i64 y]] W3.drew fun e w' => e = .returned (.int .i64 (putE q x s y)) ∧ (w'.cell? ⟨J, 0, none⟩ = some (.int .i64 x) ∧ w'.cell? ⟨J, 1, none⟩ = some (.string s) ∧ w'.cell? ⟨J, 2, none⟩ = some (.int .i64 y)) ∧ Hid (St w1.heap.size P R [(J, .cells #[.int .i64 x, .string s, .int .i64 y] 34 (0, 0))] w' (putQ q x s y) r ∧ Below w1.heap.size w1 w')) := by
          obtain ⟨hS, hSm, hQ, hB, hsz⟩ := HX.out
          refine ((hS.up ((Below.refl _ W3).drew)).put hQ x s y hsz).mono ?_
          rintro e w' ⟨he, hS', hb⟩
          exact ⟨he, hjc hS', hS', hB.drew.trans hb⟩
        have HRp : Hid (∀ W : World, Hid (St w1.heap.size P R [(J, .cells #[.int .i64 x, .string s, .int .i64 y] 34 (0, 0))] W (putQ q x s y) r ∧ Below w1.heap.size w1 W) → Calls Try.prog 11 #[.pointer (some ⟨R, 0, none⟩), .agg #[.int .i64 x, .string s, .int .i64 y]] W fun e w' => e = .returned (.int .i64 (putE q x s y)) ∧ (w'.cell? ⟨J, 0, none⟩ = some (.int .i64 x) ∧ w'.cell? ⟨J, 1, none⟩ = some (.string s) ∧ w'.cell? ⟨J, 2, none⟩ = some (.int .i64 y)) ∧ Hid (PW P R w1 w')) := fun W hW => by
          obtain ⟨hS, hSm, hQ, hB, hsz⟩ := HX.out
          have hlr := hQ.b.len
          refine (hW.out.1.rput x s y hsz (by rw [hSm.len]; exact hSm.le) (by rw [hSm.tens]; simpa using hlr) (by rw [hSm.tens, hSm.creds]; simp)).mono ?_
          rintro e w' ⟨he, hS', hb⟩
          rw [hSm.putE]
          exact ⟨he, hjc hS', _, _, hS'.no, hSm.put hQ x s y, hQ.putQ hSm.le x s y, hW.out.2.trans hb⟩
        have HJ0 : Hid (W3.drew.cell? ⟨J, 0, none⟩ = some (.int .i64 x) ∧ W3.drew.cell? ⟨J, 1, none⟩ = some (.string s) ∧ W3.drew.cell? ⟨J, 2, none⟩ = some (.int .i64 y)) := hjc (HX.out.1.up ((Below.refl _ W3).drew))
        clear hjc HX
        generalize putE q x s y = pe at *
        generalize putQ q x s y = q9 at *
        go_region_held3 (fun w' => w'.cell? ⟨J, 0, none⟩ = some (.int .i64 x) ∧ w'.cell? ⟨J, 1, none⟩ = some (.string s) ∧ w'.cell? ⟨J, 2, none⟩ = some (.int .i64 y))
          (first | with_reducible exact HJ0.out | with_reducible assumption)
          (first
            | (go_at_call 10; refine HPu.out.mono ?_; rintro e w4 ⟨rfl, hc4, hs4⟩)
            | (go_at_call 11; refine (HRp.out _ (by assumption)).mono ?_; rintro e w5 ⟨rfl, hc5, hs5⟩)
            | fail)
        all_goals
          go_wp2
          refine ⟨⟨k1, by have := HK1.out; omega, rfl, hs5⟩, ?_⟩
          have := HK1.out
          simp [intOf]; omega
      · subst hcc
        go_wp2_with (first | (go_at_call 9; refine (HCh.out _).mono ?_; rintro e w' ⟨rfl, rfl⟩) | fail)
        clear HCh a0 a1 a2 a3 a0b n1
        generalize wr.alloc (.cells #[.int .i64 x, .string s, .int .i64 y] 34) = W3 at *
        generalize wr.heap.size = J at *
        obtain ⟨hS, hSm, hQ, hB, _⟩ := HX.out
        by_cases hr : q.ring = []
        · refine (hS.next0 hQ hr).mono ?_
          rintro e w4 ⟨rfl, hS4, hB4⟩
          have hba : Below w4.heap.size w4 (w4.alloc (.cells #[.int .i64 0, .string ⟨#[]⟩, .int .i64 0] 34)) := (Below.refl _ w4).alloc (Nat.le_refl _) _
          have hSa : St w1.heap.size P R [(w4.heap.size, .cells #[.int .i64 0, .string ⟨#[]⟩, .int .i64 0] 34 (0, 0))] (w4.alloc (.cells #[.int .i64 0, .string ⟨#[]⟩, .int .i64 0] 34)) q r := hS4.no.add hba (heap_alloc_new w4 _) (Nat.le_refl _)
          have HRn : Hid (Calls Try.prog 13 #[.pointer (some ⟨R, 0, none⟩)] (w4.alloc (.cells #[.int .i64 0, .string ⟨#[]⟩, .int .i64 0] 34)) fun e w' => e = .returned (.tuple #[.agg #[.int .i64 0, .string ⟨#[]⟩, .int .i64 0], .bool false]) ∧ w'.heap[w4.heap.size]? = some (.cells #[.int .i64 0, .string ⟨#[]⟩, .int .i64 0] 34 (0, 0)) ∧ Hid (PW P R w1 w')) := by
            refine (hSa.rnext0 (by rw [hSm.tens, hr]; rfl)).mono ?_
            rintro e w' ⟨he, hS', hb⟩
            exact ⟨he, hS'.blk List.mem_cons_self, q, r, hS'.no, hSm, hQ, ((hB.trans hB4).trans (hba.mono hS4.lo)).trans hb⟩
          clear hS hSm hQ hB hr hS4 hB4 hba hSa HX
          go_wp2_with fail
          refine HRn.out.mono ?_
          rintro e w5 ⟨rfl, hA5, hs5⟩
          clear HRn
          have hAl : w4.heap.size < w5.heap.size := (Array.getElem?_eq_some_iff.1 hA5).1
          generalize w4.heap.size = AA at *
          have p0 : w5.cell? ⟨AA, 0, none⟩ = some (.int .i64 0) := by rw [Lib.cell_of_heap hA5]; rfl
          have p1 : w5.cell? ⟨AA, 1, none⟩ = some (.string ⟨#[]⟩) := by rw [Lib.cell_of_heap hA5]; rfl
          have p2 : w5.cell? ⟨AA, 2, none⟩ = some (.int .i64 0) := by rw [Lib.cell_of_heap hA5]; rfl
          have p3 : (w5.alloc (.cells #[.int .i64 0, .string ⟨#[]⟩, .int .i64 0] 34)).cell? ⟨AA, 0, none⟩ = some (.int .i64 0) := (World.cell?_alloc_past _ _ _ hAl).trans p0
          have p4 : (w5.alloc (.cells #[.int .i64 0, .string ⟨#[]⟩, .int .i64 0] 34)).cell? ⟨AA, 1, none⟩ = some (.string ⟨#[]⟩) := (World.cell?_alloc_past _ _ _ hAl).trans p1
          have p5 : (w5.alloc (.cells #[.int .i64 0, .string ⟨#[]⟩, .int .i64 0] 34)).cell? ⟨AA, 2, none⟩ = some (.int .i64 0) := (World.cell?_alloc_past _ _ _ hAl).trans p2
          have p6 : ¬ AA = w5.heap.size := by omega
          have l9 := heap_alloc_new w5 (.cells #[.int .i64 0, .string ⟨#[]⟩, .int .i64 0] 34)
          have p7 : (w5.alloc (.cells #[.int .i64 0, .string ⟨#[]⟩, .int .i64 0] 34)).cell? ⟨w5.heap.size, 0, none⟩ = some (.int .i64 0) := by rw [Lib.cell_of_heap l9]; rfl
          have p8 : (w5.alloc (.cells #[.int .i64 0, .string ⟨#[]⟩, .int .i64 0] 34)).cell? ⟨w5.heap.size, 1, none⟩ = some (.string ⟨#[]⟩) := by rw [Lib.cell_of_heap l9]; rfl
          have p9 : (w5.alloc (.cells #[.int .i64 0, .string ⟨#[]⟩, .int .i64 0] 34)).cell? ⟨w5.heap.size, 2, none⟩ = some (.int .i64 0) := by rw [Lib.cell_of_heap l9]; rfl
          have HPW : Hid (∀ W', Below w5.heap.size w5 W' → PW P R w1 W') := fun W' hb => hs5.out.up hb
          have hb9 : Below w5.heap.size w5 (w5.alloc (.cells #[.int .i64 0, .string ⟨#[]⟩, .int .i64 0] 34)) := (Below.refl _ w5).alloc (Nat.le_refl _) _
          have HB9 : Hid (Below w5.heap.size w5 (w5.alloc (.cells #[.int .i64 0, .string ⟨#[]⟩, .int .i64 0] 34))) := hb9
          clear hA5 hAl hs5 l9 hb9 p0 p1 p2
          go_wp2_with fail
          refine ⟨⟨k1, by have := HK1.out; omega, rfl, HPW.out _ HB9.out⟩, ?_⟩
          have := HK1.out
          simp [intOf]; omega
        · refine (hS.next hQ hr).mono ?_
          rintro e w4 ⟨p, t, s0, j, js, hsp, hQp, hrp, hjp, rfl, hS4, hB4⟩
          have hba : Below w4.heap.size w4 (w4.alloc (.cells #[.int .i64 (j.ten : Int), .string j.name, .int .i64 (j.cost : Int)] 34)) := (Below.refl _ w4).alloc (Nat.le_refl _) _
          have hSa : St w1.heap.size P R [(w4.heap.size, .cells #[.int .i64 (j.ten : Int), .string j.name, .int .i64 (j.cost : Int)] 34 (0, 0))] (w4.alloc (.cells #[.int .i64 (j.ten : Int), .string j.name, .int .i64 (j.cost : Int)] 34)) p.gone r := hS4.no.add hba (heap_alloc_new w4 _) (Nat.le_refl _)
          have HRn : Hid (Calls Try.prog 13 #[.pointer (some ⟨R, 0, none⟩)] (w4.alloc (.cells #[.int .i64 (j.ten : Int), .string j.name, .int .i64 (j.cost : Int)] 34)) fun e w' => e = .returned (.tuple #[.agg #[.int .i64 (j.ten : Int), .string j.name, .int .i64 (j.cost : Int)], .bool true]) ∧ w'.heap[w4.heap.size]? = some (.cells #[.int .i64 (j.ten : Int), .string j.name, .int .i64 (j.cost : Int)] 34 (0, 0)) ∧ Hid (PW P R w1 w')) := by
            refine (hSa.rnext hSm hQ hr).mono ?_
            rintro e w' ⟨p2, t2, s2, j2, js2, r', b1, b2, b3, b4, he, hsm', hS', hb⟩
            have hpe := Spun.det b1 hsp
            subst hpe
            rw [hrp] at b3
            cases b3
            rw [hjp] at b4
            cases b4
            exact ⟨he, hS'.blk List.mem_cons_self, _, r', hS'.no, hsm', hQp.gone hrp hjp, ((hB.trans hB4).trans (hba.mono hS4.lo)).trans hb⟩
          clear hS hSm hQ hB hr hS4 hB4 hba hSa HX hsp hQp hrp hjp
          unfold jagg
          go_wp2_with fail
          refine HRn.out.mono ?_
          rintro e w5 ⟨rfl, hA5, hs5⟩
          clear HRn
          have hAl : w4.heap.size < w5.heap.size := (Array.getElem?_eq_some_iff.1 hA5).1
          generalize w4.heap.size = AA at *
          have p0 : w5.cell? ⟨AA, 0, none⟩ = some (.int .i64 (j.ten : Int)) := by rw [Lib.cell_of_heap hA5]; rfl
          have p1 : w5.cell? ⟨AA, 1, none⟩ = some (.string j.name) := by rw [Lib.cell_of_heap hA5]; rfl
          have p2 : w5.cell? ⟨AA, 2, none⟩ = some (.int .i64 (j.cost : Int)) := by rw [Lib.cell_of_heap hA5]; rfl
          have p3 : (w5.alloc (.cells #[.int .i64 (j.ten : Int), .string j.name, .int .i64 (j.cost : Int)] 34)).cell? ⟨AA, 0, none⟩ = some (.int .i64 (j.ten : Int)) := (World.cell?_alloc_past _ _ _ hAl).trans p0
          have p4 : (w5.alloc (.cells #[.int .i64 (j.ten : Int), .string j.name, .int .i64 (j.cost : Int)] 34)).cell? ⟨AA, 1, none⟩ = some (.string j.name) := (World.cell?_alloc_past _ _ _ hAl).trans p1
          have p5 : (w5.alloc (.cells #[.int .i64 (j.ten : Int), .string j.name, .int .i64 (j.cost : Int)] 34)).cell? ⟨AA, 2, none⟩ = some (.int .i64 (j.cost : Int)) := (World.cell?_alloc_past _ _ _ hAl).trans p2
          have p6 : ¬ AA = w5.heap.size := by omega
          have l9 := heap_alloc_new w5 (.cells #[.int .i64 (j.ten : Int), .string j.name, .int .i64 (j.cost : Int)] 34)
          have p7 : (w5.alloc (.cells #[.int .i64 (j.ten : Int), .string j.name, .int .i64 (j.cost : Int)] 34)).cell? ⟨w5.heap.size, 0, none⟩ = some (.int .i64 (j.ten : Int)) := by rw [Lib.cell_of_heap l9]; rfl
          have p8 : (w5.alloc (.cells #[.int .i64 (j.ten : Int), .string j.name, .int .i64 (j.cost : Int)] 34)).cell? ⟨w5.heap.size, 1, none⟩ = some (.string j.name) := by rw [Lib.cell_of_heap l9]; rfl
          have p9 : (w5.alloc (.cells #[.int .i64 (j.ten : Int), .string j.name, .int .i64 (j.cost : Int)] 34)).cell? ⟨w5.heap.size, 2, none⟩ = some (.int .i64 (j.cost : Int)) := by rw [Lib.cell_of_heap l9]; rfl
          have HPW : Hid (∀ W', Below w5.heap.size w5 W' → PW P R w1 W') := fun W' hb => hs5.out.up hb
          have hb9 : Below w5.heap.size w5 (w5.alloc (.cells #[.int .i64 (j.ten : Int), .string j.name, .int .i64 (j.cost : Int)] 34)) := (Below.refl _ w5).alloc (Nat.le_refl _) _
          have HB9 : Hid (Below w5.heap.size w5 (w5.alloc (.cells #[.int .i64 (j.ten : Int), .string j.name, .int .i64 (j.cost : Int)] 34))) := hb9
          clear hA5 hAl hs5 l9 hb9 p0 p1 p2
          go_wp2_with fail
          refine ⟨⟨k1, by have := HK1.out; omega, rfl, HPW.out _ HB9.out⟩, ?_⟩
          have := HK1.out
          simp [intOf]; omega
      · subst hcc
        go_wp2_with (go_at_call 9; refine (HCh.out _).mono ?_; rintro e w' ⟨rfl, rfl⟩)
        clear HCh a0 a1 a2 a3 a0b n1
        generalize wr.alloc (.cells #[.int .i64 x, .string s, .int .i64 y] 34) = W3 at *
        generalize wr.heap.size = J at *
        have hjc : ∀ {W : World} {q' : Qu} {r' : Rg}, St w1.heap.size P R [(J, .cells #[.int .i64 x, .string s, .int .i64 y] 34 (0, 0))] W q' r' → (W.cell? ⟨J, 0, none⟩ = some (.int .i64 x) ∧ W.cell? ⟨J, 1, none⟩ = some (.string s) ∧ W.cell? ⟨J, 2, none⟩ = some (.int .i64 y)) := fun h => by
          have hb := h.blk List.mem_cons_self
          exact ⟨by rw [Lib.cell_of_heap hb]; rfl, by rw [Lib.cell_of_heap hb]; rfl, by rw [Lib.cell_of_heap hb]; rfl⟩
        have HJ0 : Hid (W3.drew.cell? ⟨J, 0, none⟩ = some (.int .i64 x) ∧ W3.drew.cell? ⟨J, 1, none⟩ = some (.string s) ∧ W3.drew.cell? ⟨J, 2, none⟩ = some (.int .i64 y)) := hjc (HX.out.1.up ((Below.refl _ W3).drew))
        have HD : Hid (∃ b : Bool, (Calls Try.prog 14 #[.pointer (some ⟨P, 0, none⟩), .string s] W3.drew fun e w' => e = .returned (.bool b) ∧ (w'.cell? ⟨J, 0, none⟩ = some (.int .i64 x) ∧ w'.cell? ⟨J, 1, none⟩ = some (.string s) ∧ w'.cell? ⟨J, 2, none⟩ = some (.int .i64 y)) ∧ Hid (∃ q', (∃ W, St w1.heap.size P R [(J, .cells #[.int .i64 x, .string s, .int .i64 y] 34 (0, 0))] W q' r ∧ W = w' ∧ Below w1.heap.size w1 w') ∧ (if b then Left q s q' else q' = q))) ∧ (b = false → hasN q.ring s = false)) := by
          obtain ⟨hS, hSm, hQ, hB, hsz⟩ := HX.out
          cases hh : hasN q.ring s with
          | true =>
            refine ⟨true, ?_, fun e => by cases e⟩
            refine ((hS.up ((Below.refl _ W3).drew)).drop hQ s hh).mono ?_
            rintro e w' ⟨he, q', hl, hS', hb⟩
            exact ⟨he, hjc hS', q', ⟨w', hS', rfl, hB.drew.trans hb⟩, hl⟩
          | false =>
            refine ⟨false, ?_, fun _ => rfl⟩
            refine ((hS.up ((Below.refl _ W3).drew)).drop0 hQ s hh).mono ?_
            rintro e w' ⟨he, hS', hb⟩
            exact ⟨he, hjc hS', q, ⟨w', hS', rfl, hB.drew.trans hb⟩, rfl⟩
        obtain ⟨b, hDq, hbn⟩ := HD.out
        have HDq : Hid (Calls Try.prog 14 #[.pointer (some ⟨P, 0, none⟩), .string s] W3.drew fun e w' => e = .returned (.bool b) ∧ (w'.cell? ⟨J, 0, none⟩ = some (.int .i64 x) ∧ w'.cell? ⟨J, 1, none⟩ = some (.string s) ∧ w'.cell? ⟨J, 2, none⟩ = some (.int .i64 y)) ∧ Hid (∃ q', (∃ W, St w1.heap.size P R [(J, .cells #[.int .i64 x, .string s, .int .i64 y] 34 (0, 0))] W q' r ∧ W = w' ∧ Below w1.heap.size w1 w') ∧ (if b then Left q s q' else q' = q))) := hDq
        have HDr : Hid (∀ W : World, Hid (∃ q', (∃ W', St w1.heap.size P R [(J, .cells #[.int .i64 x, .string s, .int .i64 y] 34 (0, 0))] W' q' r ∧ W' = W ∧ Below w1.heap.size w1 W) ∧ (if b then Left q s q' else q' = q)) → Calls Try.prog 15 #[.pointer (some ⟨R, 0, none⟩), .string s] W fun e w' => e = .returned (.bool b) ∧ (w'.cell? ⟨J, 0, none⟩ = some (.int .i64 x) ∧ w'.cell? ⟨J, 1, none⟩ = some (.string s) ∧ w'.cell? ⟨J, 2, none⟩ = some (.int .i64 y)) ∧ Hid (PW P R w1 w')) := fun W hW => by
          obtain ⟨hS, hSm, hQ, hB, hsz⟩ := HX.out
          obtain ⟨q', ⟨_, hS', rfl, hB'⟩, hl⟩ := hW.out
          cases b with
          | true =>
            have hl2 : Left q s q' := hl
            refine (hS'.rdrop hSm hQ s hl2).mono ?_
            rintro e w' ⟨he, r', hsm', hS2, hb⟩
            obtain ⟨_, _, _, _, _, _, _, hqi, _⟩ := hl2
            exact ⟨he, hjc hS2, q', r', hS2.no, hsm', hqi, hB'.trans hb⟩
          | false =>
            have hl2 : q' = q := hl
            subst hl2
            refine (hS'.rdrop0 hSm s (hbn rfl)).mono ?_
            rintro e w' ⟨he, hS2, hb⟩
            exact ⟨he, hjc hS2, q', r, hS2.no, hSm, hQ, hB'.trans hb⟩
        clear hjc HX HD hDq hbn
        go_region_held3 (fun w' => (w'.cell? ⟨J, 0, none⟩ = some (.int .i64 x) ∧ w'.cell? ⟨J, 1, none⟩ = some (.string s) ∧ w'.cell? ⟨J, 2, none⟩ = some (.int .i64 y)))
          (first | with_reducible exact HJ0.out | with_reducible assumption)
          (first
            | (go_at_call 14; refine HDq.out.mono ?_; rintro e w4 ⟨rfl, hc4, hs4⟩)
            | (go_at_call 15; refine (HDr.out _ (by assumption)).mono ?_; rintro e w5 ⟨rfl, hc5, hs5⟩)
            | fail)
        all_goals
          go_wp2
          refine ⟨⟨k1, by have := HK1.out; omega, rfl, hs5⟩, ?_⟩
          have := HK1.out
          simp [intOf]; omega
      · subst hcc
        go_wp2_with (go_at_call 9; refine (HCh.out _).mono ?_; rintro e w' ⟨rfl, rfl⟩)
        clear HCh a0 a1 a2 a3 a0b n1
        generalize wr.alloc (.cells #[.int .i64 x, .string s, .int .i64 y] 34) = W3 at *
        generalize wr.heap.size = J at *
        have hjc : ∀ {W : World} {q' : Qu} {r' : Rg}, St w1.heap.size P R [(J, .cells #[.int .i64 x, .string s, .int .i64 y] 34 (0, 0))] W q' r' → (W.cell? ⟨J, 0, none⟩ = some (.int .i64 x) ∧ W.cell? ⟨J, 1, none⟩ = some (.string s) ∧ W.cell? ⟨J, 2, none⟩ = some (.int .i64 y)) := fun h => by
          have hb := h.blk List.mem_cons_self
          exact ⟨by rw [Lib.cell_of_heap hb]; rfl, by rw [Lib.cell_of_heap hb]; rfl, by rw [Lib.cell_of_heap hb]; rfl⟩
        have HJ0 : Hid (W3.drew.cell? ⟨J, 0, none⟩ = some (.int .i64 x) ∧ W3.drew.cell? ⟨J, 1, none⟩ = some (.string s) ∧ W3.drew.cell? ⟨J, 2, none⟩ = some (.int .i64 y)) := hjc (HX.out.1.up ((Below.refl _ W3).drew))
        have HWq : Hid (Calls Try.prog 17 #[.pointer (some ⟨P, 0, none⟩), .int .i64 x] W3.drew fun e w' => ∃ v1, e = .returned v1 ∧ (w'.cell? ⟨J, 0, none⟩ = some (.int .i64 x) ∧ w'.cell? ⟨J, 1, none⟩ = some (.string s) ∧ w'.cell? ⟨J, 2, none⟩ = some (.int .i64 y)) ∧ Hid (IsTexts w' v1 (wnms q x) ∧ St w1.heap.size P R [(J, .cells #[.int .i64 x, .string s, .int .i64 y] 34 (0, 0))] w' q r ∧ Below w1.heap.size w1 w')) := by
          obtain ⟨hS, hSm, hQ, hB, hsz⟩ := HX.out
          have hS2 := hS.up ((Below.refl _ W3).drew)
          refine (hS2.wait hQ x).mono ?_
          rintro e w' ⟨v', he, ht, hb⟩
          have hS' := hS2.up hb
          exact ⟨v', he, hjc hS', ht, hS', hB.drew.trans (hb.mono hS2.lo)⟩
        have HWr : Hid (∀ (W : World) (v1 : Value), Hid (IsTexts W v1 (wnms q x) ∧ St w1.heap.size P R [(J, .cells #[.int .i64 x, .string s, .int .i64 y] 34 (0, 0))] W q r ∧ Below w1.heap.size w1 W) → Calls Try.prog 18 #[.pointer (some ⟨R, 0, none⟩), .int .i64 x] W fun e w' => ∃ v2, e = .returned v2 ∧ (w'.cell? ⟨J, 0, none⟩ = some (.int .i64 x) ∧ w'.cell? ⟨J, 1, none⟩ = some (.string s) ∧ w'.cell? ⟨J, 2, none⟩ = some (.int .i64 y)) ∧ Hid (IsTexts w' v1 (wnms q x) ∧ IsTexts w' v2 (wnms q x) ∧ St w1.heap.size P R [(J, .cells #[.int .i64 x, .string s, .int .i64 y] 34 (0, 0))] w' q r ∧ Below w1.heap.size w1 w')) := fun W v1 hW => by
          obtain ⟨ht1, hS2, hB2⟩ := hW.out
          refine (hS2.rwait HX.out.2.1 x).mono ?_
          rintro e w' ⟨v', he, ht, hb⟩
          have hS' := hS2.up hb
          exact ⟨v', he, hjc hS', ht1.up hb, ht, hS', hB2.trans (hb.mono hS2.lo)⟩
        have HWs : Hid (∀ (W : World) (v1 v2 : Value), Hid (IsTexts W v1 (wnms q x) ∧ IsTexts W v2 (wnms q x) ∧ St w1.heap.size P R [(J, .cells #[.int .i64 x, .string s, .int .i64 y] 34 (0, 0))] W q r ∧ Below w1.heap.size w1 W) → Calls Try.prog 16 #[v1, v2] W fun e w' => e = .returned (.bool true) ∧ (w'.cell? ⟨J, 0, none⟩ = some (.int .i64 x) ∧ w'.cell? ⟨J, 1, none⟩ = some (.string s) ∧ w'.cell? ⟨J, 2, none⟩ = some (.int .i64 y)) ∧ Hid (PW P R w1 w')) := fun W v1 v2 hW => by
          obtain ⟨ht1, ht2, hS2, hB2⟩ := hW.out
          refine (same_any W v1 v2 _ ht1 ht2).mono ?_
          rintro e w' ⟨he, n, rfl⟩
          have hb : Below W.heap.size W (W.drewN n) := ⟨rfl, rfl, rfl, Nat.le_refl _, fun _ _ => rfl⟩
          have hS' := hS2.up hb
          exact ⟨he, hjc hS', q, r, hS'.no, HX.out.2.1, HX.out.2.2.1, hB2.trans (hb.mono hS2.lo)⟩
        clear hjc HX
        go_region_held3 (fun w' => (w'.cell? ⟨J, 0, none⟩ = some (.int .i64 x) ∧ w'.cell? ⟨J, 1, none⟩ = some (.string s) ∧ w'.cell? ⟨J, 2, none⟩ = some (.int .i64 y)))
          (first | with_reducible exact HJ0.out | with_reducible assumption)
          (first
            | (go_at_call 17; refine HWq.out.mono ?_; rintro e w4 ⟨v1, rfl, hc4, hs4⟩)
            | (go_at_call 18; refine (HWr.out _ _ (by assumption)).mono ?_; rintro e w5 ⟨v2, rfl, hc5, hs5⟩)
            | (go_at_call 16; refine (HWs.out _ _ _ (by assumption)).mono ?_; rintro e w6 ⟨rfl, hc6, hs6⟩)
            | fail)
        all_goals
          go_wp2
          refine ⟨⟨k1, by have := HK1.out; omega, rfl, hs6⟩, ?_⟩
          have := HK1.out
          simp [intOf]; omega
    · obtain ⟨q, r, hSt, hSm, hQ, hB⟩ := HI.out
      have HE : Hid (Below w.heap.size w wr) := HB1.out.trans (hB.mono HB1.out.size)
      clear hSt hSm hQ hB HI
      by_cases h1 : (k : Int) < (l.length : Int)
      · have h2 : ¬ (k : Int) < 300 := by omega
        clear hkl
        go_wp2
        go_ret
        exact ⟨rfl, HE.out⟩
      · clear hkl
        go_wp2
        go_ret
        exact ⟨rfl, HE.out⟩
end Go.Proofs.Ytfddhdpnoliamaa
