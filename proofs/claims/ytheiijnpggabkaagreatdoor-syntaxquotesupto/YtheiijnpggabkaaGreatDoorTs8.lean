/- list: each of its parts. -/
import Derived.Deep.RegionHeld3
import Derived.Test.YtheiijnpggabkaaGreatDoorTs7
namespace Go.Proofs.YtheiijnpggabkaaGreatDoor
open Go.RowKit Go.Shelf
attribute [local go_sem ↓] fld0 fld1 fld2 fld3
attribute [local go_sem] mk_func

theorem infEx : (Tryz.prog.info? 41).map (fun i => (i.zero, i.size, i.bytes)) = some (some (.agg #[.int .i64 0, .int .i64 0, .string ⟨#[]⟩, .slice none 0 0, .slice none 0 0]), 5, 80) := by kernel_rfl
theorem FrL.al {P lo Eb : Nat} {W0 W : World} (h : FrL P lo Eb W0 W) (o : Obj) : FrL P lo Eb W0 (W.alloc o) := h.kp (KP.al P W o)
theorem FrL.drew {P lo Eb : Nat} {W0 W : World} (h : FrL P lo Eb W0 W) : FrL P lo Eb W0 W.drew := ⟨h.os, h.tape, h.output, h.size, h.blk⟩
theorem BuB.al {lo Eb : Nat} {W : World} {s : Ex} {kv nv : Value} {vs : List (List Value)} (h : BuB lo Eb W s kv nv vs) (o : Obj) (he : Eb < W.heap.size) : BuB lo Eb (W.alloc o) s kv nv vs := h.keep (heap_al W o Eb he) (fun g _ hg => heap_al W o g hg)
theorem ob_eq {b g o n c : Nat} (h : (Value.slice (some ⟨b, o, none⟩) n c).ownBlock = some g) : b = g := by simpa [Value.ownBlock] using h
theorem stored_cells' {lo : Nat} {e : TypeId} {size g n cap k : Nat} {w : World} {xs zs cs : List Value} (h : w.ownsRow lo e size (.slice (some ⟨g, 0, none⟩) n cap) n (xs ++ zs)) (hx : xs.length = k) (hl : cs.length = 5) (hz : zs.length = 5 := by rfl) : (w.setCells g k cs).ownsRow lo e size (.slice (some ⟨g, 0, none⟩) n cap) n (xs ++ cs) := by
  subst hx
  exact stored_cells cs zs xs w h (by rw [hl, hz])
theorem EV.put3 {w : World} {L : Nat} {v0 v1 v2 v3 v4 : Value} (h : EV w L [v0, v1, v2, v3, v4]) (u : Value) : EV (w.setCell ⟨L, 3, none⟩ u) L [v0, v1, v2, u, v4] := by
  obtain ⟨u0, u1, u2, u3, u4⟩ := h.five
  obtain ⟨⟨c0, h1, h2⟩, h3⟩ := h
  have hb : (w.setCell ⟨L, 3, none⟩ u).heap[L]? = some (.cells (c0.setIfInBounds 3 u) 41 (0, 0)) := Go.Joins.block_setCell h1 u
  rw [Lib.cell_of_heap h1] at u0 u1 u2 u3 u4
  refine ⟨⟨_, hb, by simpa using h2⟩, fun j v hv => ?_⟩
  rw [Nat.zero_add, Lib.cell_of_heap hb]
  match j, hv with
  | 0, hv => cases hv; simpa using u0
  | 1, hv => cases hv; simpa using u1
  | 2, hv => cases hv; simpa using u2
  | 3, hv => cases hv; simp [h2]
  | 4, hv => cases hv; simpa using u4
theorem os_sets (b o : Nat) (vs : List Value) (w : World) : (w.setCells b o vs).os = w.os := (bel_sets (Nat.zero_le b) vs o (Below.refl 0 w)).os
theorem out_sets (b o : Nat) (vs : List Value) (w : World) : (w.setCells b o vs).output = w.output := (bel_sets (Nat.zero_le b) vs o (Below.refl 0 w)).output
theorem tape_sets (b o : Nat) (vs : List Value) (w : World) : (w.setCells b o vs).tape = w.tape := (bel_sets (Nat.zero_le b) vs o (Below.refl 0 w)).tape

set_option maxHeartbeats 40000000 in
set_option linter.unusedSimpArgs false in
set_option maxRecDepth 100000 in
theorem listE_any {P T lo Eb b : Nat} {W0 : World} {E : Ps → Px Ex} (hEx : MethC P T 75 E) (hP : P < lo) (hT : T < lo) (hE : Eb < lo) (hPE : Eb ≠ P) (hTE : T ≠ Eb) (hbl : b < lo) (hbP : b ≠ P) (hbE : b ≠ Eb) (hb : W0.cell? ⟨b, 0, none⟩ = some (pt P)) :
    EachC 161 #[pt Eb, pt b] (LI P T lo Eb W0) (FrL P lo Eb W0) (liE E) := by
  refine ⟨enters_of Tryz.func161 (by kernel_rfl) rfl, fun W s p z h hz => ?_⟩
  obtain ⟨i0, hi, hz0, hz1, hz2⟩ := info_p infEx
  obtain ⟨hps, fr, kv, nv, vs, bu⟩ := h
  obtain ⟨ak, ck, rfl⟩ := row_shape bu.kr
  obtain ⟨hn, hz9⟩ := iff_some hz
  have hn1 : s.kids.length < 1000000 := of_decide_eq_true hn
  have HSb : Hid (∀ V, FrL P lo Eb W0 V → V.cell? ⟨b, 0, none⟩ = some (pt P)) := fun V hV => (World.cell?_of_block (hV.blk b hbl hbP hbE)).trans hb
  have fr0 := fr.drew
  have bu0 : BuB lo Eb W.drew s (.slice ak s.kids.length ck) nv vs := bu.keep rfl (fun _ _ _ => rfl)
  have fr5 := fr0.al ez
  have bu5 := bu0.al ez (Nat.lt_of_lt_of_le hE fr0.size)
  have hz5 : (W.drew.alloc ez).heap[W.heap.size]? = some ez := heap_alloc_new W.drew ez
  have sb_0 := HSb.out _ fr0
  have sb_5 := HSb.out _ fr5
  have c3_0 : W.drew.cell? ⟨Eb, 3, none⟩ = some (.slice ak s.kids.length ck) := bu0.ev.five.2.2.2.1
  have c3_5a : (W.drew.alloc ez).cell? ⟨Eb, 3, none⟩ = some (.slice ak s.kids.length ck) := bu5.ev.five.2.2.2.1
  have c3_5b : (W.alloc ez).cell? ⟨Eb, 3, none⟩ = some (.slice ak s.kids.length ck) := c3_5a
  have hp0 : PsA P T W.drew p := hps.drewN 1
  have hp5 := hp0.up (alB W.drew ez)
  clear hz hn fr bu hps
  rcases bnd_some hz9 with ⟨x, hx, rfl⟩ | ⟨y, q, hx, hq⟩
  · have HD0 := hEx W.drew p _ hp0 hx
    have HD5 := hEx (W.drew.alloc ez) p _ hp5 hx
    clear hEx hp0 hp5
    go_enter Tryz.func161, Tryz.ntmps161
    go_wp2_with fail
    refine wp_region_held_drew (S := fun V => V.cell? ⟨b, 0, none⟩ = some (pt P)) (by kernel_rfl) sb_0 (fun hHeld => ?_)
    refine wpAnyH_take (i := 0) (v := .pointer (some ⟨Eb, 3, none⟩)) rfl (by kernel_rfl) (by kernel_rfl) (by kernel_rfl) (fun _ _ _ h => h) (Or.inl ⟨by rfl, ?_⟩) (by assumption) ?_
    · intro V hSV
      try dsimp only at hSV
      go_simp
      try with_reducible rfl
      try (intro h9; exfalso; omega)
    try simp only [Act.put, List.setIfInBounds_toArray, List.set_cons_zero, List.set_cons_succ]
    refine wpAnyH_take (i := 2) (v := pt P) rfl (by kernel_rfl) (by kernel_rfl) (by kernel_rfl) (fun _ _ _ h => h) (Or.inl ⟨by rfl, ?_⟩) (by assumption) ?_
    · intro V hSV
      try dsimp only at hSV
      go_simp
      try with_reducible rfl
      try (intro h9; exfalso; omega)
    try simp only [Act.put, List.setIfInBounds_toArray, List.set_cons_zero, List.set_cons_succ]
    refine wpAnyH_ready (rs := [1, 3, 5]) (by kernel_rfl) (by simp) (AllReadyH.cons rfl (fun K hK => ?_) (AllReadyH.cons rfl (fun K hK => ?_) (AllReadyH.cons rfl (fun K hK => ?_) AllReadyH.nil)))
    · go_simp
      refine hK.out _ _ hHeld (fun hHeld => ?_)
      clear hK K
      try simp only [Act.put, List.setIfInBounds_toArray, List.set_cons_zero, List.set_cons_succ]
      refine wpAnyH_take (i := 4) (v := .int .i64 (s.kids.length : Int)) rfl (by kernel_rfl) (by kernel_rfl) (by kernel_rfl) (fun _ _ _ h => h) (Or.inl ⟨by rfl, ?_⟩) (by assumption) ?_
      · intro V hSV
        try dsimp only at hSV
        go_simp
        try with_reducible rfl
        try (intro h9; exfalso; omega)
      try simp only [Act.put, List.setIfInBounds_toArray, List.set_cons_zero, List.set_cons_succ]
      refine wpAnyH_ready (rs := [3, 5]) (by kernel_rfl) (by simp) (AllReadyH.cons rfl (fun K hK => ?_) (AllReadyH.cons rfl (fun K hK => ?_) AllReadyH.nil))
      · go_simp
        refine HD0.mono ?_
        rintro e1 w1 hpo
        obtain ⟨rfl, hk1⟩ := bad_panic hpo (KP.refl P W.drew)
        exact ⟨rfl, lpo_err (fr0.kp hk1)⟩
      · go_simp
        refine hK.out _ _ sb_5 (fun hHeld => ?_)
        clear hK K
        try simp only [Act.put, List.setIfInBounds_toArray, List.set_cons_zero, List.set_cons_succ]
        refine wpAnyH_ready (rs := [3]) (by kernel_rfl) (by simp) (AllReadyH.cons rfl (fun K hK => ?_) AllReadyH.nil)
        go_simp
        refine HD5.mono ?_
        rintro e1 w1 hpo
        obtain ⟨rfl, hk1⟩ := bad_panic hpo (KP.refl P (W.drew.alloc ez))
        exact ⟨rfl, lpo_err (fr5.kp hk1)⟩
    · go_simp
      refine HD0.mono ?_
      rintro e1 w1 hpo
      obtain ⟨rfl, hk1⟩ := bad_panic hpo (KP.refl P W.drew)
      exact ⟨rfl, lpo_err (fr0.kp hk1)⟩
    · go_simp
      refine hK.out _ _ sb_5 (fun hHeld => ?_)
      clear hK K
      try simp only [Act.put, List.setIfInBounds_toArray, List.set_cons_zero, List.set_cons_succ]
      refine wpAnyH_ready (rs := [1, 3]) (by kernel_rfl) (by simp) (AllReadyH.cons rfl (fun K hK => ?_) (AllReadyH.cons rfl (fun K hK => ?_) AllReadyH.nil))
      · go_simp
        refine hK.out _ _ hHeld (fun hHeld => ?_)
        clear hK K
        try simp only [Act.put, List.setIfInBounds_toArray, List.set_cons_zero, List.set_cons_succ]
        refine wpAnyH_take (i := 4) (v := .int .i64 (s.kids.length : Int)) rfl (by kernel_rfl) (by kernel_rfl) (by kernel_rfl) (fun _ _ _ h => h) (Or.inl ⟨by rfl, ?_⟩) (by assumption) ?_
        · intro V hSV
          try dsimp only at hSV
          go_simp
          try with_reducible rfl
          try (intro h9; exfalso; omega)
        try simp only [Act.put, List.setIfInBounds_toArray, List.set_cons_zero, List.set_cons_succ]
        refine wpAnyH_ready (rs := [3]) (by kernel_rfl) (by simp) (AllReadyH.cons rfl (fun K hK => ?_) AllReadyH.nil)
        go_simp
        refine HD5.mono ?_
        rintro e1 w1 hpo
        obtain ⟨rfl, hk1⟩ := bad_panic hpo (KP.refl P (W.drew.alloc ez))
        exact ⟨rfl, lpo_err (fr5.kp hk1)⟩
      · go_simp
        refine HD5.mono ?_
        rintro e1 w1 hpo
        obtain ⟨rfl, hk1⟩ := bad_panic hpo (KP.refl P (W.drew.alloc ez))
        exact ⟨rfl, lpo_err (fr5.kp hk1)⟩
  · have HD0 := hEx W.drew p _ hp0 hx
    have HD5 := hEx (W.drew.alloc ez) p _ hp5 hx
    have hcond : (decide (s.kids.length = 0) && q.sees [[102, 111, 114]]) = false := by
      cases hc : (decide (s.kids.length = 0) && q.sees [[102, 111, 114]]) with
      | false => rfl
      | true => rw [hc] at hq; cases hq
    rw [hcond] at hq
    cases hq
    clear hEx hp0 hp5
    go_enter Tryz.func161, Tryz.ntmps161
    go_wp2_with fail
    refine wp_region_held_drew (S := fun V => V.cell? ⟨b, 0, none⟩ = some (pt P)) (by kernel_rfl) sb_0 (fun hHeld => ?_)
    refine wpAnyH_take (i := 0) (v := .pointer (some ⟨Eb, 3, none⟩)) rfl (by kernel_rfl) (by kernel_rfl) (by kernel_rfl) (fun _ _ _ h => h) (Or.inl ⟨by rfl, ?_⟩) (by assumption) ?_
    · intro V hSV
      try dsimp only at hSV
      go_simp
      try with_reducible rfl
      try (intro h9; exfalso; omega)
    try simp only [Act.put, List.setIfInBounds_toArray, List.set_cons_zero, List.set_cons_succ]
    refine wpAnyH_take (i := 2) (v := pt P) rfl (by kernel_rfl) (by kernel_rfl) (by kernel_rfl) (fun _ _ _ h => h) (Or.inl ⟨by rfl, ?_⟩) (by assumption) ?_
    · intro V hSV
      try dsimp only at hSV
      go_simp
      try with_reducible rfl
      try (intro h9; exfalso; omega)
    try simp only [Act.put, List.setIfInBounds_toArray, List.set_cons_zero, List.set_cons_succ]
    refine wpAnyH_ready (rs := [1, 3, 5]) (by kernel_rfl) (by simp) (AllReadyH.cons rfl (fun K hK => ?_) (AllReadyH.cons rfl (fun K hK => ?_) (AllReadyH.cons rfl (fun K hK => ?_) AllReadyH.nil)))
    · go_simp
      refine hK.out _ _ hHeld (fun hHeld => ?_)
      clear hK K
      try simp only [Act.put, List.setIfInBounds_toArray, List.set_cons_zero, List.set_cons_succ]
      refine wpAnyH_take (i := 4) (v := .int .i64 (s.kids.length : Int)) rfl (by kernel_rfl) (by kernel_rfl) (by kernel_rfl) (fun _ _ _ h => h) (Or.inl ⟨by rfl, ?_⟩) (by assumption) ?_
      · intro V hSV
        try dsimp only at hSV
        go_simp
        try with_reducible rfl
        try (intro h9; exfalso; omega)
      try simp only [Act.put, List.setIfInBounds_toArray, List.set_cons_zero, List.set_cons_succ]
      refine wpAnyH_ready (rs := [3, 5]) (by kernel_rfl) (by simp) (AllReadyH.cons rfl (fun K hK => ?_) (AllReadyH.cons rfl (fun K hK => ?_) AllReadyH.nil))
      · go_simp
        refine HD0.mono ?_
        rintro e1 w1 ⟨v1, rfl, ⟨cy, rfl, hy1⟩, hp1, hk1⟩
        have fr1 := fr0.kp hk1
        have bu1 := bu0.keep (hk1.blk _ (Nat.lt_of_lt_of_le hE fr0.size) hPE) (fun g _ hg2 => hk1.blk g hg2 (by omega))
        have kb1 := fun g (hg : (Value.slice ak s.kids.length ck).ownBlock = some g) => (bu0.kr.lt g hg).2
        have nb1 := fun g (hg : nv.ownBlock = some g) => (bu0.nr.lt g hg).2
        have hyS : ExA w1 (fun g => lo ≤ g ∧ (Value.slice ak s.kids.length ck).ownBlock ≠ some g ∧ nv.ownBlock ≠ some g) y cy := hy1.mono (fun g hg _ => ⟨Nat.le_trans fr0.size hg, fun e => absurd hg (Nat.not_le.2 (kb1 g e)), fun e => absurd hg (Nat.not_le.2 (nb1 g e))⟩)
        have sb_1 := HSb.out w1 fr1
        have c3_1 : w1.cell? ⟨Eb, 3, none⟩ = some (.slice ak s.kids.length ck) := bu1.ev.five.2.2.2.1
        have frx := fr1.al ez
        have bux := bu1.al ez (Nat.lt_of_lt_of_le hE fr1.size)
        have sb_x := HSb.out _ frx
        have hz : (w1.alloc ez).heap[w1.heap.size]? = some ez := heap_alloc_new w1 ez
        have frX := frx
        have buX := bux
        have hyX : ExA (w1.alloc ez) (fun g => lo ≤ g ∧ (Value.slice ak s.kids.length ck).ownBlock ≠ some g ∧ nv.ownBlock ≠ some g) y cy := hyS.keep (fun g _ hg2 => heap_al w1 _ g hg2) (fun _ hg _ => hg)
        have hpX := hp1.up (alB w1 ez)
        have c3_x : (w1.alloc ez).cell? ⟨Eb, 3, none⟩ = some (.slice ak s.kids.length ck) := bux.ev.five.2.2.2.1
        clear hy1 hk1 kb1 nb1
        refine hK.out _ _ sb_1 (fun hHeld => ?_)
        clear hK K
        try simp only [Act.put, List.setIfInBounds_toArray, List.set_cons_zero, List.set_cons_succ]
        refine wpAnyH_ready (rs := [5]) (by kernel_rfl) (by simp) (AllReadyH.cons rfl (fun K hK => ?_) AllReadyH.nil)
        go_simp
        refine hK.out _ _ sb_x (fun hHeld => ?_)
        clear hK K
        try simp only [Act.put, List.setIfInBounds_toArray, List.set_cons_zero, List.set_cons_succ]
        have hnews : ∀ (j : Nat) (u : Value), [.int .i64 0, .int .i64 0, .string ⟨#[]⟩, .slice none 0 0, .slice none 0 0][j]? = some u → (w1.alloc ez).cell? ((⟨w1.heap.size, 0, none⟩ : Addr).add j) = some u := fun j u hu => World.news_of_block hz j u hu
        have hl5 : cy.length = 5 := hyX.len
        have hsX := frX.size
        have HX : Hid (FrL P lo Eb W0 (w1.alloc ez) ∧ BuB lo Eb (w1.alloc ez) s (.slice ak s.kids.length ck) nv vs ∧ ExA (w1.alloc ez) (fun g => lo ≤ g ∧ (Value.slice ak s.kids.length ck).ownBlock ≠ some g ∧ nv.ownBlock ≠ some g) y cy ∧ PsA P T (w1.alloc ez) q ∧ cy.length = 5) := ⟨frX, buX, hyX, hpX, hl5⟩
        clear frX buX hyX hpX hl5 fr1 bu1 hyS hp1 hz
        refine wpAnyH_ready (rs := [6]) (by kernel_rfl) (by simp) (AllReadyH.cons rfl (fun K hK => ?_) AllReadyH.nil)
        refine step_append_lies (w1.alloc ez) (by rfl) (Operand.tmp 3) (Operand.tmp 7) 39 (by rfl) lo 41 i0 (.agg #[.int .i64 0, .int .i64 0, .string ⟨#[]⟩, .slice none 0 0, .slice none 0 0]) 5 80 Tryz.underlying39 hi hz0 hz1 hz2 rfl (by decide) (.slice ak s.kids.length ck) s.kids.length vs.flatten (by rfl) HX.out.2.1.kr ⟨w1.heap.size, 0, none⟩ 1 1 [.int .i64 0, .int .i64 0, .string ⟨#[]⟩, .slice none 0 0, .slice none 0 0] (by rfl) rfl hnews (by simp [Value.oneCell']) (by decide) (by unfold maxLen; omega) (by omega) hsX (w1.alloc ez).heap.size rfl ?_
        intro g' cap' w2 hown2 hgrow hat hltg
        have hlen5 : (vs.flatten).length = s.kids.length * 5 := HX.out.2.1.kr.1
        have hE2 : w2.heap[Eb]? = (w1.alloc ez).heap[Eb]? := hgrow.block Eb (Nat.lt_of_lt_of_le hE hsX) (fun e => absurd (HX.out.2.1.kr.lt Eb e.symm).1 (by omega))
        have ev2 := HX.out.2.1.ev.keep hE2
        have hgE : g' ≠ Eb := by
          rcases hat with h1 | h1
          · have := (HX.out.2.1.kr.lt _ h1).1; omega
          · omega
        have th2 : w2.there g' (s.kids.length * 5) 5 := own_cells hown2 _ _ (by rw [List.length_append, hlen5]; simp)
        have sb_2 : w2.cell? ⟨b, 0, none⟩ = some (pt P) := by
          rw [← HSb.out (w1.alloc ez) HX.out.1]
          exact World.cell?_of_block (hgrow.block b (Nat.lt_of_lt_of_le hbl hsX) (fun e => absurd (HX.out.2.1.kr.lt b e.symm).1 (by omega)))
        have c3_2 : w2.cell? ⟨Eb, 3, none⟩ = some (.slice ak s.kids.length ck) := ev2.five.2.2.2.1
        have f3_2 : w2.frozen? ⟨Eb, 3, none⟩ = false := ev2.fz 3
        have hcA : cy.toArray.size = 5 := HX.out.2.2.2.2
        have hiA : (Tryz.prog.info? 41).map (·.size) = some cy.toArray.size := by rw [hcA]; exact szE
        have hoA := all_oneCell_toArray HX.out.2.2.1.one
        refine hK.out _ _ sb_2 (fun hHeld => ?_)
        clear hK K
        try simp only [Act.put, List.setIfInBounds_toArray, List.set_cons_zero, List.set_cons_succ]
        refine wpAnyH_take (i := 7) (v := .pointer (some ⟨g', s.kids.length * 5, none⟩)) rfl (by kernel_rfl) (by kernel_rfl) (by kernel_rfl) (fun _ _ _ h => h) (Or.inl ⟨by rfl, ?_⟩) (by assumption) ?_
        · intro V hSV
          try dsimp only at hSV
          go_simp
          try with_reducible rfl
          try (intro h9; exfalso; omega)
        try simp only [Act.put, List.setIfInBounds_toArray, List.set_cons_zero, List.set_cons_succ]
        refine wpAnyH_take (i := 9) (v := .pointer (some ⟨Eb, 3, none⟩)) rfl (by kernel_rfl) (by kernel_rfl) (by kernel_rfl) (fun _ _ _ h => h) (Or.inl ⟨by rfl, ?_⟩) (by assumption) ?_
        · intro V hSV
          try dsimp only at hSV
          go_simp
          try with_reducible rfl
          try (intro h9; exfalso; omega)
        try simp only [Act.put, List.setIfInBounds_toArray, List.set_cons_zero, List.set_cons_succ]
        refine wpAnyH_ready (rs := [8, 10]) (by kernel_rfl) (by simp) (AllReadyH.cons rfl (fun K hK => ?_) (AllReadyH.cons rfl (fun K hK => ?_) AllReadyH.nil))
        · refine step_call (by rfl) ?_
          refine wp_store_mid 41 (Operand.tmp 9) (Operand.tmp 5) rfl g' (s.kids.length * 5) cy.toArray rfl rfl (by rw [hcA]; exact th2) hiA hoA ?_
          have ev3 : EV (w2.setCells g' (s.kids.length * 5) cy) Eb _ := ev2.keep (heap_sets g' cy _ w2 Eb (fun e => hgE e.symm))
          have c3_3 := ev3.five.2.2.2.1
          have f3_3 := ev3.fz 3
          have sb_3 : (w2.setCells g' (s.kids.length * 5) cy).cell? ⟨b, 0, none⟩ = some (pt P) := (World.cell?_of_block (heap_sets g' cy _ w2 b (fun e => by rcases hat with h1 | h1; (· have := (HX.out.2.1.kr.lt _ h1).1; omega); (· omega)))).trans sb_2
          refine hK.out _ _ sb_3 (fun hHeld => ?_)
          clear hK K
          try simp only [Act.put, List.setIfInBounds_toArray, List.set_cons_zero, List.set_cons_succ]
          refine wpAnyH_ready (rs := [10]) (by kernel_rfl) (by simp) (AllReadyH.cons rfl (fun K hK => ?_) AllReadyH.nil)
          go_simp
          have HP := BuB.push (Wf := ((w2.setCells g' (s.kids.length * 5) cy).setCell ⟨Eb, 3, none⟩ (.slice (some ⟨g', 0, none⟩) (s.kids.length + 1) cap'))) HX.out.2.1 hE HX.out.2.2.1 hgrow hat HX.out.1 (own_heap (stored_cells' hown2 hlen5 HX.out.2.2.2.2) fun g hg => Below.heap_setCell _ ⟨Eb, 3, none⟩ _ g (fun e => hgE ((ob_eq hg).trans e))) (ev3.put3 _) (fun g h1 h2 => (Below.heap_setCell _ ⟨Eb, 3, none⟩ _ g h1).trans (heap_sets g' cy _ w2 g h2)) (os_sets _ _ _ _) (tape_sets _ _ _ _) (out_sets _ _ _ _) (by rw [size_set, size_sets]; exact Nat.le_refl _)
          have sb_4 := HSb.out _ HP.2.1
          refine hK.out _ _ sb_4 (fun hHeld => ?_)
          clear hK K
          try simp only [Act.put, List.setIfInBounds_toArray, List.set_cons_zero, List.set_cons_succ]
          refine wpAnyH_done (by kernel_rfl) ?_ _
          try simp only [Act.put, List.setIfInBounds_toArray, List.set_cons_zero, List.set_cons_succ]
          have hpF : PsA P T ((w2.setCells g' (s.kids.length * 5) cy).setCell ⟨Eb, 3, none⟩ (.slice (some ⟨g', 0, none⟩) (s.kids.length + 1) cap')) q := HX.out.2.2.2.1.keep (HP.2.2 P hP (fun e => hPE e.symm)) (HP.2.2 T hT hTE)
          have HLI : Hid (LI P T lo Eb W0 ((w2.setCells g' (s.kids.length * 5) cy).setCell ⟨Eb, 3, none⟩ (.slice (some ⟨g', 0, none⟩) (s.kids.length + 1) cap')) { s with kids := s.kids ++ [y] } q) := ⟨hpF, HP.2.1, _, _, _, HP.1⟩
          have c3_5 := HP.1.ev.five.2.2.2.1
          have sb_5' := HSb.out _ HP.2.1
          clear HP HX hown2 hgrow hat hltg hnews hsX hE2 ev2 th2 sb_2 c3_2 f3_2 hiA hoA ev3 sb_3 sb_4
          generalize ((w2.setCells g' (s.kids.length * 5) cy).setCell ⟨Eb, 3, none⟩ (.slice (some ⟨g', 0, none⟩) (s.kids.length + 1) cap')) = Wf at *
          by_cases hn0 : s.kids.length = 0
          · have hb9 : q.sees [[102, 111, 114]] = false := by simpa [hn0] using hcond
            rw [hn0] at c3_5
            have HPa := passSign_no hpF (x := [102, 111, 114]) hb9
            go_wp2_with (go_at_call 77; refine HPa.mono ?_; rintro e9 w9 ⟨rfl, hk9, hp9⟩)
            go_end0
            exact ⟨rfl, (li_liv hP hE hPE).kp _ _ _ _ _ HLI.out hk9 hp9⟩
          · have hq9 : (((s.kids.length + 1 : Nat) : Int) == (1 : Int)) = false := by rw [beq_eq_false_iff_ne]; omega
            go_wp2
            go_end0
            exact ⟨rfl, HLI.out⟩
        · go_simp
          have ev3 := ev2.put3 (.slice (some ⟨g', 0, none⟩) (s.kids.length + 1) cap')
          have sb_3 : (w2.setCell ⟨Eb, 3, none⟩ (.slice (some ⟨g', 0, none⟩) (s.kids.length + 1) cap')).cell? ⟨b, 0, none⟩ = some (pt P) := (World.cell?_of_block (Below.heap_setCell _ ⟨Eb, 3, none⟩ _ b hbE)).trans sb_2
          have ow3 : (w2.setCell ⟨Eb, 3, none⟩ (.slice (some ⟨g', 0, none⟩) (s.kids.length + 1) cap')).ownsRow _ _ _ _ _ _ := own_heap hown2 fun g hg => Below.heap_setCell _ ⟨Eb, 3, none⟩ _ g (fun e => hgE ((ob_eq hg).trans e))
          have th3 := own_cells ow3 (s.kids.length * 5) 5 (by rw [List.length_append, hlen5]; simp)
          refine hK.out _ _ sb_3 (fun hHeld => ?_)
          clear hK K
          try simp only [Act.put, List.setIfInBounds_toArray, List.set_cons_zero, List.set_cons_succ]
          refine wpAnyH_ready (rs := [8]) (by kernel_rfl) (by simp) (AllReadyH.cons rfl (fun K hK => ?_) AllReadyH.nil)
          refine step_call (by rfl) ?_
          refine wp_store_mid 41 (Operand.tmp 9) (Operand.tmp 5) rfl g' (s.kids.length * 5) cy.toArray rfl rfl (by rw [hcA]; exact th3) hiA hoA ?_
          have HP := BuB.push (Wf := ((w2.setCell ⟨Eb, 3, none⟩ (.slice (some ⟨g', 0, none⟩) (s.kids.length + 1) cap')).setCells g' (s.kids.length * 5) cy)) HX.out.2.1 hE HX.out.2.2.1 hgrow hat HX.out.1 (stored_cells' ow3 hlen5 HX.out.2.2.2.2) (ev3.keep (heap_sets g' cy _ _ Eb (fun e => hgE e.symm))) (fun g h1 h2 => (heap_sets g' cy _ _ g h2).trans (Below.heap_setCell _ ⟨Eb, 3, none⟩ _ g h1)) (os_sets _ _ _ _) (tape_sets _ _ _ _) (out_sets _ _ _ _) (by rw [size_sets, size_set]; exact Nat.le_refl _)
          have sb_4 := HSb.out _ HP.2.1
          refine hK.out _ _ sb_4 (fun hHeld => ?_)
          clear hK K
          try simp only [Act.put, List.setIfInBounds_toArray, List.set_cons_zero, List.set_cons_succ]
          refine wpAnyH_done (by kernel_rfl) ?_ _
          try simp only [Act.put, List.setIfInBounds_toArray, List.set_cons_zero, List.set_cons_succ]
          have hpF : PsA P T ((w2.setCell ⟨Eb, 3, none⟩ (.slice (some ⟨g', 0, none⟩) (s.kids.length + 1) cap')).setCells g' (s.kids.length * 5) cy) q := HX.out.2.2.2.1.keep (HP.2.2 P hP (fun e => hPE e.symm)) (HP.2.2 T hT hTE)
          have HLI : Hid (LI P T lo Eb W0 ((w2.setCell ⟨Eb, 3, none⟩ (.slice (some ⟨g', 0, none⟩) (s.kids.length + 1) cap')).setCells g' (s.kids.length * 5) cy) { s with kids := s.kids ++ [y] } q) := ⟨hpF, HP.2.1, _, _, _, HP.1⟩
          have c3_5 := HP.1.ev.five.2.2.2.1
          have sb_5' := HSb.out _ HP.2.1
          clear HP HX hown2 hgrow hat hltg hnews hsX hE2 ev2 th2 sb_2 c3_2 f3_2 hiA hoA ev3 sb_3 sb_4
          generalize ((w2.setCell ⟨Eb, 3, none⟩ (.slice (some ⟨g', 0, none⟩) (s.kids.length + 1) cap')).setCells g' (s.kids.length * 5) cy) = Wf at *
          by_cases hn0 : s.kids.length = 0
          · have hb9 : q.sees [[102, 111, 114]] = false := by simpa [hn0] using hcond
            rw [hn0] at c3_5
            have HPa := passSign_no hpF (x := [102, 111, 114]) hb9
            go_wp2_with (go_at_call 77; refine HPa.mono ?_; rintro e9 w9 ⟨rfl, hk9, hp9⟩)
            go_end0
            exact ⟨rfl, (li_liv hP hE hPE).kp _ _ _ _ _ HLI.out hk9 hp9⟩
          · have hq9 : (((s.kids.length + 1 : Nat) : Int) == (1 : Int)) = false := by rw [beq_eq_false_iff_ne]; omega
            go_wp2
            go_end0
            exact ⟨rfl, HLI.out⟩
      · go_simp
        refine hK.out _ _ sb_5 (fun hHeld => ?_)
        clear hK K
        try simp only [Act.put, List.setIfInBounds_toArray, List.set_cons_zero, List.set_cons_succ]
        refine wpAnyH_ready (rs := [3]) (by kernel_rfl) (by simp) (AllReadyH.cons rfl (fun K hK => ?_) AllReadyH.nil)
        go_simp
        refine HD5.mono ?_
        rintro e1 w1 ⟨v1, rfl, ⟨cy, rfl, hy1⟩, hp1, hk1⟩
        have fr1 := fr5.kp hk1
        have bu1 := bu5.keep (hk1.blk _ (Nat.lt_of_lt_of_le hE fr5.size) hPE) (fun g _ hg2 => hk1.blk g hg2 (by omega))
        have kb1 := fun g (hg : (Value.slice ak s.kids.length ck).ownBlock = some g) => (bu5.kr.lt g hg).2
        have nb1 := fun g (hg : nv.ownBlock = some g) => (bu5.nr.lt g hg).2
        have hyS : ExA w1 (fun g => lo ≤ g ∧ (Value.slice ak s.kids.length ck).ownBlock ≠ some g ∧ nv.ownBlock ≠ some g) y cy := hy1.mono (fun g hg _ => ⟨Nat.le_trans fr5.size hg, fun e => absurd hg (Nat.not_le.2 (kb1 g e)), fun e => absurd hg (Nat.not_le.2 (nb1 g e))⟩)
        have sb_1 := HSb.out w1 fr1
        have c3_1 : w1.cell? ⟨Eb, 3, none⟩ = some (.slice ak s.kids.length ck) := bu1.ev.five.2.2.2.1
        have hz : w1.heap[W.heap.size]? = some ez := hk1.heapEq hz5 (by have := fr0.size; show ¬ W.heap.size = P; have h0 : lo ≤ W.heap.size := this; omega)
        have frX := fr1
        have buX := bu1
        have hyX := hyS
        have hpX := hp1
        clear hy1 hk1 kb1 nb1
        refine hK.out _ _ sb_1 (fun hHeld => ?_)
        clear hK K
        try simp only [Act.put, List.setIfInBounds_toArray, List.set_cons_zero, List.set_cons_succ]
        have hnews : ∀ (j : Nat) (u : Value), [.int .i64 0, .int .i64 0, .string ⟨#[]⟩, .slice none 0 0, .slice none 0 0][j]? = some u → w1.cell? ((⟨W.heap.size, 0, none⟩ : Addr).add j) = some u := fun j u hu => World.news_of_block hz j u hu
        have hl5 : cy.length = 5 := hyX.len
        have hsX := frX.size
        have HX : Hid (FrL P lo Eb W0 w1 ∧ BuB lo Eb w1 s (.slice ak s.kids.length ck) nv vs ∧ ExA w1 (fun g => lo ≤ g ∧ (Value.slice ak s.kids.length ck).ownBlock ≠ some g ∧ nv.ownBlock ≠ some g) y cy ∧ PsA P T w1 q ∧ cy.length = 5) := ⟨frX, buX, hyX, hpX, hl5⟩
        clear frX buX hyX hpX hl5 fr1 bu1 hyS hp1 hz
        refine wpAnyH_ready (rs := [6]) (by kernel_rfl) (by simp) (AllReadyH.cons rfl (fun K hK => ?_) AllReadyH.nil)
        refine step_append_lies w1 (by rfl) (Operand.tmp 3) (Operand.tmp 7) 39 (by rfl) lo 41 i0 (.agg #[.int .i64 0, .int .i64 0, .string ⟨#[]⟩, .slice none 0 0, .slice none 0 0]) 5 80 Tryz.underlying39 hi hz0 hz1 hz2 rfl (by decide) (.slice ak s.kids.length ck) s.kids.length vs.flatten (by rfl) HX.out.2.1.kr ⟨W.heap.size, 0, none⟩ 1 1 [.int .i64 0, .int .i64 0, .string ⟨#[]⟩, .slice none 0 0, .slice none 0 0] (by rfl) rfl hnews (by simp [Value.oneCell']) (by decide) (by unfold maxLen; omega) (by omega) hsX w1.heap.size rfl ?_
        intro g' cap' w2 hown2 hgrow hat hltg
        have hlen5 : (vs.flatten).length = s.kids.length * 5 := HX.out.2.1.kr.1
        have hE2 : w2.heap[Eb]? = w1.heap[Eb]? := hgrow.block Eb (Nat.lt_of_lt_of_le hE hsX) (fun e => absurd (HX.out.2.1.kr.lt Eb e.symm).1 (by omega))
        have ev2 := HX.out.2.1.ev.keep hE2
        have hgE : g' ≠ Eb := by
          rcases hat with h1 | h1
          · have := (HX.out.2.1.kr.lt _ h1).1; omega
          · omega
        have th2 : w2.there g' (s.kids.length * 5) 5 := own_cells hown2 _ _ (by rw [List.length_append, hlen5]; simp)
        have sb_2 : w2.cell? ⟨b, 0, none⟩ = some (pt P) := by
          rw [← HSb.out w1 HX.out.1]
          exact World.cell?_of_block (hgrow.block b (Nat.lt_of_lt_of_le hbl hsX) (fun e => absurd (HX.out.2.1.kr.lt b e.symm).1 (by omega)))
        have c3_2 : w2.cell? ⟨Eb, 3, none⟩ = some (.slice ak s.kids.length ck) := ev2.five.2.2.2.1
        have f3_2 : w2.frozen? ⟨Eb, 3, none⟩ = false := ev2.fz 3
        have hcA : cy.toArray.size = 5 := HX.out.2.2.2.2
        have hiA : (Tryz.prog.info? 41).map (·.size) = some cy.toArray.size := by rw [hcA]; exact szE
        have hoA := all_oneCell_toArray HX.out.2.2.1.one
        refine hK.out _ _ sb_2 (fun hHeld => ?_)
        clear hK K
        try simp only [Act.put, List.setIfInBounds_toArray, List.set_cons_zero, List.set_cons_succ]
        refine wpAnyH_take (i := 7) (v := .pointer (some ⟨g', s.kids.length * 5, none⟩)) rfl (by kernel_rfl) (by kernel_rfl) (by kernel_rfl) (fun _ _ _ h => h) (Or.inl ⟨by rfl, ?_⟩) (by assumption) ?_
        · intro V hSV
          try dsimp only at hSV
          go_simp
          try with_reducible rfl
          try (intro h9; exfalso; omega)
        try simp only [Act.put, List.setIfInBounds_toArray, List.set_cons_zero, List.set_cons_succ]
        refine wpAnyH_take (i := 9) (v := .pointer (some ⟨Eb, 3, none⟩)) rfl (by kernel_rfl) (by kernel_rfl) (by kernel_rfl) (fun _ _ _ h => h) (Or.inl ⟨by rfl, ?_⟩) (by assumption) ?_
        · intro V hSV
          try dsimp only at hSV
          go_simp
          try with_reducible rfl
          try (intro h9; exfalso; omega)
        try simp only [Act.put, List.setIfInBounds_toArray, List.set_cons_zero, List.set_cons_succ]
        refine wpAnyH_ready (rs := [8, 10]) (by kernel_rfl) (by simp) (AllReadyH.cons rfl (fun K hK => ?_) (AllReadyH.cons rfl (fun K hK => ?_) AllReadyH.nil))
        · refine step_call (by rfl) ?_
          refine wp_store_mid 41 (Operand.tmp 9) (Operand.tmp 5) rfl g' (s.kids.length * 5) cy.toArray rfl rfl (by rw [hcA]; exact th2) hiA hoA ?_
          have ev3 : EV (w2.setCells g' (s.kids.length * 5) cy) Eb _ := ev2.keep (heap_sets g' cy _ w2 Eb (fun e => hgE e.symm))
          have c3_3 := ev3.five.2.2.2.1
          have f3_3 := ev3.fz 3
          have sb_3 : (w2.setCells g' (s.kids.length * 5) cy).cell? ⟨b, 0, none⟩ = some (pt P) := (World.cell?_of_block (heap_sets g' cy _ w2 b (fun e => by rcases hat with h1 | h1; (· have := (HX.out.2.1.kr.lt _ h1).1; omega); (· omega)))).trans sb_2
          refine hK.out _ _ sb_3 (fun hHeld => ?_)
          clear hK K
          try simp only [Act.put, List.setIfInBounds_toArray, List.set_cons_zero, List.set_cons_succ]
          refine wpAnyH_ready (rs := [10]) (by kernel_rfl) (by simp) (AllReadyH.cons rfl (fun K hK => ?_) AllReadyH.nil)
          go_simp
          have HP := BuB.push (Wf := ((w2.setCells g' (s.kids.length * 5) cy).setCell ⟨Eb, 3, none⟩ (.slice (some ⟨g', 0, none⟩) (s.kids.length + 1) cap'))) HX.out.2.1 hE HX.out.2.2.1 hgrow hat HX.out.1 (own_heap (stored_cells' hown2 hlen5 HX.out.2.2.2.2) fun g hg => Below.heap_setCell _ ⟨Eb, 3, none⟩ _ g (fun e => hgE ((ob_eq hg).trans e))) (ev3.put3 _) (fun g h1 h2 => (Below.heap_setCell _ ⟨Eb, 3, none⟩ _ g h1).trans (heap_sets g' cy _ w2 g h2)) (os_sets _ _ _ _) (tape_sets _ _ _ _) (out_sets _ _ _ _) (by rw [size_set, size_sets]; exact Nat.le_refl _)
          have sb_4 := HSb.out _ HP.2.1
          refine hK.out _ _ sb_4 (fun hHeld => ?_)
          clear hK K
          try simp only [Act.put, List.setIfInBounds_toArray, List.set_cons_zero, List.set_cons_succ]
          refine wpAnyH_done (by kernel_rfl) ?_ _
          try simp only [Act.put, List.setIfInBounds_toArray, List.set_cons_zero, List.set_cons_succ]
          have hpF : PsA P T ((w2.setCells g' (s.kids.length * 5) cy).setCell ⟨Eb, 3, none⟩ (.slice (some ⟨g', 0, none⟩) (s.kids.length + 1) cap')) q := HX.out.2.2.2.1.keep (HP.2.2 P hP (fun e => hPE e.symm)) (HP.2.2 T hT hTE)
          have HLI : Hid (LI P T lo Eb W0 ((w2.setCells g' (s.kids.length * 5) cy).setCell ⟨Eb, 3, none⟩ (.slice (some ⟨g', 0, none⟩) (s.kids.length + 1) cap')) { s with kids := s.kids ++ [y] } q) := ⟨hpF, HP.2.1, _, _, _, HP.1⟩
          have c3_5 := HP.1.ev.five.2.2.2.1
          have sb_5' := HSb.out _ HP.2.1
          clear HP HX hown2 hgrow hat hltg hnews hsX hE2 ev2 th2 sb_2 c3_2 f3_2 hiA hoA ev3 sb_3 sb_4
          generalize ((w2.setCells g' (s.kids.length * 5) cy).setCell ⟨Eb, 3, none⟩ (.slice (some ⟨g', 0, none⟩) (s.kids.length + 1) cap')) = Wf at *
          by_cases hn0 : s.kids.length = 0
          · have hb9 : q.sees [[102, 111, 114]] = false := by simpa [hn0] using hcond
            rw [hn0] at c3_5
            have HPa := passSign_no hpF (x := [102, 111, 114]) hb9
            go_wp2_with (go_at_call 77; refine HPa.mono ?_; rintro e9 w9 ⟨rfl, hk9, hp9⟩)
            go_end0
            exact ⟨rfl, (li_liv hP hE hPE).kp _ _ _ _ _ HLI.out hk9 hp9⟩
          · have hq9 : (((s.kids.length + 1 : Nat) : Int) == (1 : Int)) = false := by rw [beq_eq_false_iff_ne]; omega
            go_wp2
            go_end0
            exact ⟨rfl, HLI.out⟩
        · go_simp
          have ev3 := ev2.put3 (.slice (some ⟨g', 0, none⟩) (s.kids.length + 1) cap')
          have sb_3 : (w2.setCell ⟨Eb, 3, none⟩ (.slice (some ⟨g', 0, none⟩) (s.kids.length + 1) cap')).cell? ⟨b, 0, none⟩ = some (pt P) := (World.cell?_of_block (Below.heap_setCell _ ⟨Eb, 3, none⟩ _ b hbE)).trans sb_2
          have ow3 : (w2.setCell ⟨Eb, 3, none⟩ (.slice (some ⟨g', 0, none⟩) (s.kids.length + 1) cap')).ownsRow _ _ _ _ _ _ := own_heap hown2 fun g hg => Below.heap_setCell _ ⟨Eb, 3, none⟩ _ g (fun e => hgE ((ob_eq hg).trans e))
          have th3 := own_cells ow3 (s.kids.length * 5) 5 (by rw [List.length_append, hlen5]; simp)
          refine hK.out _ _ sb_3 (fun hHeld => ?_)
          clear hK K
          try simp only [Act.put, List.setIfInBounds_toArray, List.set_cons_zero, List.set_cons_succ]
          refine wpAnyH_ready (rs := [8]) (by kernel_rfl) (by simp) (AllReadyH.cons rfl (fun K hK => ?_) AllReadyH.nil)
          refine step_call (by rfl) ?_
          refine wp_store_mid 41 (Operand.tmp 9) (Operand.tmp 5) rfl g' (s.kids.length * 5) cy.toArray rfl rfl (by rw [hcA]; exact th3) hiA hoA ?_
          have HP := BuB.push (Wf := ((w2.setCell ⟨Eb, 3, none⟩ (.slice (some ⟨g', 0, none⟩) (s.kids.length + 1) cap')).setCells g' (s.kids.length * 5) cy)) HX.out.2.1 hE HX.out.2.2.1 hgrow hat HX.out.1 (stored_cells' ow3 hlen5 HX.out.2.2.2.2) (ev3.keep (heap_sets g' cy _ _ Eb (fun e => hgE e.symm))) (fun g h1 h2 => (heap_sets g' cy _ _ g h2).trans (Below.heap_setCell _ ⟨Eb, 3, none⟩ _ g h1)) (os_sets _ _ _ _) (tape_sets _ _ _ _) (out_sets _ _ _ _) (by rw [size_sets, size_set]; exact Nat.le_refl _)
          have sb_4 := HSb.out _ HP.2.1
          refine hK.out _ _ sb_4 (fun hHeld => ?_)
          clear hK K
          try simp only [Act.put, List.setIfInBounds_toArray, List.set_cons_zero, List.set_cons_succ]
          refine wpAnyH_done (by kernel_rfl) ?_ _
          try simp only [Act.put, List.setIfInBounds_toArray, List.set_cons_zero, List.set_cons_succ]
          have hpF : PsA P T ((w2.setCell ⟨Eb, 3, none⟩ (.slice (some ⟨g', 0, none⟩) (s.kids.length + 1) cap')).setCells g' (s.kids.length * 5) cy) q := HX.out.2.2.2.1.keep (HP.2.2 P hP (fun e => hPE e.symm)) (HP.2.2 T hT hTE)
          have HLI : Hid (LI P T lo Eb W0 ((w2.setCell ⟨Eb, 3, none⟩ (.slice (some ⟨g', 0, none⟩) (s.kids.length + 1) cap')).setCells g' (s.kids.length * 5) cy) { s with kids := s.kids ++ [y] } q) := ⟨hpF, HP.2.1, _, _, _, HP.1⟩
          have c3_5 := HP.1.ev.five.2.2.2.1
          have sb_5' := HSb.out _ HP.2.1
          clear HP HX hown2 hgrow hat hltg hnews hsX hE2 ev2 th2 sb_2 c3_2 f3_2 hiA hoA ev3 sb_3 sb_4
          generalize ((w2.setCell ⟨Eb, 3, none⟩ (.slice (some ⟨g', 0, none⟩) (s.kids.length + 1) cap')).setCells g' (s.kids.length * 5) cy) = Wf at *
          by_cases hn0 : s.kids.length = 0
          · have hb9 : q.sees [[102, 111, 114]] = false := by simpa [hn0] using hcond
            rw [hn0] at c3_5
            have HPa := passSign_no hpF (x := [102, 111, 114]) hb9
            go_wp2_with (go_at_call 77; refine HPa.mono ?_; rintro e9 w9 ⟨rfl, hk9, hp9⟩)
            go_end0
            exact ⟨rfl, (li_liv hP hE hPE).kp _ _ _ _ _ HLI.out hk9 hp9⟩
          · have hq9 : (((s.kids.length + 1 : Nat) : Int) == (1 : Int)) = false := by rw [beq_eq_false_iff_ne]; omega
            go_wp2
            go_end0
            exact ⟨rfl, HLI.out⟩
    · go_simp
      refine HD0.mono ?_
      rintro e1 w1 ⟨v1, rfl, ⟨cy, rfl, hy1⟩, hp1, hk1⟩
      have fr1 := fr0.kp hk1
      have bu1 := bu0.keep (hk1.blk _ (Nat.lt_of_lt_of_le hE fr0.size) hPE) (fun g _ hg2 => hk1.blk g hg2 (by omega))
      have kb1 := fun g (hg : (Value.slice ak s.kids.length ck).ownBlock = some g) => (bu0.kr.lt g hg).2
      have nb1 := fun g (hg : nv.ownBlock = some g) => (bu0.nr.lt g hg).2
      have hyS : ExA w1 (fun g => lo ≤ g ∧ (Value.slice ak s.kids.length ck).ownBlock ≠ some g ∧ nv.ownBlock ≠ some g) y cy := hy1.mono (fun g hg _ => ⟨Nat.le_trans fr0.size hg, fun e => absurd hg (Nat.not_le.2 (kb1 g e)), fun e => absurd hg (Nat.not_le.2 (nb1 g e))⟩)
      have sb_1 := HSb.out w1 fr1
      have c3_1 : w1.cell? ⟨Eb, 3, none⟩ = some (.slice ak s.kids.length ck) := bu1.ev.five.2.2.2.1
      have frx := fr1.al ez
      have bux := bu1.al ez (Nat.lt_of_lt_of_le hE fr1.size)
      have sb_x := HSb.out _ frx
      have hz : (w1.alloc ez).heap[w1.heap.size]? = some ez := heap_alloc_new w1 ez
      have frX := frx
      have buX := bux
      have hyX : ExA (w1.alloc ez) (fun g => lo ≤ g ∧ (Value.slice ak s.kids.length ck).ownBlock ≠ some g ∧ nv.ownBlock ≠ some g) y cy := hyS.keep (fun g _ hg2 => heap_al w1 _ g hg2) (fun _ hg _ => hg)
      have hpX := hp1.up (alB w1 ez)
      have c3_x : (w1.alloc ez).cell? ⟨Eb, 3, none⟩ = some (.slice ak s.kids.length ck) := bux.ev.five.2.2.2.1
      clear hy1 hk1 kb1 nb1
      refine hK.out _ _ sb_1 (fun hHeld => ?_)
      clear hK K
      try simp only [Act.put, List.setIfInBounds_toArray, List.set_cons_zero, List.set_cons_succ]
      refine wpAnyH_ready (rs := [1, 5]) (by kernel_rfl) (by simp) (AllReadyH.cons rfl (fun K hK => ?_) (AllReadyH.cons rfl (fun K hK => ?_) AllReadyH.nil))
      · go_simp
        refine hK.out _ _ hHeld (fun hHeld => ?_)
        clear hK K
        try simp only [Act.put, List.setIfInBounds_toArray, List.set_cons_zero, List.set_cons_succ]
        refine wpAnyH_take (i := 4) (v := .int .i64 (s.kids.length : Int)) rfl (by kernel_rfl) (by kernel_rfl) (by kernel_rfl) (fun _ _ _ h => h) (Or.inl ⟨by rfl, ?_⟩) (by assumption) ?_
        · intro V hSV
          try dsimp only at hSV
          go_simp
          try with_reducible rfl
          try (intro h9; exfalso; omega)
        try simp only [Act.put, List.setIfInBounds_toArray, List.set_cons_zero, List.set_cons_succ]
        refine wpAnyH_ready (rs := [5]) (by kernel_rfl) (by simp) (AllReadyH.cons rfl (fun K hK => ?_) AllReadyH.nil)
        go_simp
        refine hK.out _ _ sb_x (fun hHeld => ?_)
        clear hK K
        try simp only [Act.put, List.setIfInBounds_toArray, List.set_cons_zero, List.set_cons_succ]
        have hnews : ∀ (j : Nat) (u : Value), [.int .i64 0, .int .i64 0, .string ⟨#[]⟩, .slice none 0 0, .slice none 0 0][j]? = some u → (w1.alloc ez).cell? ((⟨w1.heap.size, 0, none⟩ : Addr).add j) = some u := fun j u hu => World.news_of_block hz j u hu
        have hl5 : cy.length = 5 := hyX.len
        have hsX := frX.size
        have HX : Hid (FrL P lo Eb W0 (w1.alloc ez) ∧ BuB lo Eb (w1.alloc ez) s (.slice ak s.kids.length ck) nv vs ∧ ExA (w1.alloc ez) (fun g => lo ≤ g ∧ (Value.slice ak s.kids.length ck).ownBlock ≠ some g ∧ nv.ownBlock ≠ some g) y cy ∧ PsA P T (w1.alloc ez) q ∧ cy.length = 5) := ⟨frX, buX, hyX, hpX, hl5⟩
        clear frX buX hyX hpX hl5 fr1 bu1 hyS hp1 hz
        refine wpAnyH_ready (rs := [6]) (by kernel_rfl) (by simp) (AllReadyH.cons rfl (fun K hK => ?_) AllReadyH.nil)
        refine step_append_lies (w1.alloc ez) (by rfl) (Operand.tmp 3) (Operand.tmp 7) 39 (by rfl) lo 41 i0 (.agg #[.int .i64 0, .int .i64 0, .string ⟨#[]⟩, .slice none 0 0, .slice none 0 0]) 5 80 Tryz.underlying39 hi hz0 hz1 hz2 rfl (by decide) (.slice ak s.kids.length ck) s.kids.length vs.flatten (by rfl) HX.out.2.1.kr ⟨w1.heap.size, 0, none⟩ 1 1 [.int .i64 0, .int .i64 0, .string ⟨#[]⟩, .slice none 0 0, .slice none 0 0] (by rfl) rfl hnews (by simp [Value.oneCell']) (by decide) (by unfold maxLen; omega) (by omega) hsX (w1.alloc ez).heap.size rfl ?_
        intro g' cap' w2 hown2 hgrow hat hltg
        have hlen5 : (vs.flatten).length = s.kids.length * 5 := HX.out.2.1.kr.1
        have hE2 : w2.heap[Eb]? = (w1.alloc ez).heap[Eb]? := hgrow.block Eb (Nat.lt_of_lt_of_le hE hsX) (fun e => absurd (HX.out.2.1.kr.lt Eb e.symm).1 (by omega))
        have ev2 := HX.out.2.1.ev.keep hE2
        have hgE : g' ≠ Eb := by
          rcases hat with h1 | h1
          · have := (HX.out.2.1.kr.lt _ h1).1; omega
          · omega
        have th2 : w2.there g' (s.kids.length * 5) 5 := own_cells hown2 _ _ (by rw [List.length_append, hlen5]; simp)
        have sb_2 : w2.cell? ⟨b, 0, none⟩ = some (pt P) := by
          rw [← HSb.out (w1.alloc ez) HX.out.1]
          exact World.cell?_of_block (hgrow.block b (Nat.lt_of_lt_of_le hbl hsX) (fun e => absurd (HX.out.2.1.kr.lt b e.symm).1 (by omega)))
        have c3_2 : w2.cell? ⟨Eb, 3, none⟩ = some (.slice ak s.kids.length ck) := ev2.five.2.2.2.1
        have f3_2 : w2.frozen? ⟨Eb, 3, none⟩ = false := ev2.fz 3
        have hcA : cy.toArray.size = 5 := HX.out.2.2.2.2
        have hiA : (Tryz.prog.info? 41).map (·.size) = some cy.toArray.size := by rw [hcA]; exact szE
        have hoA := all_oneCell_toArray HX.out.2.2.1.one
        refine hK.out _ _ sb_2 (fun hHeld => ?_)
        clear hK K
        try simp only [Act.put, List.setIfInBounds_toArray, List.set_cons_zero, List.set_cons_succ]
        refine wpAnyH_take (i := 7) (v := .pointer (some ⟨g', s.kids.length * 5, none⟩)) rfl (by kernel_rfl) (by kernel_rfl) (by kernel_rfl) (fun _ _ _ h => h) (Or.inl ⟨by rfl, ?_⟩) (by assumption) ?_
        · intro V hSV
          try dsimp only at hSV
          go_simp
          try with_reducible rfl
          try (intro h9; exfalso; omega)
        try simp only [Act.put, List.setIfInBounds_toArray, List.set_cons_zero, List.set_cons_succ]
        refine wpAnyH_take (i := 9) (v := .pointer (some ⟨Eb, 3, none⟩)) rfl (by kernel_rfl) (by kernel_rfl) (by kernel_rfl) (fun _ _ _ h => h) (Or.inl ⟨by rfl, ?_⟩) (by assumption) ?_
        · intro V hSV
          try dsimp only at hSV
          go_simp
          try with_reducible rfl
          try (intro h9; exfalso; omega)
        try simp only [Act.put, List.setIfInBounds_toArray, List.set_cons_zero, List.set_cons_succ]
        refine wpAnyH_ready (rs := [8, 10]) (by kernel_rfl) (by simp) (AllReadyH.cons rfl (fun K hK => ?_) (AllReadyH.cons rfl (fun K hK => ?_) AllReadyH.nil))
        · refine step_call (by rfl) ?_
          refine wp_store_mid 41 (Operand.tmp 9) (Operand.tmp 5) rfl g' (s.kids.length * 5) cy.toArray rfl rfl (by rw [hcA]; exact th2) hiA hoA ?_
          have ev3 : EV (w2.setCells g' (s.kids.length * 5) cy) Eb _ := ev2.keep (heap_sets g' cy _ w2 Eb (fun e => hgE e.symm))
          have c3_3 := ev3.five.2.2.2.1
          have f3_3 := ev3.fz 3
          have sb_3 : (w2.setCells g' (s.kids.length * 5) cy).cell? ⟨b, 0, none⟩ = some (pt P) := (World.cell?_of_block (heap_sets g' cy _ w2 b (fun e => by rcases hat with h1 | h1; (· have := (HX.out.2.1.kr.lt _ h1).1; omega); (· omega)))).trans sb_2
          refine hK.out _ _ sb_3 (fun hHeld => ?_)
          clear hK K
          try simp only [Act.put, List.setIfInBounds_toArray, List.set_cons_zero, List.set_cons_succ]
          refine wpAnyH_ready (rs := [10]) (by kernel_rfl) (by simp) (AllReadyH.cons rfl (fun K hK => ?_) AllReadyH.nil)
          go_simp
          have HP := BuB.push (Wf := ((w2.setCells g' (s.kids.length * 5) cy).setCell ⟨Eb, 3, none⟩ (.slice (some ⟨g', 0, none⟩) (s.kids.length + 1) cap'))) HX.out.2.1 hE HX.out.2.2.1 hgrow hat HX.out.1 (own_heap (stored_cells' hown2 hlen5 HX.out.2.2.2.2) fun g hg => Below.heap_setCell _ ⟨Eb, 3, none⟩ _ g (fun e => hgE ((ob_eq hg).trans e))) (ev3.put3 _) (fun g h1 h2 => (Below.heap_setCell _ ⟨Eb, 3, none⟩ _ g h1).trans (heap_sets g' cy _ w2 g h2)) (os_sets _ _ _ _) (tape_sets _ _ _ _) (out_sets _ _ _ _) (by rw [size_set, size_sets]; exact Nat.le_refl _)
          have sb_4 := HSb.out _ HP.2.1
          refine hK.out _ _ sb_4 (fun hHeld => ?_)
          clear hK K
          try simp only [Act.put, List.setIfInBounds_toArray, List.set_cons_zero, List.set_cons_succ]
          refine wpAnyH_done (by kernel_rfl) ?_ _
          try simp only [Act.put, List.setIfInBounds_toArray, List.set_cons_zero, List.set_cons_succ]
          have hpF : PsA P T ((w2.setCells g' (s.kids.length * 5) cy).setCell ⟨Eb, 3, none⟩ (.slice (some ⟨g', 0, none⟩) (s.kids.length + 1) cap')) q := HX.out.2.2.2.1.keep (HP.2.2 P hP (fun e => hPE e.symm)) (HP.2.2 T hT hTE)
          have HLI : Hid (LI P T lo Eb W0 ((w2.setCells g' (s.kids.length * 5) cy).setCell ⟨Eb, 3, none⟩ (.slice (some ⟨g', 0, none⟩) (s.kids.length + 1) cap')) { s with kids := s.kids ++ [y] } q) := ⟨hpF, HP.2.1, _, _, _, HP.1⟩
          have c3_5 := HP.1.ev.five.2.2.2.1
          have sb_5' := HSb.out _ HP.2.1
          clear HP HX hown2 hgrow hat hltg hnews hsX hE2 ev2 th2 sb_2 c3_2 f3_2 hiA hoA ev3 sb_3 sb_4
          generalize ((w2.setCells g' (s.kids.length * 5) cy).setCell ⟨Eb, 3, none⟩ (.slice (some ⟨g', 0, none⟩) (s.kids.length + 1) cap')) = Wf at *
          by_cases hn0 : s.kids.length = 0
          · have hb9 : q.sees [[102, 111, 114]] = false := by simpa [hn0] using hcond
            rw [hn0] at c3_5
            have HPa := passSign_no hpF (x := [102, 111, 114]) hb9
            go_wp2_with (go_at_call 77; refine HPa.mono ?_; rintro e9 w9 ⟨rfl, hk9, hp9⟩)
            go_end0
            exact ⟨rfl, (li_liv hP hE hPE).kp _ _ _ _ _ HLI.out hk9 hp9⟩
          · have hq9 : (((s.kids.length + 1 : Nat) : Int) == (1 : Int)) = false := by rw [beq_eq_false_iff_ne]; omega
            go_wp2
            go_end0
            exact ⟨rfl, HLI.out⟩
        · go_simp
          have ev3 := ev2.put3 (.slice (some ⟨g', 0, none⟩) (s.kids.length + 1) cap')
          have sb_3 : (w2.setCell ⟨Eb, 3, none⟩ (.slice (some ⟨g', 0, none⟩) (s.kids.length + 1) cap')).cell? ⟨b, 0, none⟩ = some (pt P) := (World.cell?_of_block (Below.heap_setCell _ ⟨Eb, 3, none⟩ _ b hbE)).trans sb_2
          have ow3 : (w2.setCell ⟨Eb, 3, none⟩ (.slice (some ⟨g', 0, none⟩) (s.kids.length + 1) cap')).ownsRow _ _ _ _ _ _ := own_heap hown2 fun g hg => Below.heap_setCell _ ⟨Eb, 3, none⟩ _ g (fun e => hgE ((ob_eq hg).trans e))
          have th3 := own_cells ow3 (s.kids.length * 5) 5 (by rw [List.length_append, hlen5]; simp)
          refine hK.out _ _ sb_3 (fun hHeld => ?_)
          clear hK K
          try simp only [Act.put, List.setIfInBounds_toArray, List.set_cons_zero, List.set_cons_succ]
          refine wpAnyH_ready (rs := [8]) (by kernel_rfl) (by simp) (AllReadyH.cons rfl (fun K hK => ?_) AllReadyH.nil)
          refine step_call (by rfl) ?_
          refine wp_store_mid 41 (Operand.tmp 9) (Operand.tmp 5) rfl g' (s.kids.length * 5) cy.toArray rfl rfl (by rw [hcA]; exact th3) hiA hoA ?_
          have HP := BuB.push (Wf := ((w2.setCell ⟨Eb, 3, none⟩ (.slice (some ⟨g', 0, none⟩) (s.kids.length + 1) cap')).setCells g' (s.kids.length * 5) cy)) HX.out.2.1 hE HX.out.2.2.1 hgrow hat HX.out.1 (stored_cells' ow3 hlen5 HX.out.2.2.2.2) (ev3.keep (heap_sets g' cy _ _ Eb (fun e => hgE e.symm))) (fun g h1 h2 => (heap_sets g' cy _ _ g h2).trans (Below.heap_setCell _ ⟨Eb, 3, none⟩ _ g h1)) (os_sets _ _ _ _) (tape_sets _ _ _ _) (out_sets _ _ _ _) (by rw [size_sets, size_set]; exact Nat.le_refl _)
          have sb_4 := HSb.out _ HP.2.1
          refine hK.out _ _ sb_4 (fun hHeld => ?_)
          clear hK K
          try simp only [Act.put, List.setIfInBounds_toArray, List.set_cons_zero, List.set_cons_succ]
          refine wpAnyH_done (by kernel_rfl) ?_ _
          try simp only [Act.put, List.setIfInBounds_toArray, List.set_cons_zero, List.set_cons_succ]
          have hpF : PsA P T ((w2.setCell ⟨Eb, 3, none⟩ (.slice (some ⟨g', 0, none⟩) (s.kids.length + 1) cap')).setCells g' (s.kids.length * 5) cy) q := HX.out.2.2.2.1.keep (HP.2.2 P hP (fun e => hPE e.symm)) (HP.2.2 T hT hTE)
          have HLI : Hid (LI P T lo Eb W0 ((w2.setCell ⟨Eb, 3, none⟩ (.slice (some ⟨g', 0, none⟩) (s.kids.length + 1) cap')).setCells g' (s.kids.length * 5) cy) { s with kids := s.kids ++ [y] } q) := ⟨hpF, HP.2.1, _, _, _, HP.1⟩
          have c3_5 := HP.1.ev.five.2.2.2.1
          have sb_5' := HSb.out _ HP.2.1
          clear HP HX hown2 hgrow hat hltg hnews hsX hE2 ev2 th2 sb_2 c3_2 f3_2 hiA hoA ev3 sb_3 sb_4
          generalize ((w2.setCell ⟨Eb, 3, none⟩ (.slice (some ⟨g', 0, none⟩) (s.kids.length + 1) cap')).setCells g' (s.kids.length * 5) cy) = Wf at *
          by_cases hn0 : s.kids.length = 0
          · have hb9 : q.sees [[102, 111, 114]] = false := by simpa [hn0] using hcond
            rw [hn0] at c3_5
            have HPa := passSign_no hpF (x := [102, 111, 114]) hb9
            go_wp2_with (go_at_call 77; refine HPa.mono ?_; rintro e9 w9 ⟨rfl, hk9, hp9⟩)
            go_end0
            exact ⟨rfl, (li_liv hP hE hPE).kp _ _ _ _ _ HLI.out hk9 hp9⟩
          · have hq9 : (((s.kids.length + 1 : Nat) : Int) == (1 : Int)) = false := by rw [beq_eq_false_iff_ne]; omega
            go_wp2
            go_end0
            exact ⟨rfl, HLI.out⟩
      · go_simp
        refine hK.out _ _ sb_x (fun hHeld => ?_)
        clear hK K
        try simp only [Act.put, List.setIfInBounds_toArray, List.set_cons_zero, List.set_cons_succ]
        refine wpAnyH_ready (rs := [1]) (by kernel_rfl) (by simp) (AllReadyH.cons rfl (fun K hK => ?_) AllReadyH.nil)
        go_simp
        refine hK.out _ _ hHeld (fun hHeld => ?_)
        clear hK K
        try simp only [Act.put, List.setIfInBounds_toArray, List.set_cons_zero, List.set_cons_succ]
        refine wpAnyH_take (i := 4) (v := .int .i64 (s.kids.length : Int)) rfl (by kernel_rfl) (by kernel_rfl) (by kernel_rfl) (fun _ _ _ h => h) (Or.inl ⟨by rfl, ?_⟩) (by assumption) ?_
        · intro V hSV
          try dsimp only at hSV
          go_simp
          try with_reducible rfl
          try (intro h9; exfalso; omega)
        try simp only [Act.put, List.setIfInBounds_toArray, List.set_cons_zero, List.set_cons_succ]
        have hnews : ∀ (j : Nat) (u : Value), [.int .i64 0, .int .i64 0, .string ⟨#[]⟩, .slice none 0 0, .slice none 0 0][j]? = some u → (w1.alloc ez).cell? ((⟨w1.heap.size, 0, none⟩ : Addr).add j) = some u := fun j u hu => World.news_of_block hz j u hu
        have hl5 : cy.length = 5 := hyX.len
        have hsX := frX.size
        have HX : Hid (FrL P lo Eb W0 (w1.alloc ez) ∧ BuB lo Eb (w1.alloc ez) s (.slice ak s.kids.length ck) nv vs ∧ ExA (w1.alloc ez) (fun g => lo ≤ g ∧ (Value.slice ak s.kids.length ck).ownBlock ≠ some g ∧ nv.ownBlock ≠ some g) y cy ∧ PsA P T (w1.alloc ez) q ∧ cy.length = 5) := ⟨frX, buX, hyX, hpX, hl5⟩
        clear frX buX hyX hpX hl5 fr1 bu1 hyS hp1 hz
        refine wpAnyH_ready (rs := [6]) (by kernel_rfl) (by simp) (AllReadyH.cons rfl (fun K hK => ?_) AllReadyH.nil)
        refine step_append_lies (w1.alloc ez) (by rfl) (Operand.tmp 3) (Operand.tmp 7) 39 (by rfl) lo 41 i0 (.agg #[.int .i64 0, .int .i64 0, .string ⟨#[]⟩, .slice none 0 0, .slice none 0 0]) 5 80 Tryz.underlying39 hi hz0 hz1 hz2 rfl (by decide) (.slice ak s.kids.length ck) s.kids.length vs.flatten (by rfl) HX.out.2.1.kr ⟨w1.heap.size, 0, none⟩ 1 1 [.int .i64 0, .int .i64 0, .string ⟨#[]⟩, .slice none 0 0, .slice none 0 0] (by rfl) rfl hnews (by simp [Value.oneCell']) (by decide) (by unfold maxLen; omega) (by omega) hsX (w1.alloc ez).heap.size rfl ?_
        intro g' cap' w2 hown2 hgrow hat hltg
        have hlen5 : (vs.flatten).length = s.kids.length * 5 := HX.out.2.1.kr.1
        have hE2 : w2.heap[Eb]? = (w1.alloc ez).heap[Eb]? := hgrow.block Eb (Nat.lt_of_lt_of_le hE hsX) (fun e => absurd (HX.out.2.1.kr.lt Eb e.symm).1 (by omega))
        have ev2 := HX.out.2.1.ev.keep hE2
        have hgE : g' ≠ Eb := by
          rcases hat with h1 | h1
          · have := (HX.out.2.1.kr.lt _ h1).1; omega
          · omega
        have th2 : w2.there g' (s.kids.length * 5) 5 := own_cells hown2 _ _ (by rw [List.length_append, hlen5]; simp)
        have sb_2 : w2.cell? ⟨b, 0, none⟩ = some (pt P) := by
          rw [← HSb.out (w1.alloc ez) HX.out.1]
          exact World.cell?_of_block (hgrow.block b (Nat.lt_of_lt_of_le hbl hsX) (fun e => absurd (HX.out.2.1.kr.lt b e.symm).1 (by omega)))
        have c3_2 : w2.cell? ⟨Eb, 3, none⟩ = some (.slice ak s.kids.length ck) := ev2.five.2.2.2.1
        have f3_2 : w2.frozen? ⟨Eb, 3, none⟩ = false := ev2.fz 3
        have hcA : cy.toArray.size = 5 := HX.out.2.2.2.2
        have hiA : (Tryz.prog.info? 41).map (·.size) = some cy.toArray.size := by rw [hcA]; exact szE
        have hoA := all_oneCell_toArray HX.out.2.2.1.one
        refine hK.out _ _ sb_2 (fun hHeld => ?_)
        clear hK K
        try simp only [Act.put, List.setIfInBounds_toArray, List.set_cons_zero, List.set_cons_succ]
        refine wpAnyH_take (i := 7) (v := .pointer (some ⟨g', s.kids.length * 5, none⟩)) rfl (by kernel_rfl) (by kernel_rfl) (by kernel_rfl) (fun _ _ _ h => h) (Or.inl ⟨by rfl, ?_⟩) (by assumption) ?_
        · intro V hSV
          try dsimp only at hSV
          go_simp
          try with_reducible rfl
          try (intro h9; exfalso; omega)
        try simp only [Act.put, List.setIfInBounds_toArray, List.set_cons_zero, List.set_cons_succ]
        refine wpAnyH_take (i := 9) (v := .pointer (some ⟨Eb, 3, none⟩)) rfl (by kernel_rfl) (by kernel_rfl) (by kernel_rfl) (fun _ _ _ h => h) (Or.inl ⟨by rfl, ?_⟩) (by assumption) ?_
        · intro V hSV
          try dsimp only at hSV
          go_simp
          try with_reducible rfl
          try (intro h9; exfalso; omega)
        try simp only [Act.put, List.setIfInBounds_toArray, List.set_cons_zero, List.set_cons_succ]
        refine wpAnyH_ready (rs := [8, 10]) (by kernel_rfl) (by simp) (AllReadyH.cons rfl (fun K hK => ?_) (AllReadyH.cons rfl (fun K hK => ?_) AllReadyH.nil))
        · refine step_call (by rfl) ?_
          refine wp_store_mid 41 (Operand.tmp 9) (Operand.tmp 5) rfl g' (s.kids.length * 5) cy.toArray rfl rfl (by rw [hcA]; exact th2) hiA hoA ?_
          have ev3 : EV (w2.setCells g' (s.kids.length * 5) cy) Eb _ := ev2.keep (heap_sets g' cy _ w2 Eb (fun e => hgE e.symm))
          have c3_3 := ev3.five.2.2.2.1
          have f3_3 := ev3.fz 3
          have sb_3 : (w2.setCells g' (s.kids.length * 5) cy).cell? ⟨b, 0, none⟩ = some (pt P) := (World.cell?_of_block (heap_sets g' cy _ w2 b (fun e => by rcases hat with h1 | h1; (· have := (HX.out.2.1.kr.lt _ h1).1; omega); (· omega)))).trans sb_2
          refine hK.out _ _ sb_3 (fun hHeld => ?_)
          clear hK K
          try simp only [Act.put, List.setIfInBounds_toArray, List.set_cons_zero, List.set_cons_succ]
          refine wpAnyH_ready (rs := [10]) (by kernel_rfl) (by simp) (AllReadyH.cons rfl (fun K hK => ?_) AllReadyH.nil)
          go_simp
          have HP := BuB.push (Wf := ((w2.setCells g' (s.kids.length * 5) cy).setCell ⟨Eb, 3, none⟩ (.slice (some ⟨g', 0, none⟩) (s.kids.length + 1) cap'))) HX.out.2.1 hE HX.out.2.2.1 hgrow hat HX.out.1 (own_heap (stored_cells' hown2 hlen5 HX.out.2.2.2.2) fun g hg => Below.heap_setCell _ ⟨Eb, 3, none⟩ _ g (fun e => hgE ((ob_eq hg).trans e))) (ev3.put3 _) (fun g h1 h2 => (Below.heap_setCell _ ⟨Eb, 3, none⟩ _ g h1).trans (heap_sets g' cy _ w2 g h2)) (os_sets _ _ _ _) (tape_sets _ _ _ _) (out_sets _ _ _ _) (by rw [size_set, size_sets]; exact Nat.le_refl _)
          have sb_4 := HSb.out _ HP.2.1
          refine hK.out _ _ sb_4 (fun hHeld => ?_)
          clear hK K
          try simp only [Act.put, List.setIfInBounds_toArray, List.set_cons_zero, List.set_cons_succ]
          refine wpAnyH_done (by kernel_rfl) ?_ _
          try simp only [Act.put, List.setIfInBounds_toArray, List.set_cons_zero, List.set_cons_succ]
          have hpF : PsA P T ((w2.setCells g' (s.kids.length * 5) cy).setCell ⟨Eb, 3, none⟩ (.slice (some ⟨g', 0, none⟩) (s.kids.length + 1) cap')) q := HX.out.2.2.2.1.keep (HP.2.2 P hP (fun e => hPE e.symm)) (HP.2.2 T hT hTE)
          have HLI : Hid (LI P T lo Eb W0 ((w2.setCells g' (s.kids.length * 5) cy).setCell ⟨Eb, 3, none⟩ (.slice (some ⟨g', 0, none⟩) (s.kids.length + 1) cap')) { s with kids := s.kids ++ [y] } q) := ⟨hpF, HP.2.1, _, _, _, HP.1⟩
          have c3_5 := HP.1.ev.five.2.2.2.1
          have sb_5' := HSb.out _ HP.2.1
          clear HP HX hown2 hgrow hat hltg hnews hsX hE2 ev2 th2 sb_2 c3_2 f3_2 hiA hoA ev3 sb_3 sb_4
          generalize ((w2.setCells g' (s.kids.length * 5) cy).setCell ⟨Eb, 3, none⟩ (.slice (some ⟨g', 0, none⟩) (s.kids.length + 1) cap')) = Wf at *
          by_cases hn0 : s.kids.length = 0
          · have hb9 : q.sees [[102, 111, 114]] = false := by simpa [hn0] using hcond
            rw [hn0] at c3_5
            have HPa := passSign_no hpF (x := [102, 111, 114]) hb9
            go_wp2_with (go_at_call 77; refine HPa.mono ?_; rintro e9 w9 ⟨rfl, hk9, hp9⟩)
            go_end0
            exact ⟨rfl, (li_liv hP hE hPE).kp _ _ _ _ _ HLI.out hk9 hp9⟩
          · have hq9 : (((s.kids.length + 1 : Nat) : Int) == (1 : Int)) = false := by rw [beq_eq_false_iff_ne]; omega
            go_wp2
            go_end0
            exact ⟨rfl, HLI.out⟩
        · go_simp
          have ev3 := ev2.put3 (.slice (some ⟨g', 0, none⟩) (s.kids.length + 1) cap')
          have sb_3 : (w2.setCell ⟨Eb, 3, none⟩ (.slice (some ⟨g', 0, none⟩) (s.kids.length + 1) cap')).cell? ⟨b, 0, none⟩ = some (pt P) := (World.cell?_of_block (Below.heap_setCell _ ⟨Eb, 3, none⟩ _ b hbE)).trans sb_2
          have ow3 : (w2.setCell ⟨Eb, 3, none⟩ (.slice (some ⟨g', 0, none⟩) (s.kids.length + 1) cap')).ownsRow _ _ _ _ _ _ := own_heap hown2 fun g hg => Below.heap_setCell _ ⟨Eb, 3, none⟩ _ g (fun e => hgE ((ob_eq hg).trans e))
          have th3 := own_cells ow3 (s.kids.length * 5) 5 (by rw [List.length_append, hlen5]; simp)
          refine hK.out _ _ sb_3 (fun hHeld => ?_)
          clear hK K
          try simp only [Act.put, List.setIfInBounds_toArray, List.set_cons_zero, List.set_cons_succ]
          refine wpAnyH_ready (rs := [8]) (by kernel_rfl) (by simp) (AllReadyH.cons rfl (fun K hK => ?_) AllReadyH.nil)
          refine step_call (by rfl) ?_
          refine wp_store_mid 41 (Operand.tmp 9) (Operand.tmp 5) rfl g' (s.kids.length * 5) cy.toArray rfl rfl (by rw [hcA]; exact th3) hiA hoA ?_
          have HP := BuB.push (Wf := ((w2.setCell ⟨Eb, 3, none⟩ (.slice (some ⟨g', 0, none⟩) (s.kids.length + 1) cap')).setCells g' (s.kids.length * 5) cy)) HX.out.2.1 hE HX.out.2.2.1 hgrow hat HX.out.1 (stored_cells' ow3 hlen5 HX.out.2.2.2.2) (ev3.keep (heap_sets g' cy _ _ Eb (fun e => hgE e.symm))) (fun g h1 h2 => (heap_sets g' cy _ _ g h2).trans (Below.heap_setCell _ ⟨Eb, 3, none⟩ _ g h1)) (os_sets _ _ _ _) (tape_sets _ _ _ _) (out_sets _ _ _ _) (by rw [size_sets, size_set]; exact Nat.le_refl _)
          have sb_4 := HSb.out _ HP.2.1
          refine hK.out _ _ sb_4 (fun hHeld => ?_)
          clear hK K
          try simp only [Act.put, List.setIfInBounds_toArray, List.set_cons_zero, List.set_cons_succ]
          refine wpAnyH_done (by kernel_rfl) ?_ _
          try simp only [Act.put, List.setIfInBounds_toArray, List.set_cons_zero, List.set_cons_succ]
          have hpF : PsA P T ((w2.setCell ⟨Eb, 3, none⟩ (.slice (some ⟨g', 0, none⟩) (s.kids.length + 1) cap')).setCells g' (s.kids.length * 5) cy) q := HX.out.2.2.2.1.keep (HP.2.2 P hP (fun e => hPE e.symm)) (HP.2.2 T hT hTE)
          have HLI : Hid (LI P T lo Eb W0 ((w2.setCell ⟨Eb, 3, none⟩ (.slice (some ⟨g', 0, none⟩) (s.kids.length + 1) cap')).setCells g' (s.kids.length * 5) cy) { s with kids := s.kids ++ [y] } q) := ⟨hpF, HP.2.1, _, _, _, HP.1⟩
          have c3_5 := HP.1.ev.five.2.2.2.1
          have sb_5' := HSb.out _ HP.2.1
          clear HP HX hown2 hgrow hat hltg hnews hsX hE2 ev2 th2 sb_2 c3_2 f3_2 hiA hoA ev3 sb_3 sb_4
          generalize ((w2.setCell ⟨Eb, 3, none⟩ (.slice (some ⟨g', 0, none⟩) (s.kids.length + 1) cap')).setCells g' (s.kids.length * 5) cy) = Wf at *
          by_cases hn0 : s.kids.length = 0
          · have hb9 : q.sees [[102, 111, 114]] = false := by simpa [hn0] using hcond
            rw [hn0] at c3_5
            have HPa := passSign_no hpF (x := [102, 111, 114]) hb9
            go_wp2_with (go_at_call 77; refine HPa.mono ?_; rintro e9 w9 ⟨rfl, hk9, hp9⟩)
            go_end0
            exact ⟨rfl, (li_liv hP hE hPE).kp _ _ _ _ _ HLI.out hk9 hp9⟩
          · have hq9 : (((s.kids.length + 1 : Nat) : Int) == (1 : Int)) = false := by rw [beq_eq_false_iff_ne]; omega
            go_wp2
            go_end0
            exact ⟨rfl, HLI.out⟩
    · go_simp
      refine hK.out _ _ sb_5 (fun hHeld => ?_)
      clear hK K
      try simp only [Act.put, List.setIfInBounds_toArray, List.set_cons_zero, List.set_cons_succ]
      refine wpAnyH_ready (rs := [1, 3]) (by kernel_rfl) (by simp) (AllReadyH.cons rfl (fun K hK => ?_) (AllReadyH.cons rfl (fun K hK => ?_) AllReadyH.nil))
      · go_simp
        refine hK.out _ _ hHeld (fun hHeld => ?_)
        clear hK K
        try simp only [Act.put, List.setIfInBounds_toArray, List.set_cons_zero, List.set_cons_succ]
        refine wpAnyH_take (i := 4) (v := .int .i64 (s.kids.length : Int)) rfl (by kernel_rfl) (by kernel_rfl) (by kernel_rfl) (fun _ _ _ h => h) (Or.inl ⟨by rfl, ?_⟩) (by assumption) ?_
        · intro V hSV
          try dsimp only at hSV
          go_simp
          try with_reducible rfl
          try (intro h9; exfalso; omega)
        try simp only [Act.put, List.setIfInBounds_toArray, List.set_cons_zero, List.set_cons_succ]
        refine wpAnyH_ready (rs := [3]) (by kernel_rfl) (by simp) (AllReadyH.cons rfl (fun K hK => ?_) AllReadyH.nil)
        go_simp
        refine HD5.mono ?_
        rintro e1 w1 ⟨v1, rfl, ⟨cy, rfl, hy1⟩, hp1, hk1⟩
        have fr1 := fr5.kp hk1
        have bu1 := bu5.keep (hk1.blk _ (Nat.lt_of_lt_of_le hE fr5.size) hPE) (fun g _ hg2 => hk1.blk g hg2 (by omega))
        have kb1 := fun g (hg : (Value.slice ak s.kids.length ck).ownBlock = some g) => (bu5.kr.lt g hg).2
        have nb1 := fun g (hg : nv.ownBlock = some g) => (bu5.nr.lt g hg).2
        have hyS : ExA w1 (fun g => lo ≤ g ∧ (Value.slice ak s.kids.length ck).ownBlock ≠ some g ∧ nv.ownBlock ≠ some g) y cy := hy1.mono (fun g hg _ => ⟨Nat.le_trans fr5.size hg, fun e => absurd hg (Nat.not_le.2 (kb1 g e)), fun e => absurd hg (Nat.not_le.2 (nb1 g e))⟩)
        have sb_1 := HSb.out w1 fr1
        have c3_1 : w1.cell? ⟨Eb, 3, none⟩ = some (.slice ak s.kids.length ck) := bu1.ev.five.2.2.2.1
        have hz : w1.heap[W.heap.size]? = some ez := hk1.heapEq hz5 (by have := fr0.size; show ¬ W.heap.size = P; have h0 : lo ≤ W.heap.size := this; omega)
        have frX := fr1
        have buX := bu1
        have hyX := hyS
        have hpX := hp1
        clear hy1 hk1 kb1 nb1
        refine hK.out _ _ sb_1 (fun hHeld => ?_)
        clear hK K
        try simp only [Act.put, List.setIfInBounds_toArray, List.set_cons_zero, List.set_cons_succ]
        have hnews : ∀ (j : Nat) (u : Value), [.int .i64 0, .int .i64 0, .string ⟨#[]⟩, .slice none 0 0, .slice none 0 0][j]? = some u → w1.cell? ((⟨W.heap.size, 0, none⟩ : Addr).add j) = some u := fun j u hu => World.news_of_block hz j u hu
        have hl5 : cy.length = 5 := hyX.len
        have hsX := frX.size
        have HX : Hid (FrL P lo Eb W0 w1 ∧ BuB lo Eb w1 s (.slice ak s.kids.length ck) nv vs ∧ ExA w1 (fun g => lo ≤ g ∧ (Value.slice ak s.kids.length ck).ownBlock ≠ some g ∧ nv.ownBlock ≠ some g) y cy ∧ PsA P T w1 q ∧ cy.length = 5) := ⟨frX, buX, hyX, hpX, hl5⟩
        clear frX buX hyX hpX hl5 fr1 bu1 hyS hp1 hz
        refine wpAnyH_ready (rs := [6]) (by kernel_rfl) (by simp) (AllReadyH.cons rfl (fun K hK => ?_) AllReadyH.nil)
        refine step_append_lies w1 (by rfl) (Operand.tmp 3) (Operand.tmp 7) 39 (by rfl) lo 41 i0 (.agg #[.int .i64 0, .int .i64 0, .string ⟨#[]⟩, .slice none 0 0, .slice none 0 0]) 5 80 Tryz.underlying39 hi hz0 hz1 hz2 rfl (by decide) (.slice ak s.kids.length ck) s.kids.length vs.flatten (by rfl) HX.out.2.1.kr ⟨W.heap.size, 0, none⟩ 1 1 [.int .i64 0, .int .i64 0, .string ⟨#[]⟩, .slice none 0 0, .slice none 0 0] (by rfl) rfl hnews (by simp [Value.oneCell']) (by decide) (by unfold maxLen; omega) (by omega) hsX w1.heap.size rfl ?_
        intro g' cap' w2 hown2 hgrow hat hltg
        have hlen5 : (vs.flatten).length = s.kids.length * 5 := HX.out.2.1.kr.1
        have hE2 : w2.heap[Eb]? = w1.heap[Eb]? := hgrow.block Eb (Nat.lt_of_lt_of_le hE hsX) (fun e => absurd (HX.out.2.1.kr.lt Eb e.symm).1 (by omega))
        have ev2 := HX.out.2.1.ev.keep hE2
        have hgE : g' ≠ Eb := by
          rcases hat with h1 | h1
          · have := (HX.out.2.1.kr.lt _ h1).1; omega
          · omega
        have th2 : w2.there g' (s.kids.length * 5) 5 := own_cells hown2 _ _ (by rw [List.length_append, hlen5]; simp)
        have sb_2 : w2.cell? ⟨b, 0, none⟩ = some (pt P) := by
          rw [← HSb.out w1 HX.out.1]
          exact World.cell?_of_block (hgrow.block b (Nat.lt_of_lt_of_le hbl hsX) (fun e => absurd (HX.out.2.1.kr.lt b e.symm).1 (by omega)))
        have c3_2 : w2.cell? ⟨Eb, 3, none⟩ = some (.slice ak s.kids.length ck) := ev2.five.2.2.2.1
        have f3_2 : w2.frozen? ⟨Eb, 3, none⟩ = false := ev2.fz 3
        have hcA : cy.toArray.size = 5 := HX.out.2.2.2.2
        have hiA : (Tryz.prog.info? 41).map (·.size) = some cy.toArray.size := by rw [hcA]; exact szE
        have hoA := all_oneCell_toArray HX.out.2.2.1.one
        refine hK.out _ _ sb_2 (fun hHeld => ?_)
        clear hK K
        try simp only [Act.put, List.setIfInBounds_toArray, List.set_cons_zero, List.set_cons_succ]
        refine wpAnyH_take (i := 7) (v := .pointer (some ⟨g', s.kids.length * 5, none⟩)) rfl (by kernel_rfl) (by kernel_rfl) (by kernel_rfl) (fun _ _ _ h => h) (Or.inl ⟨by rfl, ?_⟩) (by assumption) ?_
        · intro V hSV
          try dsimp only at hSV
          go_simp
          try with_reducible rfl
          try (intro h9; exfalso; omega)
        try simp only [Act.put, List.setIfInBounds_toArray, List.set_cons_zero, List.set_cons_succ]
        refine wpAnyH_take (i := 9) (v := .pointer (some ⟨Eb, 3, none⟩)) rfl (by kernel_rfl) (by kernel_rfl) (by kernel_rfl) (fun _ _ _ h => h) (Or.inl ⟨by rfl, ?_⟩) (by assumption) ?_
        · intro V hSV
          try dsimp only at hSV
          go_simp
          try with_reducible rfl
          try (intro h9; exfalso; omega)
        try simp only [Act.put, List.setIfInBounds_toArray, List.set_cons_zero, List.set_cons_succ]
        refine wpAnyH_ready (rs := [8, 10]) (by kernel_rfl) (by simp) (AllReadyH.cons rfl (fun K hK => ?_) (AllReadyH.cons rfl (fun K hK => ?_) AllReadyH.nil))
        · refine step_call (by rfl) ?_
          refine wp_store_mid 41 (Operand.tmp 9) (Operand.tmp 5) rfl g' (s.kids.length * 5) cy.toArray rfl rfl (by rw [hcA]; exact th2) hiA hoA ?_
          have ev3 : EV (w2.setCells g' (s.kids.length * 5) cy) Eb _ := ev2.keep (heap_sets g' cy _ w2 Eb (fun e => hgE e.symm))
          have c3_3 := ev3.five.2.2.2.1
          have f3_3 := ev3.fz 3
          have sb_3 : (w2.setCells g' (s.kids.length * 5) cy).cell? ⟨b, 0, none⟩ = some (pt P) := (World.cell?_of_block (heap_sets g' cy _ w2 b (fun e => by rcases hat with h1 | h1; (· have := (HX.out.2.1.kr.lt _ h1).1; omega); (· omega)))).trans sb_2
          refine hK.out _ _ sb_3 (fun hHeld => ?_)
          clear hK K
          try simp only [Act.put, List.setIfInBounds_toArray, List.set_cons_zero, List.set_cons_succ]
          refine wpAnyH_ready (rs := [10]) (by kernel_rfl) (by simp) (AllReadyH.cons rfl (fun K hK => ?_) AllReadyH.nil)
          go_simp
          have HP := BuB.push (Wf := ((w2.setCells g' (s.kids.length * 5) cy).setCell ⟨Eb, 3, none⟩ (.slice (some ⟨g', 0, none⟩) (s.kids.length + 1) cap'))) HX.out.2.1 hE HX.out.2.2.1 hgrow hat HX.out.1 (own_heap (stored_cells' hown2 hlen5 HX.out.2.2.2.2) fun g hg => Below.heap_setCell _ ⟨Eb, 3, none⟩ _ g (fun e => hgE ((ob_eq hg).trans e))) (ev3.put3 _) (fun g h1 h2 => (Below.heap_setCell _ ⟨Eb, 3, none⟩ _ g h1).trans (heap_sets g' cy _ w2 g h2)) (os_sets _ _ _ _) (tape_sets _ _ _ _) (out_sets _ _ _ _) (by rw [size_set, size_sets]; exact Nat.le_refl _)
          have sb_4 := HSb.out _ HP.2.1
          refine hK.out _ _ sb_4 (fun hHeld => ?_)
          clear hK K
          try simp only [Act.put, List.setIfInBounds_toArray, List.set_cons_zero, List.set_cons_succ]
          refine wpAnyH_done (by kernel_rfl) ?_ _
          try simp only [Act.put, List.setIfInBounds_toArray, List.set_cons_zero, List.set_cons_succ]
          have hpF : PsA P T ((w2.setCells g' (s.kids.length * 5) cy).setCell ⟨Eb, 3, none⟩ (.slice (some ⟨g', 0, none⟩) (s.kids.length + 1) cap')) q := HX.out.2.2.2.1.keep (HP.2.2 P hP (fun e => hPE e.symm)) (HP.2.2 T hT hTE)
          have HLI : Hid (LI P T lo Eb W0 ((w2.setCells g' (s.kids.length * 5) cy).setCell ⟨Eb, 3, none⟩ (.slice (some ⟨g', 0, none⟩) (s.kids.length + 1) cap')) { s with kids := s.kids ++ [y] } q) := ⟨hpF, HP.2.1, _, _, _, HP.1⟩
          have c3_5 := HP.1.ev.five.2.2.2.1
          have sb_5' := HSb.out _ HP.2.1
          clear HP HX hown2 hgrow hat hltg hnews hsX hE2 ev2 th2 sb_2 c3_2 f3_2 hiA hoA ev3 sb_3 sb_4
          generalize ((w2.setCells g' (s.kids.length * 5) cy).setCell ⟨Eb, 3, none⟩ (.slice (some ⟨g', 0, none⟩) (s.kids.length + 1) cap')) = Wf at *
          by_cases hn0 : s.kids.length = 0
          · have hb9 : q.sees [[102, 111, 114]] = false := by simpa [hn0] using hcond
            rw [hn0] at c3_5
            have HPa := passSign_no hpF (x := [102, 111, 114]) hb9
            go_wp2_with (go_at_call 77; refine HPa.mono ?_; rintro e9 w9 ⟨rfl, hk9, hp9⟩)
            go_end0
            exact ⟨rfl, (li_liv hP hE hPE).kp _ _ _ _ _ HLI.out hk9 hp9⟩
          · have hq9 : (((s.kids.length + 1 : Nat) : Int) == (1 : Int)) = false := by rw [beq_eq_false_iff_ne]; omega
            go_wp2
            go_end0
            exact ⟨rfl, HLI.out⟩
        · go_simp
          have ev3 := ev2.put3 (.slice (some ⟨g', 0, none⟩) (s.kids.length + 1) cap')
          have sb_3 : (w2.setCell ⟨Eb, 3, none⟩ (.slice (some ⟨g', 0, none⟩) (s.kids.length + 1) cap')).cell? ⟨b, 0, none⟩ = some (pt P) := (World.cell?_of_block (Below.heap_setCell _ ⟨Eb, 3, none⟩ _ b hbE)).trans sb_2
          have ow3 : (w2.setCell ⟨Eb, 3, none⟩ (.slice (some ⟨g', 0, none⟩) (s.kids.length + 1) cap')).ownsRow _ _ _ _ _ _ := own_heap hown2 fun g hg => Below.heap_setCell _ ⟨Eb, 3, none⟩ _ g (fun e => hgE ((ob_eq hg).trans e))
          have th3 := own_cells ow3 (s.kids.length * 5) 5 (by rw [List.length_append, hlen5]; simp)
          refine hK.out _ _ sb_3 (fun hHeld => ?_)
          clear hK K
          try simp only [Act.put, List.setIfInBounds_toArray, List.set_cons_zero, List.set_cons_succ]
          refine wpAnyH_ready (rs := [8]) (by kernel_rfl) (by simp) (AllReadyH.cons rfl (fun K hK => ?_) AllReadyH.nil)
          refine step_call (by rfl) ?_
          refine wp_store_mid 41 (Operand.tmp 9) (Operand.tmp 5) rfl g' (s.kids.length * 5) cy.toArray rfl rfl (by rw [hcA]; exact th3) hiA hoA ?_
          have HP := BuB.push (Wf := ((w2.setCell ⟨Eb, 3, none⟩ (.slice (some ⟨g', 0, none⟩) (s.kids.length + 1) cap')).setCells g' (s.kids.length * 5) cy)) HX.out.2.1 hE HX.out.2.2.1 hgrow hat HX.out.1 (stored_cells' ow3 hlen5 HX.out.2.2.2.2) (ev3.keep (heap_sets g' cy _ _ Eb (fun e => hgE e.symm))) (fun g h1 h2 => (heap_sets g' cy _ _ g h2).trans (Below.heap_setCell _ ⟨Eb, 3, none⟩ _ g h1)) (os_sets _ _ _ _) (tape_sets _ _ _ _) (out_sets _ _ _ _) (by rw [size_sets, size_set]; exact Nat.le_refl _)
          have sb_4 := HSb.out _ HP.2.1
          refine hK.out _ _ sb_4 (fun hHeld => ?_)
          clear hK K
          try simp only [Act.put, List.setIfInBounds_toArray, List.set_cons_zero, List.set_cons_succ]
          refine wpAnyH_done (by kernel_rfl) ?_ _
          try simp only [Act.put, List.setIfInBounds_toArray, List.set_cons_zero, List.set_cons_succ]
          have hpF : PsA P T ((w2.setCell ⟨Eb, 3, none⟩ (.slice (some ⟨g', 0, none⟩) (s.kids.length + 1) cap')).setCells g' (s.kids.length * 5) cy) q := HX.out.2.2.2.1.keep (HP.2.2 P hP (fun e => hPE e.symm)) (HP.2.2 T hT hTE)
          have HLI : Hid (LI P T lo Eb W0 ((w2.setCell ⟨Eb, 3, none⟩ (.slice (some ⟨g', 0, none⟩) (s.kids.length + 1) cap')).setCells g' (s.kids.length * 5) cy) { s with kids := s.kids ++ [y] } q) := ⟨hpF, HP.2.1, _, _, _, HP.1⟩
          have c3_5 := HP.1.ev.five.2.2.2.1
          have sb_5' := HSb.out _ HP.2.1
          clear HP HX hown2 hgrow hat hltg hnews hsX hE2 ev2 th2 sb_2 c3_2 f3_2 hiA hoA ev3 sb_3 sb_4
          generalize ((w2.setCell ⟨Eb, 3, none⟩ (.slice (some ⟨g', 0, none⟩) (s.kids.length + 1) cap')).setCells g' (s.kids.length * 5) cy) = Wf at *
          by_cases hn0 : s.kids.length = 0
          · have hb9 : q.sees [[102, 111, 114]] = false := by simpa [hn0] using hcond
            rw [hn0] at c3_5
            have HPa := passSign_no hpF (x := [102, 111, 114]) hb9
            go_wp2_with (go_at_call 77; refine HPa.mono ?_; rintro e9 w9 ⟨rfl, hk9, hp9⟩)
            go_end0
            exact ⟨rfl, (li_liv hP hE hPE).kp _ _ _ _ _ HLI.out hk9 hp9⟩
          · have hq9 : (((s.kids.length + 1 : Nat) : Int) == (1 : Int)) = false := by rw [beq_eq_false_iff_ne]; omega
            go_wp2
            go_end0
            exact ⟨rfl, HLI.out⟩
      · go_simp
        refine HD5.mono ?_
        rintro e1 w1 ⟨v1, rfl, ⟨cy, rfl, hy1⟩, hp1, hk1⟩
        have fr1 := fr5.kp hk1
        have bu1 := bu5.keep (hk1.blk _ (Nat.lt_of_lt_of_le hE fr5.size) hPE) (fun g _ hg2 => hk1.blk g hg2 (by omega))
        have kb1 := fun g (hg : (Value.slice ak s.kids.length ck).ownBlock = some g) => (bu5.kr.lt g hg).2
        have nb1 := fun g (hg : nv.ownBlock = some g) => (bu5.nr.lt g hg).2
        have hyS : ExA w1 (fun g => lo ≤ g ∧ (Value.slice ak s.kids.length ck).ownBlock ≠ some g ∧ nv.ownBlock ≠ some g) y cy := hy1.mono (fun g hg _ => ⟨Nat.le_trans fr5.size hg, fun e => absurd hg (Nat.not_le.2 (kb1 g e)), fun e => absurd hg (Nat.not_le.2 (nb1 g e))⟩)
        have sb_1 := HSb.out w1 fr1
        have c3_1 : w1.cell? ⟨Eb, 3, none⟩ = some (.slice ak s.kids.length ck) := bu1.ev.five.2.2.2.1
        have hz : w1.heap[W.heap.size]? = some ez := hk1.heapEq hz5 (by have := fr0.size; show ¬ W.heap.size = P; have h0 : lo ≤ W.heap.size := this; omega)
        have frX := fr1
        have buX := bu1
        have hyX := hyS
        have hpX := hp1
        clear hy1 hk1 kb1 nb1
        refine hK.out _ _ sb_1 (fun hHeld => ?_)
        clear hK K
        try simp only [Act.put, List.setIfInBounds_toArray, List.set_cons_zero, List.set_cons_succ]
        refine wpAnyH_ready (rs := [1]) (by kernel_rfl) (by simp) (AllReadyH.cons rfl (fun K hK => ?_) AllReadyH.nil)
        go_simp
        refine hK.out _ _ hHeld (fun hHeld => ?_)
        clear hK K
        try simp only [Act.put, List.setIfInBounds_toArray, List.set_cons_zero, List.set_cons_succ]
        refine wpAnyH_take (i := 4) (v := .int .i64 (s.kids.length : Int)) rfl (by kernel_rfl) (by kernel_rfl) (by kernel_rfl) (fun _ _ _ h => h) (Or.inl ⟨by rfl, ?_⟩) (by assumption) ?_
        · intro V hSV
          try dsimp only at hSV
          go_simp
          try with_reducible rfl
          try (intro h9; exfalso; omega)
        try simp only [Act.put, List.setIfInBounds_toArray, List.set_cons_zero, List.set_cons_succ]
        have hnews : ∀ (j : Nat) (u : Value), [.int .i64 0, .int .i64 0, .string ⟨#[]⟩, .slice none 0 0, .slice none 0 0][j]? = some u → w1.cell? ((⟨W.heap.size, 0, none⟩ : Addr).add j) = some u := fun j u hu => World.news_of_block hz j u hu
        have hl5 : cy.length = 5 := hyX.len
        have hsX := frX.size
        have HX : Hid (FrL P lo Eb W0 w1 ∧ BuB lo Eb w1 s (.slice ak s.kids.length ck) nv vs ∧ ExA w1 (fun g => lo ≤ g ∧ (Value.slice ak s.kids.length ck).ownBlock ≠ some g ∧ nv.ownBlock ≠ some g) y cy ∧ PsA P T w1 q ∧ cy.length = 5) := ⟨frX, buX, hyX, hpX, hl5⟩
        clear frX buX hyX hpX hl5 fr1 bu1 hyS hp1 hz
        refine wpAnyH_ready (rs := [6]) (by kernel_rfl) (by simp) (AllReadyH.cons rfl (fun K hK => ?_) AllReadyH.nil)
        refine step_append_lies w1 (by rfl) (Operand.tmp 3) (Operand.tmp 7) 39 (by rfl) lo 41 i0 (.agg #[.int .i64 0, .int .i64 0, .string ⟨#[]⟩, .slice none 0 0, .slice none 0 0]) 5 80 Tryz.underlying39 hi hz0 hz1 hz2 rfl (by decide) (.slice ak s.kids.length ck) s.kids.length vs.flatten (by rfl) HX.out.2.1.kr ⟨W.heap.size, 0, none⟩ 1 1 [.int .i64 0, .int .i64 0, .string ⟨#[]⟩, .slice none 0 0, .slice none 0 0] (by rfl) rfl hnews (by simp [Value.oneCell']) (by decide) (by unfold maxLen; omega) (by omega) hsX w1.heap.size rfl ?_
        intro g' cap' w2 hown2 hgrow hat hltg
        have hlen5 : (vs.flatten).length = s.kids.length * 5 := HX.out.2.1.kr.1
        have hE2 : w2.heap[Eb]? = w1.heap[Eb]? := hgrow.block Eb (Nat.lt_of_lt_of_le hE hsX) (fun e => absurd (HX.out.2.1.kr.lt Eb e.symm).1 (by omega))
        have ev2 := HX.out.2.1.ev.keep hE2
        have hgE : g' ≠ Eb := by
          rcases hat with h1 | h1
          · have := (HX.out.2.1.kr.lt _ h1).1; omega
          · omega
        have th2 : w2.there g' (s.kids.length * 5) 5 := own_cells hown2 _ _ (by rw [List.length_append, hlen5]; simp)
        have sb_2 : w2.cell? ⟨b, 0, none⟩ = some (pt P) := by
          rw [← HSb.out w1 HX.out.1]
          exact World.cell?_of_block (hgrow.block b (Nat.lt_of_lt_of_le hbl hsX) (fun e => absurd (HX.out.2.1.kr.lt b e.symm).1 (by omega)))
        have c3_2 : w2.cell? ⟨Eb, 3, none⟩ = some (.slice ak s.kids.length ck) := ev2.five.2.2.2.1
        have f3_2 : w2.frozen? ⟨Eb, 3, none⟩ = false := ev2.fz 3
        have hcA : cy.toArray.size = 5 := HX.out.2.2.2.2
        have hiA : (Tryz.prog.info? 41).map (·.size) = some cy.toArray.size := by rw [hcA]; exact szE
        have hoA := all_oneCell_toArray HX.out.2.2.1.one
        refine hK.out _ _ sb_2 (fun hHeld => ?_)
        clear hK K
        try simp only [Act.put, List.setIfInBounds_toArray, List.set_cons_zero, List.set_cons_succ]
        refine wpAnyH_take (i := 7) (v := .pointer (some ⟨g', s.kids.length * 5, none⟩)) rfl (by kernel_rfl) (by kernel_rfl) (by kernel_rfl) (fun _ _ _ h => h) (Or.inl ⟨by rfl, ?_⟩) (by assumption) ?_
        · intro V hSV
          try dsimp only at hSV
          go_simp
          try with_reducible rfl
          try (intro h9; exfalso; omega)
        try simp only [Act.put, List.setIfInBounds_toArray, List.set_cons_zero, List.set_cons_succ]
        refine wpAnyH_take (i := 9) (v := .pointer (some ⟨Eb, 3, none⟩)) rfl (by kernel_rfl) (by kernel_rfl) (by kernel_rfl) (fun _ _ _ h => h) (Or.inl ⟨by rfl, ?_⟩) (by assumption) ?_
        · intro V hSV
          try dsimp only at hSV
          go_simp
          try with_reducible rfl
          try (intro h9; exfalso; omega)
        try simp only [Act.put, List.setIfInBounds_toArray, List.set_cons_zero, List.set_cons_succ]
        refine wpAnyH_ready (rs := [8, 10]) (by kernel_rfl) (by simp) (AllReadyH.cons rfl (fun K hK => ?_) (AllReadyH.cons rfl (fun K hK => ?_) AllReadyH.nil))
        · refine step_call (by rfl) ?_
          refine wp_store_mid 41 (Operand.tmp 9) (Operand.tmp 5) rfl g' (s.kids.length * 5) cy.toArray rfl rfl (by rw [hcA]; exact th2) hiA hoA ?_
          have ev3 : EV (w2.setCells g' (s.kids.length * 5) cy) Eb _ := ev2.keep (heap_sets g' cy _ w2 Eb (fun e => hgE e.symm))
          have c3_3 := ev3.five.2.2.2.1
          have f3_3 := ev3.fz 3
          have sb_3 : (w2.setCells g' (s.kids.length * 5) cy).cell? ⟨b, 0, none⟩ = some (pt P) := (World.cell?_of_block (heap_sets g' cy _ w2 b (fun e => by rcases hat with h1 | h1; (· have := (HX.out.2.1.kr.lt _ h1).1; omega); (· omega)))).trans sb_2
          refine hK.out _ _ sb_3 (fun hHeld => ?_)
          clear hK K
          try simp only [Act.put, List.setIfInBounds_toArray, List.set_cons_zero, List.set_cons_succ]
          refine wpAnyH_ready (rs := [10]) (by kernel_rfl) (by simp) (AllReadyH.cons rfl (fun K hK => ?_) AllReadyH.nil)
          go_simp
          have HP := BuB.push (Wf := ((w2.setCells g' (s.kids.length * 5) cy).setCell ⟨Eb, 3, none⟩ (.slice (some ⟨g', 0, none⟩) (s.kids.length + 1) cap'))) HX.out.2.1 hE HX.out.2.2.1 hgrow hat HX.out.1 (own_heap (stored_cells' hown2 hlen5 HX.out.2.2.2.2) fun g hg => Below.heap_setCell _ ⟨Eb, 3, none⟩ _ g (fun e => hgE ((ob_eq hg).trans e))) (ev3.put3 _) (fun g h1 h2 => (Below.heap_setCell _ ⟨Eb, 3, none⟩ _ g h1).trans (heap_sets g' cy _ w2 g h2)) (os_sets _ _ _ _) (tape_sets _ _ _ _) (out_sets _ _ _ _) (by rw [size_set, size_sets]; exact Nat.le_refl _)
          have sb_4 := HSb.out _ HP.2.1
          refine hK.out _ _ sb_4 (fun hHeld => ?_)
          clear hK K
          try simp only [Act.put, List.setIfInBounds_toArray, List.set_cons_zero, List.set_cons_succ]
          refine wpAnyH_done (by kernel_rfl) ?_ _
          try simp only [Act.put, List.setIfInBounds_toArray, List.set_cons_zero, List.set_cons_succ]
          have hpF : PsA P T ((w2.setCells g' (s.kids.length * 5) cy).setCell ⟨Eb, 3, none⟩ (.slice (some ⟨g', 0, none⟩) (s.kids.length + 1) cap')) q := HX.out.2.2.2.1.keep (HP.2.2 P hP (fun e => hPE e.symm)) (HP.2.2 T hT hTE)
          have HLI : Hid (LI P T lo Eb W0 ((w2.setCells g' (s.kids.length * 5) cy).setCell ⟨Eb, 3, none⟩ (.slice (some ⟨g', 0, none⟩) (s.kids.length + 1) cap')) { s with kids := s.kids ++ [y] } q) := ⟨hpF, HP.2.1, _, _, _, HP.1⟩
          have c3_5 := HP.1.ev.five.2.2.2.1
          have sb_5' := HSb.out _ HP.2.1
          clear HP HX hown2 hgrow hat hltg hnews hsX hE2 ev2 th2 sb_2 c3_2 f3_2 hiA hoA ev3 sb_3 sb_4
          generalize ((w2.setCells g' (s.kids.length * 5) cy).setCell ⟨Eb, 3, none⟩ (.slice (some ⟨g', 0, none⟩) (s.kids.length + 1) cap')) = Wf at *
          by_cases hn0 : s.kids.length = 0
          · have hb9 : q.sees [[102, 111, 114]] = false := by simpa [hn0] using hcond
            rw [hn0] at c3_5
            have HPa := passSign_no hpF (x := [102, 111, 114]) hb9
            go_wp2_with (go_at_call 77; refine HPa.mono ?_; rintro e9 w9 ⟨rfl, hk9, hp9⟩)
            go_end0
            exact ⟨rfl, (li_liv hP hE hPE).kp _ _ _ _ _ HLI.out hk9 hp9⟩
          · have hq9 : (((s.kids.length + 1 : Nat) : Int) == (1 : Int)) = false := by rw [beq_eq_false_iff_ne]; omega
            go_wp2
            go_end0
            exact ⟨rfl, HLI.out⟩
        · go_simp
          have ev3 := ev2.put3 (.slice (some ⟨g', 0, none⟩) (s.kids.length + 1) cap')
          have sb_3 : (w2.setCell ⟨Eb, 3, none⟩ (.slice (some ⟨g', 0, none⟩) (s.kids.length + 1) cap')).cell? ⟨b, 0, none⟩ = some (pt P) := (World.cell?_of_block (Below.heap_setCell _ ⟨Eb, 3, none⟩ _ b hbE)).trans sb_2
          have ow3 : (w2.setCell ⟨Eb, 3, none⟩ (.slice (some ⟨g', 0, none⟩) (s.kids.length + 1) cap')).ownsRow _ _ _ _ _ _ := own_heap hown2 fun g hg => Below.heap_setCell _ ⟨Eb, 3, none⟩ _ g (fun e => hgE ((ob_eq hg).trans e))
          have th3 := own_cells ow3 (s.kids.length * 5) 5 (by rw [List.length_append, hlen5]; simp)
          refine hK.out _ _ sb_3 (fun hHeld => ?_)
          clear hK K
          try simp only [Act.put, List.setIfInBounds_toArray, List.set_cons_zero, List.set_cons_succ]
          refine wpAnyH_ready (rs := [8]) (by kernel_rfl) (by simp) (AllReadyH.cons rfl (fun K hK => ?_) AllReadyH.nil)
          refine step_call (by rfl) ?_
          refine wp_store_mid 41 (Operand.tmp 9) (Operand.tmp 5) rfl g' (s.kids.length * 5) cy.toArray rfl rfl (by rw [hcA]; exact th3) hiA hoA ?_
          have HP := BuB.push (Wf := ((w2.setCell ⟨Eb, 3, none⟩ (.slice (some ⟨g', 0, none⟩) (s.kids.length + 1) cap')).setCells g' (s.kids.length * 5) cy)) HX.out.2.1 hE HX.out.2.2.1 hgrow hat HX.out.1 (stored_cells' ow3 hlen5 HX.out.2.2.2.2) (ev3.keep (heap_sets g' cy _ _ Eb (fun e => hgE e.symm))) (fun g h1 h2 => (heap_sets g' cy _ _ g h2).trans (Below.heap_setCell _ ⟨Eb, 3, none⟩ _ g h1)) (os_sets _ _ _ _) (tape_sets _ _ _ _) (out_sets _ _ _ _) (by rw [size_sets, size_set]; exact Nat.le_refl _)
          have sb_4 := HSb.out _ HP.2.1
          refine hK.out _ _ sb_4 (fun hHeld => ?_)
          clear hK K
          try simp only [Act.put, List.setIfInBounds_toArray, List.set_cons_zero, List.set_cons_succ]
          refine wpAnyH_done (by kernel_rfl) ?_ _
          try simp only [Act.put, List.setIfInBounds_toArray, List.set_cons_zero, List.set_cons_succ]
          have hpF : PsA P T ((w2.setCell ⟨Eb, 3, none⟩ (.slice (some ⟨g', 0, none⟩) (s.kids.length + 1) cap')).setCells g' (s.kids.length * 5) cy) q := HX.out.2.2.2.1.keep (HP.2.2 P hP (fun e => hPE e.symm)) (HP.2.2 T hT hTE)
          have HLI : Hid (LI P T lo Eb W0 ((w2.setCell ⟨Eb, 3, none⟩ (.slice (some ⟨g', 0, none⟩) (s.kids.length + 1) cap')).setCells g' (s.kids.length * 5) cy) { s with kids := s.kids ++ [y] } q) := ⟨hpF, HP.2.1, _, _, _, HP.1⟩
          have c3_5 := HP.1.ev.five.2.2.2.1
          have sb_5' := HSb.out _ HP.2.1
          clear HP HX hown2 hgrow hat hltg hnews hsX hE2 ev2 th2 sb_2 c3_2 f3_2 hiA hoA ev3 sb_3 sb_4
          generalize ((w2.setCell ⟨Eb, 3, none⟩ (.slice (some ⟨g', 0, none⟩) (s.kids.length + 1) cap')).setCells g' (s.kids.length * 5) cy) = Wf at *
          by_cases hn0 : s.kids.length = 0
          · have hb9 : q.sees [[102, 111, 114]] = false := by simpa [hn0] using hcond
            rw [hn0] at c3_5
            have HPa := passSign_no hpF (x := [102, 111, 114]) hb9
            go_wp2_with (go_at_call 77; refine HPa.mono ?_; rintro e9 w9 ⟨rfl, hk9, hp9⟩)
            go_end0
            exact ⟨rfl, (li_liv hP hE hPE).kp _ _ _ _ _ HLI.out hk9 hp9⟩
          · have hq9 : (((s.kids.length + 1 : Nat) : Int) == (1 : Int)) = false := by rw [beq_eq_false_iff_ne]; omega
            go_wp2
            go_end0
            exact ⟨rfl, HLI.out⟩
end Go.Proofs.YtheiijnpggabkaaGreatDoor

/- list; and an expression, whole. -/
namespace Go.Proofs.YtheiijnpggabkaaGreatDoor
open Go.RowKit Go.Shelf
attribute [local go_sem ↓] fld0 fld1 fld2 fld3
attribute [local go_sem] mk_func

abbrev l7 : Obj := .cells #[.int .i64 7, .int .i64 0, .string ⟨#[]⟩, .slice none 0 0, .slice none 0 0] 41

set_option maxHeartbeats 8000000 in
set_option maxRecDepth 100000 in
theorem list_any {P T : Nat} {E : Ps → Px Ex} (hEx : MethC P T 75 E) : MethC P T 159 (lst [93] (liE E) ⟨7, 0, [], [], []⟩) := by
  intro W p z h hz
  have hPl := h.lt
  have hTl := h.ltT
  obtain ⟨h0, hk0, hb0, hr0, s0⟩ := bg_facts h
  have s1 : ((bgW P W).alloc l7).heap.size = W.heap.size + 1 + 1 + 1 := by rw [World.size_alloc, s0]
  have hk1 := hk0.trans (KP.al P (bgW P W) l7)
  have hb1 := hb0.keep (KP.al P (bgW P W) l7)
  have cb := hb1.2
  have hr1 : ((bgW P W).alloc l7).heap[W.heap.size + 1]? = some ez := (heap_al _ _ _ (by omega)).trans hr0
  have he1 : ((bgW P W).alloc l7).heap[W.heap.size + 1 + 1]? = some l7 := by
    have := heap_alloc_new (bgW P W) l7
    rwa [s0] at this
  have ev1 : EV ((bgW P W).alloc l7) (W.heap.size + 1 + 1) [.int .i64 7, .int .i64 0, .string ⟨#[]⟩, .slice none 0 0, .slice none 0 0] := ⟨⟨_, he1, rfl⟩, fun j v hv => by
    rw [Nat.zero_add, Lib.cell_of_heap he1, ← hv]
    simp⟩
  have hJ : LI P T (W.heap.size + 1 + 1 + 1) (W.heap.size + 1 + 1) ((bgW P W).alloc l7) ((bgW P W).alloc l7) ⟨7, 0, [], [], []⟩ p := ⟨h0.up (alB _ _), ⟨rfl, rfl, rfl, by omega, fun _ _ _ _ => rfl⟩, .slice none 0 0, .slice none 0 0, [], ev1, World.ownsRow_nil _ _ _ _, World.ownsRow_nil _ _ _ _, (fun g hg => by cases hg), trivial⟩
  have HC := listed_any (li_liv (by omega) (by omega) (by omega)) (listE_any (b := W.heap.size) hEx (by omega) (by omega) (by omega) (by omega) (by omega) (by omega) (by omega) (by omega) hb1.2) [93] hJ hz
  have HQ : Hid (KP P W ((bgW P W).alloc l7) ∧ ((bgW P W).alloc l7).heap[W.heap.size + 1]? = some ez ∧ ((bgW P W).alloc l7).heap.size = W.heap.size + 1 + 1 + 1) := ⟨hk1, hr1, s1⟩
  clear h h0 hk0 hb0 hr0 s0 s1 hk1 hb1 hr1 he1 ev1 hJ hEx hz
  unfold bgW at *
  go_enter Tryz.func159, Tryz.ntmps159
  go_wp2_with fail
  refine HC.mono ?_
  rintro e w1 hpo
  have hfr : ∀ w', FrL P (W.heap.size + 1 + 1 + 1) (W.heap.size + 1 + 1) _ w' → KP P W w' := fun w' hf => ⟨hf.os.trans HQ.out.1.os, hf.tape.trans HQ.out.1.tape, hf.output.trans HQ.out.1.output, by have := hf.size; omega, fun g hg hp => (hf.blk g (by omega) hp (by omega)).trans (HQ.out.1.blk g hg hp)⟩
  cases z with
  | error x =>
    obtain ⟨rfl, hn⟩ := bad_lpo hpo
    exact ⟨rfl, rfl, hfr _ hn⟩
  | ok r =>
    obtain ⟨x, q⟩ := r
    obtain ⟨rfl, hli⟩ := hpo
    obtain ⟨c, hev, hx⟩ := hli.done
    have hr2 : w1.heap[W.heap.size + 1]? = some ez := (hli.fr.blk _ (by omega) (by omega) (by omega)).trans HQ.out.2.1
    obtain ⟨t2, i2, o2, l2, j2⟩ := fin5 hr2 rfl hx
    have HZ : Hid (PoA P T (VE W.heap.size) W (.ok (x, q)) (.returned (.agg c.toArray)) (w1.setCells (W.heap.size + 1) 0 c)) := poE_fin2 (by omega) hx (fun g hg => ⟨by omega, by omega⟩) hli.ps (hfr _ hli.fr) hPl hTl
    have HG : Hid (w1.rangeAt (W.heap.size + 1 + 1) 0 c ∧ (Tryz.prog.info? 41).map (·.size) = some c.length ∧ w1.there (W.heap.size + 1) 0 c.toArray.size ∧ (Tryz.prog.info? 41).map (·.size) = some c.toArray.size ∧ c.toArray.all (·.oneCell') = true ∧ (loadVar 41 ⟨W.heap.size + 1, 0, none⟩).run Tryz.prog (w1.setCells (W.heap.size + 1) 0 c) = .ok (.agg c.toArray) (w1.setCells (W.heap.size + 1) 0 c)) := ⟨hev.2, j2, t2, i2, o2, l2⟩
    clear t2 i2 o2 l2 j2 hx hev hli hr2 hfr HQ HC
    go_wp2_with (first
      | (refine wpList_load_mid rfl 41 (Operand.tmp 3) rfl (W.heap.size + 1 + 1) 0 rfl c _ HG.out.1 Tryz.underlying41 rfl HG.out.2.1 ?_)
      | (refine wpList_store_mid rfl 41 (Operand.tmp 2) (Operand.tmp 8) rfl (W.heap.size + 1) 0 c.toArray rfl rfl HG.out.2.2.1 HG.out.2.2.2.1 HG.out.2.2.2.2.1 ?_)
      | fail)
    refine bodyPost_ret (v := .agg c.toArray) (res_one Tryz.results159 _ _ rfl HG.out.2.2.2.2.2) rfl HZ.out

/-- An expression, whole. -/
theorem exF_any {P T : Nat} : ∀ n, MethC P T 75 (exF n)
  | 0 => fun W p z _ hz => by cases hz
  | n + 1 => by
    have hE := exF_any (P := P) (T := T) n
    have hP := post_any hE (atom_any (signAtom_any hE (list_any hE)))
    have hU : MethC P T 145 (una (exF n)) := fun W p z h hz => unary_any hP _ W p z h hz
    have hS : MethC P T 135 (sum (exF n)) := fun W p z h hz => sum_any (fun b w' hb => smB_any hb (fun w2 hb2 => smC_any hU hb2)) W p z h hz
    have hN : MethC P T 109 (neg (exF n)) := fun W p z h hz => negation_any (comparison_any hS) _ W p z h hz
    exact expression_any (m := orE (exF n)) (fun b w' hb => exA_any hb (fun w2 hb2 => exB_any hb2 (fun w3 hb3 => exC_any hN hb3)))
end Go.Proofs.YtheiijnpggabkaaGreatDoor
