/- SyN1: one more name, in (*foundry/syntax.parser).call$1. -/
import Derived.Test.YtcaeeackccgclaaGreatDoorTb9
namespace Go.Proofs.YtcaeeackccgclaaGreatDoor
open Go.RowKit Go.Shelf
attribute [local go_sem ↓] fld0 fld1 fld2 fld3

set_option maxHeartbeats 40000000 in
set_option linter.unusedSimpArgs false in
set_option linter.unusedVariables false in
set_option maxRecDepth 100000 in
theorem nr_ca {P T lo Vb b : Nat} {W : World} {xs : List (List UInt8)} {nv : Value} {p : Ps} {zN : Except Ft (List UInt8 × Ps)} {x2 x3 x4 x5 x6 x7 x8 x9 x10 x11 x12 x13 x14 x15 x16 x17 x18 x19 x20 x21 x22 x23 x24 x25 x26 x27 x28 x29 : Value} (hlo : lo ≤ W.heap.size) (hPl : P < lo) (hnV : nv.ownBlock ≠ some Vb) (hbV : b ≠ Vb) (hnb : nv.ownBlock ≠ some b)
    (hps : PsA P T W p) (hnm : ∀ W', KP P W W' → W'.cell? ⟨Vb, 4, none⟩ = some nv ∧ W'.frozen? ⟨Vb, 4, none⟩ = false ∧ W'.ownsRow lo 9 1 nv xs.length (xs.map sv) ∧ W'.cell? ⟨b, 0, none⟩ = some (pt P)) (hn1 : xs.length ≤ 1000000) (hz : tkN xs p = some zN) (Q0 : Exit → Act → World → Prop) (hQp : ∀ c (a a' : Act) w, a.defers = a'.defers → Q0 (.panic c) a w → Q0 (.panic c) a' w)
    (hpan : ∀ (x : Ft) (a : Act) (w' : World), a.defers = [] → zN = .error x → KP P W w' → Q0 (.panic (PC x.1 x.2)) a w')
    (hok : ∀ (u4 u5 u6 u7 u8 u9 u10 u11 u12 : Value) (x : List UInt8) (q : Ps) (X w2 : World) (g' cap' : Nat), zN = .ok (x, q) → KP P W X → PsA P T X q → X.ownsRow lo 9 1 nv xs.length (xs.map sv) → X.grownBy w2 nv.ownBlock → (nv.ownBlock = some g' ∨ g' = X.heap.size) → w2.ownsRow lo 9 1 (.slice (some ⟨g', 0, none⟩) (xs.length + 1) cap') (xs.length + 1) (xs.map sv ++ [sv x]) → Q0 .normal ⟨#[pt b, pt Vb, x2, x3, u4, u5, u6, u7, u8, u9, u10, u11, u12, x13, x14, x15, x16, x17, x18, x19, x20, x21, x22, x23, x24, x25, x26, x27, x28, x29], []⟩ (w2.setCell ⟨Vb, 4, none⟩ (.slice (some ⟨g', 0, none⟩) (xs.length + 1) cap'))) :
    Code.wp Tryz.prog (subW [false, true, false, false] (Tryz.f161.body.getD .skip)) Q0 ⟨#[pt b, pt Vb, x2, x3, x4, x5, x6, x7, x8, x9, x10, x11, x12, x13, x14, x15, x16, x17, x18, x19, x20, x21, x22, x23, x24, x25, x26, x27, x28, x29], []⟩ W := by
  have infN : (Tryz.prog.info? 9).map (fun i => (i.zero, i.size, i.bytes)) = some (some (.string ⟨#[]⟩), 1, 16) := by kernel_rfl
  obtain ⟨i0, hi, hz0, hz1, hz2⟩ := info_p infN
  clear infN
  have HNm : Hid (∀ W', KP P W W' → W'.cell? ⟨Vb, 4, none⟩ = some nv ∧ W'.frozen? ⟨Vb, 4, none⟩ = false ∧ W'.ownsRow lo 9 1 nv xs.length (xs.map sv) ∧ W'.cell? ⟨b, 0, none⟩ = some (pt P)) := hnm
  have HPn : Hid (∀ (x : Ft) (a : Act) (w' : World), a.defers = [] → zN = .error x → KP P W w' → Q0 (.panic (PC x.1 x.2)) a w') := hpan
  have HOk : Hid (∀ (u4 u5 u6 u7 u8 u9 u10 u11 u12 : Value) (x : List UInt8) (q : Ps) (X w2 : World) (g' cap' : Nat), zN = .ok (x, q) → KP P W X → PsA P T X q → X.ownsRow lo 9 1 nv xs.length (xs.map sv) → X.grownBy w2 nv.ownBlock → (nv.ownBlock = some g' ∨ g' = X.heap.size) → w2.ownsRow lo 9 1 (.slice (some ⟨g', 0, none⟩) (xs.length + 1) cap') (xs.length + 1) (xs.map sv ++ [sv x]) → Q0 .normal ⟨#[pt b, pt Vb, x2, x3, u4, u5, u6, u7, u8, u9, u10, u11, u12, x13, x14, x15, x16, x17, x18, x19, x20, x21, x22, x23, x24, x25, x26, x27, x28, x29], []⟩ (w2.setCell ⟨Vb, 4, none⟩ (.slice (some ⟨g', 0, none⟩) (xs.length + 1) cap'))) := hok
  have hk0 : KP P W W.drew := (KP.refl P W).drew
  obtain ⟨c_0, f_0, r_0, sb_0⟩ := hnm W.drew hk0
  obtain ⟨an, cn, hnv⟩ := row_shape r_0
  have HD0 := takeNew_any (hps.drewN 1) (SgA.of_own r_0 hPl hn1) hz
  clear hnm hpan hok hz
  subst hnv
  have HQp : Hid (∀ c (a a' : Act) w, a.defers = a'.defers → Q0 (.panic c) a w → Q0 (.panic c) a' w) := hQp
  clear hQp
  conv => arg 2; whnf
  match zN with
  | .error x =>
    refine wp_region_held_drew (S := fun V => V.cell? ⟨b, 0, none⟩ = some (pt P)) (by kernel_rfl) sb_0 (fun hHeld => ?_)
    refine tK (i := 0) (v := .pointer (some ⟨Vb, 4, none⟩)) rfl (by kernel_rfl) HQp.out (Or.inl ⟨by rfl, ?_⟩) (by assumption) ?_
    · intro V hSV
      try dsimp only at hSV
      go_simp
      try with_reducible rfl
      try (intro h9; exfalso; omega)
    try simp only [Act.put, pA, pB, pC, pD, pE, pF]
    refine tK (i := 2) (v := pt P) rfl (by kernel_rfl) HQp.out (Or.inl ⟨by rfl, ?_⟩) (by assumption) ?_
    · intro V hSV
      try dsimp only at hSV
      go_simp
      try with_reducible rfl
      try (intro h9; exfalso; omega)
    try simp only [Act.put, pA, pB, pC, pD, pE, pF]
    refine tK (i := 3) (v := .pointer (some ⟨Vb, 4, none⟩)) rfl (by kernel_rfl) HQp.out (Or.inl ⟨by rfl, ?_⟩) (by assumption) ?_
    · intro V hSV
      try dsimp only at hSV
      go_simp
      try with_reducible rfl
      try (intro h9; exfalso; omega)
    try simp only [Act.put, pA, pB, pC, pD, pE, pF]
    refine wpAnyH_ready (rs := [1, 4]) (by kernel_rfl) (by simp) (AllReadyH.cons rfl (fun K hK => ?_) (AllReadyH.cons rfl (fun K hK => ?_) AllReadyH.nil))
    go_simp
    refine hK.out _ _ hHeld (fun hHeld => ?_)
    clear hK K
    try simp only [Act.put, pA, pB, pC, pD, pE, pF]
    refine wpAnyH_ready (rs := [4]) (by kernel_rfl) (by simp) (AllReadyH.cons rfl (fun K hK => ?_) AllReadyH.nil)
    go_simp
    refine hK.out _ _ hHeld (fun hHeld => ?_)
    clear hK K
    try simp only [Act.put, pA, pB, pC, pD, pE, pF]
    refine wpAnyH_ready (rs := [5]) (by kernel_rfl) (by simp) (AllReadyH.cons rfl (fun K hK => ?_) AllReadyH.nil)
    go_simp
    refine HD0.mono ?_
    rintro e1 w1 hpo
    obtain ⟨rfl, hk1⟩ := bad_panic hpo hk0
    exact HPn.out _ _ _ rfl rfl hk1
    go_simp
    refine hK.out _ _ hHeld (fun hHeld => ?_)
    clear hK K
    try simp only [Act.put, pA, pB, pC, pD, pE, pF]
    refine wpAnyH_ready (rs := [1, 5]) (by kernel_rfl) (by simp) (AllReadyH.cons rfl (fun K hK => ?_) (AllReadyH.cons rfl (fun K hK => ?_) AllReadyH.nil))
    go_simp
    refine hK.out _ _ hHeld (fun hHeld => ?_)
    clear hK K
    try simp only [Act.put, pA, pB, pC, pD, pE, pF]
    refine wpAnyH_ready (rs := [5]) (by kernel_rfl) (by simp) (AllReadyH.cons rfl (fun K hK => ?_) AllReadyH.nil)
    go_simp
    refine HD0.mono ?_
    rintro e1 w1 hpo
    obtain ⟨rfl, hk1⟩ := bad_panic hpo hk0
    exact HPn.out _ _ _ rfl rfl hk1
    go_simp
    refine HD0.mono ?_
    rintro e1 w1 hpo
    obtain ⟨rfl, hk1⟩ := bad_panic hpo hk0
    exact HPn.out _ _ _ rfl rfl hk1
  | .ok (x, q) =>
    refine wp_region_held_drew (S := fun V => V.cell? ⟨b, 0, none⟩ = some (pt P)) (by kernel_rfl) sb_0 (fun hHeld => ?_)
    refine tK (i := 0) (v := .pointer (some ⟨Vb, 4, none⟩)) rfl (by kernel_rfl) HQp.out (Or.inl ⟨by rfl, ?_⟩) (by assumption) ?_
    · intro V hSV
      try dsimp only at hSV
      go_simp
      try with_reducible rfl
      try (intro h9; exfalso; omega)
    try simp only [Act.put, pA, pB, pC, pD, pE, pF]
    refine tK (i := 2) (v := pt P) rfl (by kernel_rfl) HQp.out (Or.inl ⟨by rfl, ?_⟩) (by assumption) ?_
    · intro V hSV
      try dsimp only at hSV
      go_simp
      try with_reducible rfl
      try (intro h9; exfalso; omega)
    try simp only [Act.put, pA, pB, pC, pD, pE, pF]
    refine tK (i := 3) (v := .pointer (some ⟨Vb, 4, none⟩)) rfl (by kernel_rfl) HQp.out (Or.inl ⟨by rfl, ?_⟩) (by assumption) ?_
    · intro V hSV
      try dsimp only at hSV
      go_simp
      try with_reducible rfl
      try (intro h9; exfalso; omega)
    try simp only [Act.put, pA, pB, pC, pD, pE, pF]
    refine wpAnyH_ready (rs := [1, 4]) (by kernel_rfl) (by simp) (AllReadyH.cons rfl (fun K hK => ?_) (AllReadyH.cons rfl (fun K hK => ?_) AllReadyH.nil))
    go_simp
    refine hK.out _ _ hHeld (fun hHeld => ?_)
    clear hK K
    try simp only [Act.put, pA, pB, pC, pD, pE, pF]
    refine wpAnyH_ready (rs := [4]) (by kernel_rfl) (by simp) (AllReadyH.cons rfl (fun K hK => ?_) AllReadyH.nil)
    go_simp
    refine hK.out _ _ hHeld (fun hHeld => ?_)
    clear hK K
    try simp only [Act.put, pA, pB, pC, pD, pE, pF]
    refine wpAnyH_ready (rs := [5]) (by kernel_rfl) (by simp) (AllReadyH.cons rfl (fun K hK => ?_) AllReadyH.nil)
    go_simp
    refine HD0.mono ?_
    rintro e1 w1 ⟨v1, rfl, rfl, hp1, hkw1⟩
    have hk1 := hk0.trans hkw1
    obtain ⟨c_1, f_1, r_1, sb_1⟩ := HNm.out w1 hk1
    have hkx := hk1.alloc (.cells #[.string (mkB x)] 9)
    obtain ⟨c_x, f_x, r_x, sb_x⟩ := HNm.out _ hkx
    have hpx := hp1.up (alB w1 (.cells #[.string (mkB x)] 9))
    have hzx : (w1.alloc (.cells #[.string (mkB x)] 9)).heap[w1.heap.size]? = some (.cells #[.string (mkB x)] 9 (0, 0)) := heap_alloc_new w1 _
    have HX : Hid (KP P W (w1.alloc (.cells #[.string (mkB x)] 9)) ∧ PsA P T (w1.alloc (.cells #[.string (mkB x)] 9)) q) := ⟨hkx, hpx⟩
    clear hkw1 hk1 hkx hp1 hpx
    refine hK.out _ _ sb_1 (fun hHeld => ?_)
    clear hK K
    try simp only [Act.put, pA, pB, pC, pD, pE, pF]
    refine wpAnyH_ready (rs := [6]) (by kernel_rfl) (by simp) (AllReadyH.cons rfl (fun K hK => ?_) AllReadyH.nil)
    go_simp
    refine hK.out _ _ sb_x (fun hHeld => ?_)
    clear hK K
    try simp only [Act.put, pA, pB, pC, pD, pE, pF]
    have hnews : ∀ (j : Nat) (u : Value), [Value.string (mkB x)][j]? = some u → (w1.alloc (.cells #[.string (mkB x)] 9)).cell? ((⟨w1.heap.size, 0, none⟩ : Addr).add j) = some u := fun j u hu => World.news_of_block hzx j u hu
    have hsX : lo ≤ (w1.alloc (.cells #[.string (mkB x)] 9)).heap.size := Nat.le_trans hlo HX.out.1.size
    refine wpAnyH_ready (rs := [7]) (by kernel_rfl) (by simp) (AllReadyH.cons rfl (fun K hK => ?_) AllReadyH.nil)
    refine step_append_lies (w1.alloc (.cells #[.string (mkB x)] 9)) (by rfl) (Operand.tmp 5) (Operand.tmp 10) 35 (by rfl) lo 9 i0 (.string ⟨#[]⟩) 1 16 Tryz.underlying35 hi hz0 hz1 hz2 rfl (by decide) (.slice an xs.length cn) xs.length (xs.map sv) (by rfl) r_x ⟨w1.heap.size, 0, none⟩ 1 1 [.string (mkB x)] (by rfl) rfl hnews (by simp [Value.oneCell']) (by decide) (by unfold maxLen; omega) (by omega) hsX (w1.alloc (.cells #[.string (mkB x)] 9)).heap.size rfl ?_
    intro g' cap' w2 hown2 hgrow hat hltg
    have hVX : Vb < (w1.alloc (.cells #[.string (mkB x)] 9)).heap.size := World.block_lt_of_cell? _ _ c_x
    have hV2 : w2.heap[Vb]? = (w1.alloc (.cells #[.string (mkB x)] 9)).heap[Vb]? := hgrow.block Vb hVX (fun e => hnV e.symm)
    have c_2 : w2.cell? ⟨Vb, 4, none⟩ = some (.slice an xs.length cn) := (World.cell?_of_block hV2).trans c_x
    have f_2 : w2.frozen? ⟨Vb, 4, none⟩ = false := by
      rw [← f_x]
      unfold World.frozen?
      rw [hV2]
    have sb_2 : w2.cell? ⟨b, 0, none⟩ = some (pt P) := (World.cell?_of_block (hgrow.block b (World.block_lt_of_cell? _ _ sb_x) (fun e => hnb e.symm))).trans sb_x
    have sb_4 : (w2.setCell ⟨Vb, 4, none⟩ (.slice (some ⟨g', 0, none⟩) (xs.length + 1) cap')).cell? ⟨b, 0, none⟩ = some (pt P) := (World.cell?_of_block (Below.heap_setCell _ ⟨Vb, 4, none⟩ _ b hbV)).trans sb_2
    refine hK.out _ _ sb_2 (fun hHeld => ?_)
    clear hK K
    try simp only [Act.put, pA, pB, pC, pD, pE, pF]
    refine tK (i := 8) (v := .pointer (some ⟨Vb, 4, none⟩)) rfl (by kernel_rfl) HQp.out (Or.inl ⟨by rfl, ?_⟩) (by assumption) ?_
    · intro V hSV
      try dsimp only at hSV
      go_simp
      try with_reducible rfl
      try (intro h9; exfalso; omega)
    try simp only [Act.put, pA, pB, pC, pD, pE, pF]
    refine wpAnyH_ready (rs := [9]) (by kernel_rfl) (by simp) (AllReadyH.cons rfl (fun K hK => ?_) AllReadyH.nil)
    go_simp
    refine hK.out _ _ sb_4 (fun hHeld => ?_)
    clear hK K
    try simp only [Act.put, pA, pB, pC, pD, pE, pF]
    refine wpAnyH_done (by kernel_rfl) ?_ _
    try simp only [Act.put, pA, pB, pC, pD, pE, pF]
    exact HOk.out _ _ _ _ _ _ _ _ _ x q (w1.alloc (.cells #[.string (mkB x)] 9)) w2 g' cap' rfl HX.out.1 HX.out.2 r_x hgrow hat hown2
    go_simp
    refine hK.out _ _ hHeld (fun hHeld => ?_)
    clear hK K
    try simp only [Act.put, pA, pB, pC, pD, pE, pF]
    refine wpAnyH_ready (rs := [1, 5]) (by kernel_rfl) (by simp) (AllReadyH.cons rfl (fun K hK => ?_) (AllReadyH.cons rfl (fun K hK => ?_) AllReadyH.nil))
    go_simp
    refine hK.out _ _ hHeld (fun hHeld => ?_)
    clear hK K
    try simp only [Act.put, pA, pB, pC, pD, pE, pF]
    refine wpAnyH_ready (rs := [5]) (by kernel_rfl) (by simp) (AllReadyH.cons rfl (fun K hK => ?_) AllReadyH.nil)
    go_simp
    refine HD0.mono ?_
    rintro e1 w1 ⟨v1, rfl, rfl, hp1, hkw1⟩
    have hk1 := hk0.trans hkw1
    obtain ⟨c_1, f_1, r_1, sb_1⟩ := HNm.out w1 hk1
    have hkx := hk1.alloc (.cells #[.string (mkB x)] 9)
    obtain ⟨c_x, f_x, r_x, sb_x⟩ := HNm.out _ hkx
    have hpx := hp1.up (alB w1 (.cells #[.string (mkB x)] 9))
    have hzx : (w1.alloc (.cells #[.string (mkB x)] 9)).heap[w1.heap.size]? = some (.cells #[.string (mkB x)] 9 (0, 0)) := heap_alloc_new w1 _
    have HX : Hid (KP P W (w1.alloc (.cells #[.string (mkB x)] 9)) ∧ PsA P T (w1.alloc (.cells #[.string (mkB x)] 9)) q) := ⟨hkx, hpx⟩
    clear hkw1 hk1 hkx hp1 hpx
    refine hK.out _ _ sb_1 (fun hHeld => ?_)
    clear hK K
    try simp only [Act.put, pA, pB, pC, pD, pE, pF]
    refine wpAnyH_ready (rs := [6]) (by kernel_rfl) (by simp) (AllReadyH.cons rfl (fun K hK => ?_) AllReadyH.nil)
    go_simp
    refine hK.out _ _ sb_x (fun hHeld => ?_)
    clear hK K
    try simp only [Act.put, pA, pB, pC, pD, pE, pF]
    have hnews : ∀ (j : Nat) (u : Value), [Value.string (mkB x)][j]? = some u → (w1.alloc (.cells #[.string (mkB x)] 9)).cell? ((⟨w1.heap.size, 0, none⟩ : Addr).add j) = some u := fun j u hu => World.news_of_block hzx j u hu
    have hsX : lo ≤ (w1.alloc (.cells #[.string (mkB x)] 9)).heap.size := Nat.le_trans hlo HX.out.1.size
    refine wpAnyH_ready (rs := [7]) (by kernel_rfl) (by simp) (AllReadyH.cons rfl (fun K hK => ?_) AllReadyH.nil)
    refine step_append_lies (w1.alloc (.cells #[.string (mkB x)] 9)) (by rfl) (Operand.tmp 5) (Operand.tmp 10) 35 (by rfl) lo 9 i0 (.string ⟨#[]⟩) 1 16 Tryz.underlying35 hi hz0 hz1 hz2 rfl (by decide) (.slice an xs.length cn) xs.length (xs.map sv) (by rfl) r_x ⟨w1.heap.size, 0, none⟩ 1 1 [.string (mkB x)] (by rfl) rfl hnews (by simp [Value.oneCell']) (by decide) (by unfold maxLen; omega) (by omega) hsX (w1.alloc (.cells #[.string (mkB x)] 9)).heap.size rfl ?_
    intro g' cap' w2 hown2 hgrow hat hltg
    have hVX : Vb < (w1.alloc (.cells #[.string (mkB x)] 9)).heap.size := World.block_lt_of_cell? _ _ c_x
    have hV2 : w2.heap[Vb]? = (w1.alloc (.cells #[.string (mkB x)] 9)).heap[Vb]? := hgrow.block Vb hVX (fun e => hnV e.symm)
    have c_2 : w2.cell? ⟨Vb, 4, none⟩ = some (.slice an xs.length cn) := (World.cell?_of_block hV2).trans c_x
    have f_2 : w2.frozen? ⟨Vb, 4, none⟩ = false := by
      rw [← f_x]
      unfold World.frozen?
      rw [hV2]
    have sb_2 : w2.cell? ⟨b, 0, none⟩ = some (pt P) := (World.cell?_of_block (hgrow.block b (World.block_lt_of_cell? _ _ sb_x) (fun e => hnb e.symm))).trans sb_x
    have sb_4 : (w2.setCell ⟨Vb, 4, none⟩ (.slice (some ⟨g', 0, none⟩) (xs.length + 1) cap')).cell? ⟨b, 0, none⟩ = some (pt P) := (World.cell?_of_block (Below.heap_setCell _ ⟨Vb, 4, none⟩ _ b hbV)).trans sb_2
    refine hK.out _ _ sb_2 (fun hHeld => ?_)
    clear hK K
    try simp only [Act.put, pA, pB, pC, pD, pE, pF]
    refine tK (i := 8) (v := .pointer (some ⟨Vb, 4, none⟩)) rfl (by kernel_rfl) HQp.out (Or.inl ⟨by rfl, ?_⟩) (by assumption) ?_
    · intro V hSV
      try dsimp only at hSV
      go_simp
      try with_reducible rfl
      try (intro h9; exfalso; omega)
    try simp only [Act.put, pA, pB, pC, pD, pE, pF]
    refine wpAnyH_ready (rs := [9]) (by kernel_rfl) (by simp) (AllReadyH.cons rfl (fun K hK => ?_) AllReadyH.nil)
    go_simp
    refine hK.out _ _ sb_4 (fun hHeld => ?_)
    clear hK K
    try simp only [Act.put, pA, pB, pC, pD, pE, pF]
    refine wpAnyH_done (by kernel_rfl) ?_ _
    try simp only [Act.put, pA, pB, pC, pD, pE, pF]
    exact HOk.out _ _ _ _ _ _ _ _ _ x q (w1.alloc (.cells #[.string (mkB x)] 9)) w2 g' cap' rfl HX.out.1 HX.out.2 r_x hgrow hat hown2
    go_simp
    refine HD0.mono ?_
    rintro e1 w1 ⟨v1, rfl, rfl, hp1, hkw1⟩
    have hk1 := hk0.trans hkw1
    obtain ⟨c_1, f_1, r_1, sb_1⟩ := HNm.out w1 hk1
    have hkx := hk1.alloc (.cells #[.string (mkB x)] 9)
    obtain ⟨c_x, f_x, r_x, sb_x⟩ := HNm.out _ hkx
    have hpx := hp1.up (alB w1 (.cells #[.string (mkB x)] 9))
    have hzx : (w1.alloc (.cells #[.string (mkB x)] 9)).heap[w1.heap.size]? = some (.cells #[.string (mkB x)] 9 (0, 0)) := heap_alloc_new w1 _
    have HX : Hid (KP P W (w1.alloc (.cells #[.string (mkB x)] 9)) ∧ PsA P T (w1.alloc (.cells #[.string (mkB x)] 9)) q) := ⟨hkx, hpx⟩
    clear hkw1 hk1 hkx hp1 hpx
    refine hK.out _ _ sb_1 (fun hHeld => ?_)
    clear hK K
    try simp only [Act.put, pA, pB, pC, pD, pE, pF]
    refine wpAnyH_ready (rs := [1, 6]) (by kernel_rfl) (by simp) (AllReadyH.cons rfl (fun K hK => ?_) (AllReadyH.cons rfl (fun K hK => ?_) AllReadyH.nil))
    go_simp
    refine hK.out _ _ hHeld (fun hHeld => ?_)
    clear hK K
    try simp only [Act.put, pA, pB, pC, pD, pE, pF]
    refine wpAnyH_ready (rs := [6]) (by kernel_rfl) (by simp) (AllReadyH.cons rfl (fun K hK => ?_) AllReadyH.nil)
    go_simp
    refine hK.out _ _ sb_x (fun hHeld => ?_)
    clear hK K
    try simp only [Act.put, pA, pB, pC, pD, pE, pF]
    have hnews : ∀ (j : Nat) (u : Value), [Value.string (mkB x)][j]? = some u → (w1.alloc (.cells #[.string (mkB x)] 9)).cell? ((⟨w1.heap.size, 0, none⟩ : Addr).add j) = some u := fun j u hu => World.news_of_block hzx j u hu
    have hsX : lo ≤ (w1.alloc (.cells #[.string (mkB x)] 9)).heap.size := Nat.le_trans hlo HX.out.1.size
    refine wpAnyH_ready (rs := [7]) (by kernel_rfl) (by simp) (AllReadyH.cons rfl (fun K hK => ?_) AllReadyH.nil)
    refine step_append_lies (w1.alloc (.cells #[.string (mkB x)] 9)) (by rfl) (Operand.tmp 5) (Operand.tmp 10) 35 (by rfl) lo 9 i0 (.string ⟨#[]⟩) 1 16 Tryz.underlying35 hi hz0 hz1 hz2 rfl (by decide) (.slice an xs.length cn) xs.length (xs.map sv) (by rfl) r_x ⟨w1.heap.size, 0, none⟩ 1 1 [.string (mkB x)] (by rfl) rfl hnews (by simp [Value.oneCell']) (by decide) (by unfold maxLen; omega) (by omega) hsX (w1.alloc (.cells #[.string (mkB x)] 9)).heap.size rfl ?_
    intro g' cap' w2 hown2 hgrow hat hltg
    have hVX : Vb < (w1.alloc (.cells #[.string (mkB x)] 9)).heap.size := World.block_lt_of_cell? _ _ c_x
    have hV2 : w2.heap[Vb]? = (w1.alloc (.cells #[.string (mkB x)] 9)).heap[Vb]? := hgrow.block Vb hVX (fun e => hnV e.symm)
    have c_2 : w2.cell? ⟨Vb, 4, none⟩ = some (.slice an xs.length cn) := (World.cell?_of_block hV2).trans c_x
    have f_2 : w2.frozen? ⟨Vb, 4, none⟩ = false := by
      rw [← f_x]
      unfold World.frozen?
      rw [hV2]
    have sb_2 : w2.cell? ⟨b, 0, none⟩ = some (pt P) := (World.cell?_of_block (hgrow.block b (World.block_lt_of_cell? _ _ sb_x) (fun e => hnb e.symm))).trans sb_x
    have sb_4 : (w2.setCell ⟨Vb, 4, none⟩ (.slice (some ⟨g', 0, none⟩) (xs.length + 1) cap')).cell? ⟨b, 0, none⟩ = some (pt P) := (World.cell?_of_block (Below.heap_setCell _ ⟨Vb, 4, none⟩ _ b hbV)).trans sb_2
    refine hK.out _ _ sb_2 (fun hHeld => ?_)
    clear hK K
    try simp only [Act.put, pA, pB, pC, pD, pE, pF]
    refine tK (i := 8) (v := .pointer (some ⟨Vb, 4, none⟩)) rfl (by kernel_rfl) HQp.out (Or.inl ⟨by rfl, ?_⟩) (by assumption) ?_
    · intro V hSV
      try dsimp only at hSV
      go_simp
      try with_reducible rfl
      try (intro h9; exfalso; omega)
    try simp only [Act.put, pA, pB, pC, pD, pE, pF]
    refine wpAnyH_ready (rs := [9]) (by kernel_rfl) (by simp) (AllReadyH.cons rfl (fun K hK => ?_) AllReadyH.nil)
    go_simp
    refine hK.out _ _ sb_4 (fun hHeld => ?_)
    clear hK K
    try simp only [Act.put, pA, pB, pC, pD, pE, pF]
    refine wpAnyH_done (by kernel_rfl) ?_ _
    try simp only [Act.put, pA, pB, pC, pD, pE, pF]
    exact HOk.out _ _ _ _ _ _ _ _ _ x q (w1.alloc (.cells #[.string (mkB x)] 9)) w2 g' cap' rfl HX.out.1 HX.out.2 r_x hgrow hat hown2
    go_simp
    refine hK.out _ _ sb_x (fun hHeld => ?_)
    clear hK K
    try simp only [Act.put, pA, pB, pC, pD, pE, pF]
    refine wpAnyH_ready (rs := [1]) (by kernel_rfl) (by simp) (AllReadyH.cons rfl (fun K hK => ?_) AllReadyH.nil)
    go_simp
    refine hK.out _ _ hHeld (fun hHeld => ?_)
    clear hK K
    try simp only [Act.put, pA, pB, pC, pD, pE, pF]
    have hnews : ∀ (j : Nat) (u : Value), [Value.string (mkB x)][j]? = some u → (w1.alloc (.cells #[.string (mkB x)] 9)).cell? ((⟨w1.heap.size, 0, none⟩ : Addr).add j) = some u := fun j u hu => World.news_of_block hzx j u hu
    have hsX : lo ≤ (w1.alloc (.cells #[.string (mkB x)] 9)).heap.size := Nat.le_trans hlo HX.out.1.size
    refine wpAnyH_ready (rs := [7]) (by kernel_rfl) (by simp) (AllReadyH.cons rfl (fun K hK => ?_) AllReadyH.nil)
    refine step_append_lies (w1.alloc (.cells #[.string (mkB x)] 9)) (by rfl) (Operand.tmp 5) (Operand.tmp 10) 35 (by rfl) lo 9 i0 (.string ⟨#[]⟩) 1 16 Tryz.underlying35 hi hz0 hz1 hz2 rfl (by decide) (.slice an xs.length cn) xs.length (xs.map sv) (by rfl) r_x ⟨w1.heap.size, 0, none⟩ 1 1 [.string (mkB x)] (by rfl) rfl hnews (by simp [Value.oneCell']) (by decide) (by unfold maxLen; omega) (by omega) hsX (w1.alloc (.cells #[.string (mkB x)] 9)).heap.size rfl ?_
    intro g' cap' w2 hown2 hgrow hat hltg
    have hVX : Vb < (w1.alloc (.cells #[.string (mkB x)] 9)).heap.size := World.block_lt_of_cell? _ _ c_x
    have hV2 : w2.heap[Vb]? = (w1.alloc (.cells #[.string (mkB x)] 9)).heap[Vb]? := hgrow.block Vb hVX (fun e => hnV e.symm)
    have c_2 : w2.cell? ⟨Vb, 4, none⟩ = some (.slice an xs.length cn) := (World.cell?_of_block hV2).trans c_x
    have f_2 : w2.frozen? ⟨Vb, 4, none⟩ = false := by
      rw [← f_x]
      unfold World.frozen?
      rw [hV2]
    have sb_2 : w2.cell? ⟨b, 0, none⟩ = some (pt P) := (World.cell?_of_block (hgrow.block b (World.block_lt_of_cell? _ _ sb_x) (fun e => hnb e.symm))).trans sb_x
    have sb_4 : (w2.setCell ⟨Vb, 4, none⟩ (.slice (some ⟨g', 0, none⟩) (xs.length + 1) cap')).cell? ⟨b, 0, none⟩ = some (pt P) := (World.cell?_of_block (Below.heap_setCell _ ⟨Vb, 4, none⟩ _ b hbV)).trans sb_2
    refine hK.out _ _ sb_2 (fun hHeld => ?_)
    clear hK K
    try simp only [Act.put, pA, pB, pC, pD, pE, pF]
    refine tK (i := 8) (v := .pointer (some ⟨Vb, 4, none⟩)) rfl (by kernel_rfl) HQp.out (Or.inl ⟨by rfl, ?_⟩) (by assumption) ?_
    · intro V hSV
      try dsimp only at hSV
      go_simp
      try with_reducible rfl
      try (intro h9; exfalso; omega)
    try simp only [Act.put, pA, pB, pC, pD, pE, pF]
    refine wpAnyH_ready (rs := [9]) (by kernel_rfl) (by simp) (AllReadyH.cons rfl (fun K hK => ?_) AllReadyH.nil)
    go_simp
    refine hK.out _ _ sb_4 (fun hHeld => ?_)
    clear hK K
    try simp only [Act.put, pA, pB, pC, pD, pE, pF]
    refine wpAnyH_done (by kernel_rfl) ?_ _
    try simp only [Act.put, pA, pB, pC, pD, pE, pF]
    exact HOk.out _ _ _ _ _ _ _ _ _ x q (w1.alloc (.cells #[.string (mkB x)] 9)) w2 g' cap' rfl HX.out.1 HX.out.2 r_x hgrow hat hown2
end Go.Proofs.YtcaeeackccgclaaGreatDoor

/- call: each of what is handed in. -/
namespace Go.Proofs.YtcaeeackccgclaaGreatDoor
open Go.RowKit Go.Shelf
attribute [local go_sem ↓] fld0 fld1 fld2 fld3

set_option maxHeartbeats 40000000 in
set_option maxRecDepth 100000 in
theorem callE_any {Sx : Nat → Prop} {P T lo Eb b : Nat} {W0 : World} {E : Ps → Px Ex} (hEx : MethC P T 70 E) (hP : P < lo) (hT : T < lo) (hSx : ∀ g, Sx g → g < lo ∧ g ≠ P ∧ g ≠ Eb) (hPE : Eb ≠ P) (hTE : T ≠ Eb) (hbl : b < lo) (hbP : b ≠ P) (hbE : b ≠ Eb) (hb : W0.cell? ⟨b, 0, none⟩ = some (pt P)) :
    EachC 161 #[pt b, pt Eb] (LI Sx P T lo Eb W0) (FrL P lo Eb W0) (caE E) := by
  refine ⟨enters_of Tryz.func161 (by kernel_rfl) rfl, fun W s p z h hz => ?_⟩
  obtain ⟨hn, hz9⟩ := iff_some hz
  obtain ⟨hn0, hn2⟩ := (Bool.and_eq_true _ _).mp hn
  have hn1 : s.kids.length < 1000001 := by have := of_decide_eq_true hn0; omega
  have hnn : s.names.length < 1000000 := of_decide_eq_true hn2
  have HSb : Hid (∀ V, FrL P lo Eb W0 V → V.cell? ⟨b, 0, none⟩ = some (pt P)) := fun V hV => (World.cell?_of_block (hV.blk b hbl hbP hbE)).trans hb
  have HCo : Hid _ := (⟨hEx, hP, hT, hSx, hPE, hTE, hbl, hbP, hbE, hb⟩ : MethC P T 70 E ∧ P < lo ∧ T < lo ∧ (∀ g, Sx g → g < lo ∧ g ≠ P ∧ g ≠ Eb) ∧ Eb ≠ P ∧ T ≠ Eb ∧ b < lo ∧ b ≠ P ∧ b ≠ Eb ∧ W0.cell? ⟨b, 0, none⟩ = some (pt P))
  have HLi : Hid (LI Sx P T lo Eb W0 W s p) := h
  obtain ⟨R1, hR1⟩ : ∃ R, R = subW [false, true, false, false] (Tryz.f161.body.getD .skip) := ⟨_, rfl⟩
  have HR1 : Hid (R1 = subW [false, true, false, false] (Tryz.f161.body.getD .skip)) := hR1
  have hl1 : subW [false, true, false, false] (Tryz.f161.body.getD .skip) = R1 := hR1.symm
  obtain ⟨R2, hR2⟩ : ∃ R, R = subW [true] (Tryz.f161.body.getD .skip) := ⟨_, rfl⟩
  have HR2 : Hid (R2 = subW [true] (Tryz.f161.body.getD .skip)) := hR2
  have hl2 : subW [true] (Tryz.f161.body.getD .skip) = R2 := hR2.symm
  conv at hl1 => lhs; whnf
  conv at hl2 => lhs; whnf
  have sb0 := HSb.out _ h.fr
  have HS := seesSet_any h.ps
  go_enter Tryz.func161, Tryz.ntmps161
  rw [hl1, hl2]
  clear hl1 hl2 hR1 hR2 h hEx hP hT hSx hPE hTE hbl hbP hbE hb hz hn hn0 hn2
  cases hss : sSet p with
  | true =>
    rw [hss] at HS
    simp only [hss, cond_true] at hz9
    go_wp2_with fail
    refine HS.mono ?_
    rintro e1 w1 ⟨rfl, hb1⟩
    have hLI1 := HLi.out.kp (KP.of_below (P := P) hb1) (HLi.out.ps.up hb1) HCo.out.2.1 HCo.out.2.2.2.2.1 HCo.out.2.2.2.1
    clear HS hb1 HLi sb0
    obtain ⟨hps1, hfr1, kv, nv, vs, bu⟩ := hLI1
    have HB1 : Hid (FrL P lo Eb W0 w1 ∧ BuB Sx lo Eb w1 s kv nv vs) := ⟨hfr1, bu⟩
    have hnm : ∀ W', KP P w1 W' → W'.cell? ⟨Eb, 4, none⟩ = some nv ∧ W'.frozen? ⟨Eb, 4, none⟩ = false ∧ W'.ownsRow lo 9 1 nv s.names.length (s.names.map sv) ∧ W'.cell? ⟨b, 0, none⟩ = some (pt P) := fun W' hk => by
      have b2 := HB1.out.2.keepK hk HCo.out.2.1 HCo.out.2.2.2.2.1 HCo.out.2.2.2.1
      exact ⟨b2.ev.five.2.2.2.2, b2.ev.fz 4, b2.nr, HSb.out _ (HB1.out.1.kp hk)⟩
    have hnb : nv.ownBlock ≠ some b := fun e => by have h1 := (bu.nr.lt b e).1; have h2 := HCo.out.2.2.2.2.2.2.1; omega
    have hnV := bu.nn
    have hlo := hfr1.size
    clear hfr1 bu
    go_wp2
    rw [HR1.out]
    rcases bnd_some hz9 with ⟨x, hx, rfl⟩ | ⟨x, q, hx, hq⟩
    · refine nr_ca hlo HCo.out.2.1 hnV HCo.out.2.2.2.2.2.2.2.2.1 hnb hps1 hnm (by omega) hx _ (fun _ _ _ _ hd h => ⟨hd.symm.trans h.1, h.2⟩) ?_ ?_
      · intro x9 a w' hd9 e9 hk
        cases e9
        exact ⟨hd9, lpo_err (HB1.out.1.kp hk)⟩
      · intro u4 u5 u6 u7 u8 u9 u10 u11 u12 x q X w2 g' cap' e9
        cases e9
    · refine nr_ca hlo HCo.out.2.1 hnV HCo.out.2.2.2.2.2.2.2.2.1 hnb hps1 hnm (by omega) hx _ (fun _ _ _ _ hd h => ⟨hd.symm.trans h.1, h.2⟩) ?_ ?_
      · intro x9 a w' hd9 e9 hk
        cases e9
      · intro u4 u5 u6 u7 u8 u9 u10 u11 u12 x' q' X w2 g' cap' e9 hkX hpX hrX hgrow hat hown2
        cases e9
        have bX := HB1.out.2.keepK hkX HCo.out.2.1 HCo.out.2.2.2.2.1 HCo.out.2.2.2.1
        have fX := HB1.out.1.kp hkX
        have hEX := bX.ev.lt
        have hgE : g' ≠ Eb := by
          rcases hat with h1 | h1
          · exact fun e => bX.nn (e ▸ h1)
          · omega
        have ev2 := bX.ev.keep (hgrow.block Eb hEX (fun e => bX.nn e.symm))
        have ev3 := ev2.put4 (.slice (some ⟨g', 0, none⟩) (s.names.length + 1) cap')
        obtain ⟨hB3, hF3, hO3⟩ := BuB.pushN (Wf := w2.setCell ⟨Eb, 4, none⟩ (.slice (some ⟨g', 0, none⟩) (s.names.length + 1) cap')) bX x hgrow hat fX (own_heap hown2 fun g hg => Below.heap_setCell _ ⟨Eb, 4, none⟩ _ g (fun e => hgE ((ob_eq hg).trans e))) ev3 (fun g hg => Below.heap_setCell _ ⟨Eb, 4, none⟩ _ g hg) rfl rfl rfl (by rw [size_set]; exact Nat.le_refl _)
        have hp3 : PsA P T (w2.setCell ⟨Eb, 4, none⟩ (.slice (some ⟨g', 0, none⟩) (s.names.length + 1) cap')) q := hpX.keep (hO3 P HCo.out.2.1 (fun e => HCo.out.2.2.2.2.1 e.symm)) (hO3 T HCo.out.2.2.1 HCo.out.2.2.2.2.2.1)
        have sb3 := HSb.out _ hF3
        have HL3 : Hid (LI Sx P T lo Eb W0 (w2.setCell ⟨Eb, 4, none⟩ (.slice (some ⟨g', 0, none⟩) (s.names.length + 1) cap')) { s with names := s.names ++ [x] } q) := ⟨hp3, hF3, _, _, _, hB3⟩
        have hkl : ({ s with names := s.names ++ [x] } : Ex).kids.length < 1000001 := hn1
        generalize ({ s with names := s.names ++ [x] } : Ex) = s3 at *
        generalize w2.setCell ⟨Eb, 4, none⟩ (.slice (some ⟨g', 0, none⟩) (s.names.length + 1) cap') = w3 at *
        clear hkX hpX hrX hgrow hat hown2 bX fX hEX hgE ev2 ev3 hB3 hF3 hO3 HB1 hnm hnb hnV hlo hps1 hz9 hx
        rcases bnd_some hq with ⟨x, hx, rfl⟩ | ⟨_, q4, hx, hq4⟩
        · have HT := takeSign_any hp3 [61] hx
          clear hp3
          go_wp2_with fail
          refine HT.mono ?_
          rintro e4 w4 hpo
          obtain ⟨rfl, hk4⟩ := bad_panic hpo (KP.refl P w3)
          exact ⟨rfl, lpo_err (HL3.out.fr.kp hk4)⟩
        · have HT := takeSign_any hp3 [61] hx
          clear hp3
          go_wp2_with fail
          refine HT.mono ?_
          rintro e4 w4 ⟨v4, rfl, rfl, hp4, hk4⟩
          have HL4 : Hid (LI Sx P T lo Eb W0 w4 s3 q4) := HL3.out.kp hk4 hp4 HCo.out.2.1 HCo.out.2.2.2.2.1 HCo.out.2.2.2.1
          clear hk4 hp4 HT HL3 sb3 hx hq
          go_wp2
          rw [HR2.out]
          rcases kd_some hq4 with ⟨x1, hx1, hx2⟩ | ⟨y, q, hx1, hx2⟩
          · cases hx2
            refine kr_ca HCo.out.1 HCo.out.2.1 HCo.out.2.2.1 HCo.out.2.2.2.1 HCo.out.2.2.2.2.1 HCo.out.2.2.2.2.2.1 HCo.out.2.2.2.2.2.2.1 HCo.out.2.2.2.2.2.2.2.1 HCo.out.2.2.2.2.2.2.2.2.1 HCo.out.2.2.2.2.2.2.2.2.2 HL4.out hkl (by exact hx1) _ (fun _ _ _ _ hd h => ⟨hd.symm.trans h.1, h.2⟩) ?_ ?_
            · intro x9 a w' hd9 e9 hfr
              cases e9
              exact ⟨hd9, lpo_err hfr⟩
            · intro y q u21 u22 u23 u24 u25 u26 u27 u28 u29 w' e9 hLI
              cases e9
          · cases hx2
            refine kr_ca HCo.out.1 HCo.out.2.1 HCo.out.2.2.1 HCo.out.2.2.2.1 HCo.out.2.2.2.2.1 HCo.out.2.2.2.2.2.1 HCo.out.2.2.2.2.2.2.1 HCo.out.2.2.2.2.2.2.2.1 HCo.out.2.2.2.2.2.2.2.2.1 HCo.out.2.2.2.2.2.2.2.2.2 HL4.out hkl (by exact hx1) _ (fun _ _ _ _ hd h => ⟨hd.symm.trans h.1, h.2⟩) ?_ ?_
            · intro x9 a w' hd9 e9 hfr
              cases e9
            · intro y' q' u21 u22 u23 u24 u25 u26 u27 u28 u29 w' e9 hLI
              cases e9
              go_end0
              exact ⟨rfl, hLI⟩
  | false =>
    rw [hss] at HS
    simp only [hss, cond_false] at hz9
    go_wp2_with fail
    refine HS.mono ?_
    rintro e1 w1 ⟨rfl, hb1⟩
    have HL1 : Hid (LI Sx P T lo Eb W0 w1 s p) := HLi.out.kp (KP.of_below (P := P) hb1) (HLi.out.ps.up hb1) HCo.out.2.1 HCo.out.2.2.2.2.1 HCo.out.2.2.2.1
    have sb1 := HSb.out _ HL1.out.fr
    have HG := giveUpIf_any HL1.out.ps (decide (0 < s.names.length)) 1
    obtain ⟨kv, nv, vs, bu⟩ := HL1.out.bu
    obtain ⟨an, cn, rfl⟩ := row_shape bu.nr
    have c4 := bu.ev.five.2.2.2.2
    clear HS hb1 HLi sb0 bu
    by_cases h0 : 0 < s.names.length
    · have hi0 : (0 : Int) < (s.names.length : Int) := by omega
      unfold guIf at hz9
      simp only [h0, decide_true, cond_true] at HG hz9
      cases hz9
      go_wp2_with fail
      refine HG.mono ?_
      rintro e2 w2 ⟨rfl, hb2⟩
      exact ⟨rfl, rfl, HL1.out.fr.kp (KP.of_below hb2)⟩
    · have hi0 : ¬ (0 : Int) < (s.names.length : Int) := by omega
      unfold guIf at hz9
      simp only [h0, decide_false, cond_false] at HG hz9
      replace hz9 : kdE E s p = some z := hz9
      go_wp2_with fail
      refine HG.mono ?_
      rintro e2 w2 ⟨rfl, hb2⟩
      have HL4 : Hid (LI Sx P T lo Eb W0 w2 s p) := HL1.out.kp (KP.of_below (P := P) hb2) (HL1.out.ps.up hb2) HCo.out.2.1 HCo.out.2.2.2.2.1 HCo.out.2.2.2.1
      clear HG hb2 HL1 sb1 c4
      go_wp2
      rw [HR2.out]
      rcases kd_some hz9 with ⟨x1, hx1, hx2⟩ | ⟨y, q, hx1, hx2⟩
      · cases hx2
        refine kr_ca HCo.out.1 HCo.out.2.1 HCo.out.2.2.1 HCo.out.2.2.2.1 HCo.out.2.2.2.2.1 HCo.out.2.2.2.2.2.1 HCo.out.2.2.2.2.2.2.1 HCo.out.2.2.2.2.2.2.2.1 HCo.out.2.2.2.2.2.2.2.2.1 HCo.out.2.2.2.2.2.2.2.2.2 HL4.out hn1 (by exact hx1) _ (fun _ _ _ _ hd h => ⟨hd.symm.trans h.1, h.2⟩) ?_ ?_
        · intro x9 a w' hd9 e9 hfr
          cases e9
          exact ⟨hd9, lpo_err hfr⟩
        · intro y q u21 u22 u23 u24 u25 u26 u27 u28 u29 w' e9 hLI
          cases e9
      · cases hx2
        refine kr_ca HCo.out.1 HCo.out.2.1 HCo.out.2.2.1 HCo.out.2.2.2.1 HCo.out.2.2.2.2.1 HCo.out.2.2.2.2.2.1 HCo.out.2.2.2.2.2.2.1 HCo.out.2.2.2.2.2.2.2.1 HCo.out.2.2.2.2.2.2.2.2.1 HCo.out.2.2.2.2.2.2.2.2.2 HL4.out hn1 (by exact hx1) _ (fun _ _ _ _ hd h => ⟨hd.symm.trans h.1, h.2⟩) ?_ ?_
        · intro x9 a w' hd9 e9 hfr
          cases e9
        · intro y' q' u21 u22 u23 u24 u25 u26 u27 u28 u29 w' e9 hLI
          cases e9
          go_end0
          exact ⟨rfl, hLI⟩
end Go.Proofs.YtcaeeackccgclaaGreatDoor

/- call: what is called, and what is handed in. -/
namespace Go.Proofs.YtcaeeackccgclaaGreatDoor
open Go.RowKit Go.Shelf
attribute [local go_sem ↓] fld0 fld1 fld2 fld3
attribute [local go_sem] mk_func

abbrev clE (n : Nat) : Obj := .cells #[.int .i64 10, .int .i64 0, .string ⟨#[]⟩, .slice (some ⟨n, 0, none⟩) 1 1, .slice none 0 0] 38
def clW (P : Nat) (W : World) (C : Array Value) : World := ((((W.alloc (.cells #[pt P] 73)).alloc (.cells C 38)).alloc ez).alloc (.cells C 38)).alloc (clE (W.heap.size + 1 + 1 + 1))
theorem cl_facts {P T : Nat} {W : World} {p : Ps} (h : PsA P T W p) (C : Array Value) : PsA P T (clW P W C) p ∧ KP P W (clW P W C) ∧ (clW P W C).heap[W.heap.size]? = some (.cells #[pt P] 73 (0, 0)) ∧ (clW P W C).heap[W.heap.size + 1 + 1]? = some ez ∧ (clW P W C).heap[W.heap.size + 1 + 1 + 1]? = some (.cells C 38 (0, 0)) ∧ (clW P W C).heap[W.heap.size + 1 + 1 + 1 + 1]? = some (clE (W.heap.size + 1 + 1 + 1)) ∧ (clW P W C).heap.size = W.heap.size + 1 + 1 + 1 + 1 + 1 ∧ Below W.heap.size W (clW P W C) := by
  unfold clW
  obtain ⟨V1, h1⟩ : ∃ V, V = W.alloc (.cells #[pt P] 73) := ⟨_, rfl⟩
  rw [← h1]
  obtain ⟨V2, h2⟩ : ∃ V, V = V1.alloc (.cells C 38) := ⟨_, rfl⟩
  rw [← h2]
  obtain ⟨V3, h3⟩ : ∃ V, V = V2.alloc ez := ⟨_, rfl⟩
  rw [← h3]
  obtain ⟨V4, h4⟩ : ∃ V, V = V3.alloc (.cells C 38) := ⟨_, rfl⟩
  rw [← h4]
  have s1 : V1.heap.size = W.heap.size + 1 := by rw [h1, World.size_alloc]
  have s2 : V2.heap.size = W.heap.size + 1 + 1 := by rw [h2, World.size_alloc, s1]
  have s3 : V3.heap.size = W.heap.size + 1 + 1 + 1 := by rw [h3, World.size_alloc, s2]
  have s4 : V4.heap.size = W.heap.size + 1 + 1 + 1 + 1 := by rw [h4, World.size_alloc, s3]
  have hb : Below W.heap.size W (V4.alloc (clE (W.heap.size + 1 + 1 + 1))) := by
    have b1 : Below W.heap.size W V1 := by rw [h1]; exact alB W _
    have b2 : Below W.heap.size W V2 := by rw [h2]; exact b1.alloc b1.size _
    have b3 : Below W.heap.size W V3 := by rw [h3]; exact b2.alloc b2.size _
    have b4 : Below W.heap.size W V4 := by rw [h4]; exact b3.alloc b3.size _
    exact b4.alloc b4.size _
  refine ⟨h.up hb, KP.of_below hb, ?_, ?_, ?_, ?_, by rw [World.size_alloc, s4], hb⟩
  · rw [heap_al _ _ _ (by omega), h4, heap_al _ _ _ (by omega), h3, heap_al _ _ _ (by omega), h2, heap_al _ _ _ (by omega), h1]
    exact heap_alloc_new W _
  · rw [heap_al _ _ _ (by omega), h4, heap_al _ _ _ (by omega), h3, ← s2]
    exact heap_alloc_new V2 _
  · rw [heap_al _ _ _ (by omega), h4, ← s3]
    exact heap_alloc_new V3 _
  · rw [← s4]
    exact heap_alloc_new V4 _

set_option maxHeartbeats 8000000 in
set_option maxRecDepth 100000 in
theorem call_any {P T : Nat} {E : Ps → Px Ex} (hEx : MethC P T 70 E) : CallC P T 159 (fun e => lst [41] (caE E) ⟨10, 0, [], [e], []⟩) := by
  intro W S e c p z h hxe hSP hz
  have hPl := h.lt
  have hTl := h.ltT
  obtain ⟨a1, c1, a2, c2, hc⟩ := hxe.form
  obtain ⟨h0, hk0, hb0, hr0, hq0, he0, s0, hbl⟩ := cl_facts (T := T) h c.toArray
  have hcb : (clW P W c.toArray).cell? ⟨W.heap.size, 0, none⟩ = some (pt P) := by rw [Lib.cell_of_heap hb0]; rfl
  have ev1 : EV (clW P W c.toArray) (W.heap.size + 1 + 1 + 1 + 1) [.int .i64 10, .int .i64 0, .string ⟨#[]⟩, .slice (some ⟨W.heap.size + 1 + 1 + 1, 0, none⟩) 1 1, .slice none 0 0] := ⟨⟨_, he0, rfl⟩, fun j v hv => by
    rw [Nat.zero_add, Lib.cell_of_heap he0, ← hv]
    simp⟩
  have hx0 : ExA (clW P W c.toArray) (fun g => (((S g ∧ g < W.heap.size) ∨ W.heap.size + 1 + 1 + 1 ≤ g) ∧ g ≠ W.heap.size + 1 + 1 + 1 + 1 ∧ (Value.slice (some ⟨W.heap.size + 1 + 1 + 1, 0, none⟩) 1 1).ownBlock ≠ some g ∧ (Value.slice none 0 0).ownBlock ≠ some g)) e c := hxe.keep (fun g _ hg2 => hbl.block g hg2) (fun g hg hg2 => ⟨.inl ⟨hg, hg2⟩, by omega, fun e9 => by have := ob_eq e9; omega, fun e9 => by cases e9⟩)
  have hkr : (clW P W c.toArray).ownsRow (W.heap.size + 1 + 1 + 1) 38 5 (.slice (some ⟨W.heap.size + 1 + 1 + 1, 0, none⟩) 1 1) ([e] : List Ex).length ([c] : List (List Value)).flatten := ⟨by simpa using hxe.len, .inr ⟨W.heap.size + 1 + 1 + 1, 1, c.toArray, rfl, Nat.le_refl _, hq0, Nat.le_refl _, by decide, by simpa using hxe.len, by simpa using List.take_of_length_le (Nat.le_of_eq hxe.len)⟩⟩
  have hJ : LI (fun g => S g ∧ g < W.heap.size) P T (W.heap.size + 1 + 1 + 1) (W.heap.size + 1 + 1 + 1 + 1) (clW P W c.toArray) (clW P W c.toArray) ⟨10, 0, [], [e], []⟩ p := ⟨h0, ⟨rfl, rfl, rfl, by omega, fun _ _ _ _ => rfl⟩, .slice (some ⟨W.heap.size + 1 + 1 + 1, 0, none⟩) 1 1, .slice none 0 0, [c], ev1, hkr, World.ownsRow_nil _ _ _ _, (fun g _ e9 => by cases e9), (fun e9 => by have := ob_eq e9; omega), (fun e9 => by cases e9), ⟨hx0, trivial⟩⟩
  have HC := listed_any (li_liv (by omega) (by omega) (fun g hg => ⟨by have := hg.2; omega, hSP g hg.1, by have := hg.2; omega⟩)) (callE_any (b := W.heap.size) hEx (by omega) (by omega) (fun g hg => ⟨by have := hg.2; omega, hSP g hg.1, by have := hg.2; omega⟩) (by omega) (by omega) (by omega) (by omega) (by omega) hcb) [41] hJ hz
  have HQ : Hid (KP P W (clW P W c.toArray) ∧ (clW P W c.toArray).heap[W.heap.size + 1 + 1]? = some ez ∧ (clW P W c.toArray).heap.size = W.heap.size + 1 + 1 + 1 + 1 + 1) := ⟨hk0, hr0, s0⟩
  clear h h0 hk0 hb0 hr0 hq0 he0 s0 hbl ev1 hx0 hkr hJ hEx hz hxe
  subst hc
  unfold clW at *
  go_enter Tryz.func159, Tryz.ntmps159
  go_wp2_with fail
  refine HC.mono ?_
  rintro e9 w1 hpo
  have hfr : ∀ w', FrL P (W.heap.size + 1 + 1 + 1) (W.heap.size + 1 + 1 + 1 + 1) _ w' → KP P W w' := fun w' hf => ⟨hf.os.trans HQ.out.1.os, hf.tape.trans HQ.out.1.tape, hf.output.trans HQ.out.1.output, by have := hf.size; omega, fun g hg hp => (hf.blk g (by omega) hp (by omega)).trans (HQ.out.1.blk g hg hp)⟩
  cases z with
  | error x =>
    obtain ⟨rfl, hn⟩ := bad_lpo hpo
    exact ⟨rfl, rfl, hfr _ hn⟩
  | ok r =>
    obtain ⟨x, q⟩ := r
    obtain ⟨rfl, hli⟩ := hpo
    obtain ⟨c, hev, hx⟩ := hli.done
    have hr2 : w1.heap[W.heap.size + 1 + 1]? = some ez := (hli.fr.blk _ (by omega) (by omega) (by omega)).trans HQ.out.2.1
    obtain ⟨t2, i2, o2, l2, j2⟩ := fin5 hr2 rfl hx
    have HZ : Hid (PoA P T (fun w' x v => ∃ c', v = .agg c'.toArray ∧ ExA w' (fun g => S g ∨ W.heap.size ≤ g) x c') W (.ok (x, q)) (.returned (.agg c.toArray)) (w1.setCells (W.heap.size + 1 + 1) 0 c)) := ⟨_, rfl, ⟨c, rfl, hx.keep (fun g hg _ => heap_sets (W.heap.size + 1 + 1) c 0 w1 g (by rcases hg.1 with hg | hg; (· have := hg.2; omega); (· omega))) (fun g hg _ => by rcases hg.1 with hg | hg; (· exact .inl hg.1); (· exact .inr (by omega)))⟩, hli.ps.sets (by omega) (by omega) _, (hfr _ hli.fr).sets (by omega) _⟩
    have HG : Hid (w1.rangeAt (W.heap.size + 1 + 1 + 1 + 1) 0 c ∧ (Tryz.prog.info? 38).map (·.size) = some c.length ∧ w1.there (W.heap.size + 1 + 1) 0 c.toArray.size ∧ (Tryz.prog.info? 38).map (·.size) = some c.toArray.size ∧ c.toArray.all (·.oneCell') = true ∧ (loadVar 38 ⟨W.heap.size + 1 + 1, 0, none⟩).run Tryz.prog (w1.setCells (W.heap.size + 1 + 1) 0 c) = .ok (.agg c.toArray) (w1.setCells (W.heap.size + 1 + 1) 0 c)) := ⟨hev.2, j2, t2, i2, o2, l2⟩
    clear t2 i2 o2 l2 j2 hx hev hli hr2 hfr HQ HC
    go_wp2_with (first
      | (refine wpList_load_mid rfl 38 (Operand.tmp 5) rfl (W.heap.size + 1 + 1 + 1 + 1) 0 rfl c _ HG.out.1 Tryz.underlying38 rfl HG.out.2.1 ?_)
      | (refine wpList_store_mid rfl 38 (Operand.tmp 4) (Operand.tmp 12) rfl (W.heap.size + 1 + 1) 0 c.toArray rfl rfl HG.out.2.2.1 HG.out.2.2.2.1 HG.out.2.2.2.2.1 ?_)
      | fail)
    refine bodyPost_ret (v := .agg c.toArray) (res_one Tryz.results159 _ _ rfl HG.out.2.2.2.2.2) rfl HZ.out
end Go.Proofs.YtcaeeackccgclaaGreatDoor

/- list, dictionary, call; and an expression, whole. -/
namespace Go.Proofs.YtcaeeackccgclaaGreatDoor
open Go.RowKit Go.Shelf
attribute [local go_sem ↓] fld0 fld1 fld2 fld3
attribute [local go_sem] mk_func

abbrev l7 : Obj := .cells #[.int .i64 7, .int .i64 0, .string ⟨#[]⟩, .slice none 0 0, .slice none 0 0] 38
abbrev l8 : Obj := .cells #[.int .i64 8, .int .i64 0, .string ⟨#[]⟩, .slice none 0 0, .slice none 0 0] 38

set_option maxHeartbeats 8000000 in
set_option maxRecDepth 100000 in
theorem list_any {P T : Nat} {E : Ps → Px Ex} (hEx : MethC P T 70 E) : MethC P T 162 (lst [93] (liE E) ⟨7, 0, [], [], []⟩) := by
  intro W p z h hz
  have hPl := h.lt
  have hTl := h.ltT
  obtain ⟨h0, hk0, hb0, hr0, s0⟩ := bg_facts h
  have s1 : ((bgW P W).alloc l7).heap.size = W.heap.size + 1 + 1 + 1 := by rw [World.size_alloc, s0]
  have hk1 := hk0.trans (KP.al P (bgW P W) l7)
  have hb1 := hb0.keep (KP.al P (bgW P W) l7)
  have cb := hb1.2
  have hr1 : ((bgW P W).alloc l7).heap[W.heap.size + 1]? = some ez := (heap_al _ _ _ (by omega)).trans hr0
  have he1 : ((bgW P W).alloc l7).heap[W.heap.size + 1 + 1]? = some l7 := by
    have := heap_alloc_new (bgW P W) l7
    rwa [s0] at this
  have ev1 : EV ((bgW P W).alloc l7) (W.heap.size + 1 + 1) [.int .i64 7, .int .i64 0, .string ⟨#[]⟩, .slice none 0 0, .slice none 0 0] := ⟨⟨_, he1, rfl⟩, fun j v hv => by
    rw [Nat.zero_add, Lib.cell_of_heap he1, ← hv]
    simp⟩
  have hJ : LI (fun _ => False) P T (W.heap.size + 1 + 1 + 1) (W.heap.size + 1 + 1) ((bgW P W).alloc l7) ((bgW P W).alloc l7) ⟨7, 0, [], [], []⟩ p := ⟨h0.up (alB _ _), ⟨rfl, rfl, rfl, by omega, fun _ _ _ _ => rfl⟩, .slice none 0 0, .slice none 0 0, [], ev1, World.ownsRow_nil _ _ _ _, World.ownsRow_nil _ _ _ _, (fun g hg => by cases hg), (fun e => by cases e), (fun e => by cases e), trivial⟩
  have HC := listed_any (li_liv (by omega) (by omega) (fun _ h => h.elim)) (listE_any (b := W.heap.size) hEx (by omega) (by omega) (fun _ h => h.elim) (by omega) (by omega) (by omega) (by omega) (by omega) hb1.2) [93] hJ hz
  have HQ : Hid (KP P W ((bgW P W).alloc l7) ∧ ((bgW P W).alloc l7).heap[W.heap.size + 1]? = some ez ∧ ((bgW P W).alloc l7).heap.size = W.heap.size + 1 + 1 + 1) := ⟨hk1, hr1, s1⟩
  clear h h0 hk0 hb0 hr0 s0 s1 hk1 hb1 hr1 he1 ev1 hJ hEx hz
  unfold bgW at *
  go_enter Tryz.func162, Tryz.ntmps162
  go_wp2_with fail
  refine HC.mono ?_
  rintro e w1 hpo
  have hfr : ∀ w', FrL P (W.heap.size + 1 + 1 + 1) (W.heap.size + 1 + 1) _ w' → KP P W w' := fun w' hf => ⟨hf.os.trans HQ.out.1.os, hf.tape.trans HQ.out.1.tape, hf.output.trans HQ.out.1.output, by have := hf.size; omega, fun g hg hp => (hf.blk g (by omega) hp (by omega)).trans (HQ.out.1.blk g hg hp)⟩
  cases z with
  | error x =>
    obtain ⟨rfl, hn⟩ := bad_lpo hpo
    exact ⟨rfl, rfl, hfr _ hn⟩
  | ok r =>
    obtain ⟨x, q⟩ := r
    obtain ⟨rfl, hli⟩ := hpo
    obtain ⟨c, hev, hx⟩ := hli.done
    have hr2 : w1.heap[W.heap.size + 1]? = some ez := (hli.fr.blk _ (by omega) (by omega) (by omega)).trans HQ.out.2.1
    obtain ⟨t2, i2, o2, l2, j2⟩ := fin5 hr2 rfl hx
    have HZ : Hid (PoA P T (VE W.heap.size) W (.ok (x, q)) (.returned (.agg c.toArray)) (w1.setCells (W.heap.size + 1) 0 c)) := poE_fin2 (by omega) hx (fun g hg => by obtain ⟨hg | hg, _⟩ := hg; (· exact hg.elim); (· exact ⟨by omega, by omega⟩)) hli.ps (hfr _ hli.fr) hPl hTl
    have HG : Hid (w1.rangeAt (W.heap.size + 1 + 1) 0 c ∧ (Tryz.prog.info? 38).map (·.size) = some c.length ∧ w1.there (W.heap.size + 1) 0 c.toArray.size ∧ (Tryz.prog.info? 38).map (·.size) = some c.toArray.size ∧ c.toArray.all (·.oneCell') = true ∧ (loadVar 38 ⟨W.heap.size + 1, 0, none⟩).run Tryz.prog (w1.setCells (W.heap.size + 1) 0 c) = .ok (.agg c.toArray) (w1.setCells (W.heap.size + 1) 0 c)) := ⟨hev.2, j2, t2, i2, o2, l2⟩
    clear t2 i2 o2 l2 j2 hx hev hli hr2 hfr HQ HC
    go_wp2_with (first
      | (refine wpList_load_mid rfl 38 (Operand.tmp 3) rfl (W.heap.size + 1 + 1) 0 rfl c _ HG.out.1 Tryz.underlying38 rfl HG.out.2.1 ?_)
      | (refine wpList_store_mid rfl 38 (Operand.tmp 2) (Operand.tmp 8) rfl (W.heap.size + 1) 0 c.toArray rfl rfl HG.out.2.2.1 HG.out.2.2.2.1 HG.out.2.2.2.2.1 ?_)
      | fail)
    refine bodyPost_ret (v := .agg c.toArray) (res_one Tryz.results162 _ _ rfl HG.out.2.2.2.2.2) rfl HZ.out

set_option maxHeartbeats 8000000 in
set_option maxRecDepth 100000 in
theorem dictionary_any {P T : Nat} {E : Ps → Px Ex} (hEx : MethC P T 70 E) : MethC P T 163 (lst [125] (diE E) ⟨8, 0, [], [], []⟩) := by
  intro W p z h hz
  have hPl := h.lt
  have hTl := h.ltT
  obtain ⟨h0, hk0, hb0, hr0, s0⟩ := bg_facts h
  have s1 : ((bgW P W).alloc l8).heap.size = W.heap.size + 1 + 1 + 1 := by rw [World.size_alloc, s0]
  have hk1 := hk0.trans (KP.al P (bgW P W) l8)
  have hb1 := hb0.keep (KP.al P (bgW P W) l8)
  have cb := hb1.2
  have hr1 : ((bgW P W).alloc l8).heap[W.heap.size + 1]? = some ez := (heap_al _ _ _ (by omega)).trans hr0
  have he1 : ((bgW P W).alloc l8).heap[W.heap.size + 1 + 1]? = some l8 := by
    have := heap_alloc_new (bgW P W) l8
    rwa [s0] at this
  have ev1 : EV ((bgW P W).alloc l8) (W.heap.size + 1 + 1) [.int .i64 8, .int .i64 0, .string ⟨#[]⟩, .slice none 0 0, .slice none 0 0] := ⟨⟨_, he1, rfl⟩, fun j v hv => by
    rw [Nat.zero_add, Lib.cell_of_heap he1, ← hv]
    simp⟩
  have hJ : LI (fun _ => False) P T (W.heap.size + 1 + 1 + 1) (W.heap.size + 1 + 1) ((bgW P W).alloc l8) ((bgW P W).alloc l8) ⟨8, 0, [], [], []⟩ p := ⟨h0.up (alB _ _), ⟨rfl, rfl, rfl, by omega, fun _ _ _ _ => rfl⟩, .slice none 0 0, .slice none 0 0, [], ev1, World.ownsRow_nil _ _ _ _, World.ownsRow_nil _ _ _ _, (fun g hg => by cases hg), (fun e => by cases e), (fun e => by cases e), trivial⟩
  have HC := listed_any (li_liv (by omega) (by omega) (fun _ h => h.elim)) (dictE_any (b := W.heap.size) hEx (by omega) (by omega) (fun _ h => h.elim) (by omega) (by omega) (by omega) (by omega) (by omega) hb1.2) [125] hJ hz
  have HQ : Hid (KP P W ((bgW P W).alloc l8) ∧ ((bgW P W).alloc l8).heap[W.heap.size + 1]? = some ez ∧ ((bgW P W).alloc l8).heap.size = W.heap.size + 1 + 1 + 1) := ⟨hk1, hr1, s1⟩
  clear h h0 hk0 hb0 hr0 s0 s1 hk1 hb1 hr1 he1 ev1 hJ hEx hz
  unfold bgW at *
  go_enter Tryz.func163, Tryz.ntmps163
  go_wp2_with fail
  refine HC.mono ?_
  rintro e w1 hpo
  have hfr : ∀ w', FrL P (W.heap.size + 1 + 1 + 1) (W.heap.size + 1 + 1) _ w' → KP P W w' := fun w' hf => ⟨hf.os.trans HQ.out.1.os, hf.tape.trans HQ.out.1.tape, hf.output.trans HQ.out.1.output, by have := hf.size; omega, fun g hg hp => (hf.blk g (by omega) hp (by omega)).trans (HQ.out.1.blk g hg hp)⟩
  cases z with
  | error x =>
    obtain ⟨rfl, hn⟩ := bad_lpo hpo
    exact ⟨rfl, rfl, hfr _ hn⟩
  | ok r =>
    obtain ⟨x, q⟩ := r
    obtain ⟨rfl, hli⟩ := hpo
    obtain ⟨c, hev, hx⟩ := hli.done
    have hr2 : w1.heap[W.heap.size + 1]? = some ez := (hli.fr.blk _ (by omega) (by omega) (by omega)).trans HQ.out.2.1
    obtain ⟨t2, i2, o2, l2, j2⟩ := fin5 hr2 rfl hx
    have HZ : Hid (PoA P T (VE W.heap.size) W (.ok (x, q)) (.returned (.agg c.toArray)) (w1.setCells (W.heap.size + 1) 0 c)) := poE_fin2 (by omega) hx (fun g hg => by obtain ⟨hg | hg, _⟩ := hg; (· exact hg.elim); (· exact ⟨by omega, by omega⟩)) hli.ps (hfr _ hli.fr) hPl hTl
    have HG : Hid (w1.rangeAt (W.heap.size + 1 + 1) 0 c ∧ (Tryz.prog.info? 38).map (·.size) = some c.length ∧ w1.there (W.heap.size + 1) 0 c.toArray.size ∧ (Tryz.prog.info? 38).map (·.size) = some c.toArray.size ∧ c.toArray.all (·.oneCell') = true ∧ (loadVar 38 ⟨W.heap.size + 1, 0, none⟩).run Tryz.prog (w1.setCells (W.heap.size + 1) 0 c) = .ok (.agg c.toArray) (w1.setCells (W.heap.size + 1) 0 c)) := ⟨hev.2, j2, t2, i2, o2, l2⟩
    clear t2 i2 o2 l2 j2 hx hev hli hr2 hfr HQ HC
    go_wp2_with (first
      | (refine wpList_load_mid rfl 38 (Operand.tmp 3) rfl (W.heap.size + 1 + 1) 0 rfl c _ HG.out.1 Tryz.underlying38 rfl HG.out.2.1 ?_)
      | (refine wpList_store_mid rfl 38 (Operand.tmp 2) (Operand.tmp 8) rfl (W.heap.size + 1) 0 c.toArray rfl rfl HG.out.2.2.1 HG.out.2.2.2.1 HG.out.2.2.2.2.1 ?_)
      | fail)
    refine bodyPost_ret (v := .agg c.toArray) (res_one Tryz.results163 _ _ rfl HG.out.2.2.2.2.2) rfl HZ.out

/-- An expression, whole. -/
theorem exF_any {P T : Nat} : ∀ n, MethC P T 70 (exF n)
  | 0 => fun W p z _ hz => by cases hz
  | n + 1 => by
    have hE := exF_any (P := P) (T := T) n
    have hP := post_any hE (atom_any (signAtom_any hE (list_any hE) (dictionary_any hE))) (call_any hE)
    have hU : MethC P T 151 (una (exF n)) := fun W p z h hz => unary_any hP _ W p z h hz
    have hS : MethC P T 139 (sum (exF n)) := fun W p z h hz => sum_any (fun b w' hb => smB_any hb (fun w2 hb2 => smC_any hU hb2)) W p z h hz
    have hN : MethC P T 111 (neg (exF n)) := fun W p z h hz => negation_any (comparison_any hS) _ W p z h hz
    exact expression_any (m := orE (exF n)) (fun b w' hb => exA_any hb (fun w2 hb2 => exB_any hb2 (fun w3 hb3 => exC_any hN hb3)))
end Go.Proofs.YtcaeeackccgclaaGreatDoor

/- small, statement. -/
namespace Go.Proofs.YtcaeeackccgclaaGreatDoor
open Go.RowKit Go.Shelf
attribute [local go_sem ↓] fld0 fld1 fld2 fld3

theorem sees_one {P T : Nat} {w : World} {p : Ps} (h : PsA P T w p) (x : List UInt8) :
    Calls Tryz.prog 44 #[pt P, .slice (some ⟨w.heap.size, 0, none⟩) 1 1] (w.alloc (.cells #[.string (mkB x)] 9)) fun e w' => e = .returned (.bool (p.sees [x])) ∧ KP P w w' ∧ PsA P T w' p := by
  have h2 := h.up (alB w (.cells #[.string (mkB x)] 9))
  refine (seesSign_any h2 (SgA.new P w [x] (by simp) h.lt)).mono ?_
  rintro e w' ⟨a, b⟩
  exact ⟨a, (KP.al P w _).trans (KP.of_below b), h2.up b⟩
theorem sees_no {P T : Nat} {w : World} {p : Ps} (h : PsA P T w p) {x : List UInt8} (hb : p.sees [x] = false) :
    Calls Tryz.prog 44 #[pt P, .slice (some ⟨w.heap.size, 0, none⟩) 1 1] (w.alloc (.cells #[.string (mkB x)] 9)) fun e w' => e = .returned (.bool false) ∧ KP P w w' ∧ PsA P T w' p := by
  have := sees_one h x
  rwa [hb] at this

set_option maxHeartbeats 8000000 in
set_option maxRecDepth 100000 in
theorem giving_any {P T : Nat} {E : Ps → Px Ex} (hE : MethC P T 70 E) : MethS P T 77 (givS E) := by
  intro W p z h _ hz
  have hPl := h.lt
  have hTl := h.ltT
  have h0 := h.up (alB W sz)
  have hk0 := KP.al P W sz
  have hr0 := heap_alloc_new W sz
  have HE : Hid (MethC P T 70 E) := hE
  obtain ⟨_, _, _, _, _, cD, _⟩ := h0.cells
  have HG := giveUpIf_any h0 (!p.inD) 4
  unfold givS at hz
  clear h hE
  cases hD : p.inD with
  | false =>
    rw [hD] at HG cD
    unfold guIf at hz
    simp only [hD, Bool.not_false, cond_true] at hz
    cases hz
    go_enter Tryz.func77, Tryz.ntmps77
    go_wp2_with fail
    refine HG.mono ?_
    rintro e w1 ⟨he, hb⟩
    simp only [Bool.not_false, cond_true] at he
    subst he
    exact ⟨rfl, rfl, hk0.trans (KP.of_below hb)⟩
  | true =>
  rw [hD] at HG cD
  unfold guIf at hz
  simp only [hD, Bool.not_true, cond_false] at hz
  replace hz : (bnd (tkS [114, 101, 116, 117, 114, 110] p) fun _ p => bif p.nx.kind == 6 then ok ⟨2, [], [], ⟨1, 0, [], [], []⟩, [], []⟩ p else bnd (E p) fun e p => ok ⟨2, [], [], e, [], []⟩ p) = some z := hz
  go_enter Tryz.func77, Tryz.ntmps77
  go_wp2_with fail
  refine HG.mono ?_
  rintro e w1 ⟨he, hb⟩
  simp only [Bool.not_true, cond_false] at he
  subst he
  have h1 := h0.up hb
  have hk1 := hk0.trans (KP.of_below (P := P) hb)
  have hr1 := (KP.of_below (P := P) hb).heapEq hr0 (by omega)
  clear h0 hk0 hr0 hb HG cD
  rcases bnd_some hz with ⟨x, hx, rfl⟩ | ⟨_, q2, hx, hz2⟩
  · have HT := takeSign_any h1 [114, 101, 116, 117, 114, 110] hx
    go_wp2_with fail
    refine HT.mono ?_
    rintro e v1 hpo
    obtain ⟨rfl, hk⟩ := bad_panic hpo hk1
    exact ⟨rfl, rfl, hk⟩
  have HT := takeSign_any h1 [114, 101, 116, 117, 114, 110] hx
  go_wp2_with fail
  refine HT.mono ?_
  rintro e w2 ⟨v, rfl, rfl, h2, hj2⟩
  have hk2 := hk1.trans hj2
  have hr2 := hj2.heapEq hr1 (by omega)
  clear h1 hj2 hr1 hk1 HT hz hx
  have HS := sees2_any h2 6
  cases hb6 : q2.nx.kind == 6 with
  | true =>
    rw [hb6] at HS
    simp only [hb6, cond_true] at hz2
    cases hz2
    go_wp2_with fail
    refine HS.mono ?_
    rintro e w3 ⟨rfl, hb⟩
    have h3 := h2.up hb
    have hk3 := hk2.trans (KP.of_below (P := P) hb)
    have hr3 := (KP.of_below (P := P) hb).heapEq hr2 (by omega)
    have hsm : SmA w3 (fun g => w3.heap.size ≤ g) ⟨2, [], [], ⟨1, 0, [], [], []⟩, [], []⟩ _ := SmA.small (ExA.leaf 1 0 []) 2 []
    obtain ⟨t9, i9, o9, l9, j9⟩ := fin10 hr3 rfl hsm
    have hs3 : W.heap.size < w3.heap.size := (Array.getElem?_eq_some_iff.1 hr3).1
    have HZ : Hid _ := poS_fin (Nat.le_refl W.heap.size) hsm (fun g hg => ⟨by omega, by omega⟩) h3 hk3 hPl hTl
    have HL : Hid _ := (⟨t9, i9, o9, l9⟩ : _ ∧ _ ∧ _ ∧ _)
    clear h3 hk3 hr3 hsm t9 i9 o9 l9 j9 HE hk2 hr2 h2 HS hb
    go_wp2_with (first
      | (refine wpList_store_mid rfl 40 (Operand.tmp 2) (Operand.tmp 15) rfl W.heap.size 0 (Value.int IntKind.i64 (2 : Nat) :: sv [] :: Value.slice none 0 0 :: ([Value.int IntKind.i64 (1 : Nat), Value.int IntKind.i64 (0 : Nat), sv [], Value.slice none 0 0, Value.slice none 0 0] ++ [Value.slice none 0 0, Value.slice none 0 0])).toArray rfl rfl HL.out.1 HL.out.2.1 HL.out.2.2.1 ?_)
      | fail)
    refine bodyPost_ret (v := .agg (Value.int IntKind.i64 (2 : Nat) :: sv [] :: Value.slice none 0 0 :: ([Value.int IntKind.i64 (1 : Nat), Value.int IntKind.i64 (0 : Nat), sv [], Value.slice none 0 0, Value.slice none 0 0] ++ [Value.slice none 0 0, Value.slice none 0 0])).toArray) (res_one Tryz.results77 _ _ rfl HL.out.2.2.2) rfl HZ.out
  | false =>
  rw [hb6] at HS
  simp only [hb6, cond_false] at hz2
  go_wp2_with fail
  refine HS.mono ?_
  rintro e w3 ⟨rfl, hb⟩
  have h3 := h2.up hb
  have hk3 := hk2.trans (KP.of_below (P := P) hb)
  have hr3 := (KP.of_below (P := P) hb).heapEq hr2 (by omega)
  have hs3 : W.heap.size < w3.heap.size := (Array.getElem?_eq_some_iff.1 hr3).1
  clear hk2 hr2 h2 HS hb
  rcases bnd_some hz2 with ⟨x, hx, rfl⟩ | ⟨y, q7, hx, hz7⟩
  · have HD := HE.out w3 _ _ h3 hx
    go_wp2_with fail
    refine HD.mono ?_
    rintro e v1 hpo
    obtain ⟨rfl, hk⟩ := bad_panic hpo hk3
    exact ⟨rfl, rfl, hk⟩
  have HD := HE.out w3 _ _ h3 hx
  cases hz7
  go_wp2_with fail
  refine HD.mono ?_
  rintro e w7 ⟨v, rfl, ⟨c, rfl, hx7⟩, h7, hj7⟩
  have hk7 := hk3.trans hj7
  have hr7 := hj7.heapEq hr3 (by omega)
  obtain ⟨b1, d1, b2, d2, hc7⟩ := hx7.form
  subst hc7
  have hsm := SmA.small hx7 2 []
  obtain ⟨t9, i9, o9, l9, j9⟩ := fin10 hr7 rfl hsm
  have HZ : Hid _ := poS_fin (Nat.le_refl W.heap.size) hsm (fun g hg => ⟨by omega, by omega⟩) h7 hk7 hPl hTl
  have HL : Hid _ := (⟨t9, i9, o9, l9⟩ : _ ∧ _ ∧ _ ∧ _)
  clear h7 hk7 hr7 hj7 hx7 hsm t9 i9 o9 l9 j9 HD HE hk3 hr3 h3 hx hz2
  go_wp2_with (first
    | (refine wpList_store_mid rfl 40 (Operand.tmp 2) (Operand.tmp 18) rfl W.heap.size 0 (Value.int IntKind.i64 (2 : Nat) :: sv [] :: Value.slice none 0 0 :: ([Value.int IntKind.i64 y.kind, Value.int IntKind.i64 y.num, Value.string (mkB y.text), Value.slice b1 y.kids.length d1, Value.slice b2 y.names.length d2] ++ [Value.slice none 0 0, Value.slice none 0 0])).toArray rfl rfl HL.out.1 HL.out.2.1 HL.out.2.2.1 ?_)
    | fail)
  refine bodyPost_ret (v := .agg (Value.int IntKind.i64 (2 : Nat) :: sv [] :: Value.slice none 0 0 :: ([Value.int IntKind.i64 y.kind, Value.int IntKind.i64 y.num, Value.string (mkB y.text), Value.slice b1 y.kids.length d1, Value.slice b2 y.names.length d2] ++ [Value.slice none 0 0, Value.slice none 0 0])).toArray) (res_one Tryz.results77 _ _ rfl HL.out.2.2.2) rfl HZ.out

set_option maxHeartbeats 8000000 in
set_option maxRecDepth 100000 in
theorem small_any {P T : Nat} {E : Ps → Px Ex} (hE : MethC P T 70 E) : MethS P T 48 (smlF E) := by
  intro W p z h hr hz
  have hPl := h.lt
  have hTl := h.ltT
  have h0 := h.up (alB W sz)
  have hk0 := KP.al P W sz
  have hr0 := heap_alloc_new W sz
  have HE : Hid (MethC P T 70 E) := hE
  have HGi : Hid (MethS P T 77 (givS E)) := giving_any hE
  have HLd : Hid (MethS P T 78 loadS) := loading_any
  have HEr : Hid (∀ W', KP P W W' → ErrR W') := fun W' hk => hr.kp (hr.ne h) hk
  unfold smlF at hz
  clear h hE hr
  cases hb0 : p.sees [[112, 97, 115, 115]] with
  | true =>
    simp only [hb0, cond_true] at hz
    cases hz
    go_enter Tryz.func48, Tryz.ntmps48
    go_wp2_with fail
    refine (passSign_yes h0 (x := [112, 97, 115, 115]) hb0).mono ?_
    rintro e w1 ⟨rfl, hj1, h1⟩
    have hk1 := hk0.trans hj1
    have hr1 := hj1.heapEq hr0 (by omega)
    have hs1 : W.heap.size < w1.heap.size := (Array.getElem?_eq_some_iff.1 hr1).1
    have hsm : SmA w1 (fun g => w1.heap.size ≤ g) ⟨1, [], [], ⟨0, 0, [], [], []⟩, [], []⟩ _ := SmA.small (ExA.leaf 0 0 []) 1 []
    obtain ⟨t9, i9, o9, l9, j9⟩ := fin10 hr1 rfl hsm
    have HZ : Hid _ := poS_fin (Nat.le_refl W.heap.size) hsm (fun g hg => ⟨by omega, by omega⟩) h1 hk1 hPl hTl
    have HL : Hid _ := (⟨t9, i9, o9, l9⟩ : _ ∧ _ ∧ _ ∧ _)
    clear h0 hk0 hr0 hj1 h1 hk1 hr1 hsm t9 i9 o9 l9 j9 HE HGi
    go_wp2_with (first
      | (refine wpList_store_mid rfl 40 (Operand.tmp 2) (Operand.tmp 7) rfl W.heap.size 0 (Value.int IntKind.i64 (1 : Nat) :: sv [] :: Value.slice none 0 0 :: ([Value.int IntKind.i64 (0 : Nat), Value.int IntKind.i64 (0 : Nat), sv [], Value.slice none 0 0, Value.slice none 0 0] ++ [Value.slice none 0 0, Value.slice none 0 0])).toArray rfl rfl HL.out.1 HL.out.2.1 HL.out.2.2.1 ?_)
      | fail)
    refine bodyPost_ret (v := .agg (Value.int IntKind.i64 (1 : Nat) :: sv [] :: Value.slice none 0 0 :: ([Value.int IntKind.i64 (0 : Nat), Value.int IntKind.i64 (0 : Nat), sv [], Value.slice none 0 0, Value.slice none 0 0] ++ [Value.slice none 0 0, Value.slice none 0 0])).toArray) (res_one Tryz.results48 _ _ rfl HL.out.2.2.2) rfl HZ.out
  | false =>
  cases hb1 : p.sees [[114, 101, 116, 117, 114, 110]] with
  | true =>
    simp only [hb0, hb1, cond_true, cond_false] at hz
    go_enter Tryz.func48, Tryz.ntmps48
    go_wp2_with fail
    refine (passSign_no h0 (x := [112, 97, 115, 115]) hb0).mono ?_
    rintro e w1 ⟨rfl, hj1, h1⟩
    have hk1 := hk0.trans hj1
    have hr1 := hj1.heapEq hr0 (by omega)
    have HSr := sees_one h1 [114, 101, 116, 117, 114, 110]
    rw [hb1] at HSr
    clear h0 hj1 hr0 hk0
    go_wp2_with fail
    refine HSr.mono ?_
    rintro e w2 ⟨rfl, hj2, h2⟩
    have hk2 := hk1.trans hj2
    have hr2 := hj2.heapEq hr1 (by omega)
    have hs2 : W.heap.size < w2.heap.size := (Array.getElem?_eq_some_iff.1 hr2).1
    have HD := HGi.out w2 _ z h2 (HEr.out _ hk2) hz
    clear h1 hj2 hr1 hk1 HSr h2 hz HE HGi
    go_wp2_with fail
    refine HD.mono ?_
    rintro e w3 hpo
    cases z with
    | error x =>
      obtain ⟨rfl, hk⟩ := bad_panic hpo hk2
      exact ⟨rfl, rfl, hk⟩
    | ok r =>
      obtain ⟨x, q⟩ := r
      obtain ⟨v, rfl, ⟨c, rfl, hx3⟩, h3, hj3⟩ := hpo
      have hr3 := hj3.heapEq hr2 (by omega)
      obtain ⟨t9, i9, o9, l9, j9⟩ := fin10 hr3 rfl hx3
      have HZ : Hid (PoA P T (VS W.heap.size) W (.ok (x, q)) (.returned (.agg c.toArray)) (w3.setCells W.heap.size 0 c)) := poS_fin (Nat.le_refl W.heap.size) hx3 (fun g hg => ⟨by omega, by omega⟩) h3 (hk2.trans hj3) hPl hTl
      have HL : Hid (w3.there W.heap.size 0 c.toArray.size ∧ (Tryz.prog.info? 40).map (·.size) = some c.toArray.size ∧ c.toArray.all (·.oneCell') = true ∧ (loadVar 40 ⟨W.heap.size, 0, none⟩).run Tryz.prog (w3.setCells W.heap.size 0 c) = .ok (.agg c.toArray) (w3.setCells W.heap.size 0 c)) := ⟨t9, i9, o9, l9⟩
      clear h3 hj3 hr3 hx3 t9 i9 o9 l9 j9 hk2 hr2 HD
      go_wp2_with (first
        | (refine wpList_store_mid rfl 40 (Operand.tmp 2) (Operand.tmp 13) rfl W.heap.size 0 c.toArray rfl rfl HL.out.1 HL.out.2.1 HL.out.2.2.1 ?_)
        | fail)
      refine bodyPost_ret (v := .agg c.toArray) (res_one Tryz.results48 _ _ rfl HL.out.2.2.2) rfl HZ.out
  | false =>
  cases hb2 : p.sees [[108, 111, 97, 100]] with
  | true =>
    simp only [hb0, hb1, hb2, cond_true, cond_false] at hz
    go_enter Tryz.func48, Tryz.ntmps48
    go_wp2_with fail
    refine (passSign_no h0 (x := [112, 97, 115, 115]) hb0).mono ?_
    rintro e w1 ⟨rfl, hj1, h1⟩
    have hk1 := hk0.trans hj1
    have hr1 := hj1.heapEq hr0 (by omega)
    clear h0 hj1 hr0 hk0
    go_wp2_with fail
    refine (sees_no h1 (x := [114, 101, 116, 117, 114, 110]) hb1).mono ?_
    rintro e w9 ⟨rfl, hj9, h9⟩
    have hk9 := hk1.trans hj9
    have hr9 := hj9.heapEq hr1 (by omega)
    have HSr := sees_one h9 [108, 111, 97, 100]
    rw [hb2] at HSr
    clear h1 hj9 hr1 hk1
    go_wp2_with fail
    refine HSr.mono ?_
    rintro e w2 ⟨rfl, hj2, h2⟩
    have hk2 := hk9.trans hj2
    have hr2 := hj2.heapEq hr9 (by omega)
    have hs2 : W.heap.size < w2.heap.size := (Array.getElem?_eq_some_iff.1 hr2).1
    have HD := HLd.out w2 _ z h2 (HEr.out _ hk2) hz
    clear h9 hj2 hr9 hk9 HSr h2 hz HE HGi HLd
    go_wp2_with fail
    refine HD.mono ?_
    rintro e w3 hpo
    cases z with
    | error x =>
      obtain ⟨rfl, hk⟩ := bad_panic hpo hk2
      exact ⟨rfl, rfl, hk⟩
    | ok r =>
      obtain ⟨x, q⟩ := r
      obtain ⟨v, rfl, ⟨c, rfl, hx3⟩, h3, hj3⟩ := hpo
      have hr3 := hj3.heapEq hr2 (by omega)
      obtain ⟨t9, i9, o9, l9, j9⟩ := fin10 hr3 rfl hx3
      have HZ : Hid (PoA P T (VS W.heap.size) W (.ok (x, q)) (.returned (.agg c.toArray)) (w3.setCells W.heap.size 0 c)) := poS_fin (Nat.le_refl W.heap.size) hx3 (fun g hg => ⟨by omega, by omega⟩) h3 (hk2.trans hj3) hPl hTl
      have HL : Hid (w3.there W.heap.size 0 c.toArray.size ∧ (Tryz.prog.info? 40).map (·.size) = some c.toArray.size ∧ c.toArray.all (·.oneCell') = true ∧ (loadVar 40 ⟨W.heap.size, 0, none⟩).run Tryz.prog (w3.setCells W.heap.size 0 c) = .ok (.agg c.toArray) (w3.setCells W.heap.size 0 c)) := ⟨t9, i9, o9, l9⟩
      clear h3 hj3 hr3 hx3 t9 i9 o9 l9 j9 hk2 hr2 HD
      go_wp2_with (first
        | (refine wpList_store_mid rfl 40 (Operand.tmp 2) (Operand.tmp 19) rfl W.heap.size 0 c.toArray rfl rfl HL.out.1 HL.out.2.1 HL.out.2.2.1 ?_)
        | fail)
      refine bodyPost_ret (v := .agg c.toArray) (res_one Tryz.results48 _ _ rfl HL.out.2.2.2) rfl HZ.out
  | false =>
  cases hb3 : sSet p with
  | false =>
    simp only [hb0, hb1, hb2, hb3, cond_false] at hz
    go_enter Tryz.func48, Tryz.ntmps48
    go_wp2_with fail
    refine (passSign_no h0 (x := [112, 97, 115, 115]) hb0).mono ?_
    rintro e w1 ⟨rfl, hj1, h1⟩
    have hk1 := hk0.trans hj1
    have hr1 := hj1.heapEq hr0 (by omega)
    clear h0 hj1 hr0 hk0
    go_wp2_with fail
    refine (sees_no h1 (x := [114, 101, 116, 117, 114, 110]) hb1).mono ?_
    rintro e w2 ⟨rfl, hj2, h2⟩
    have hk2 := hk1.trans hj2
    have hr2 := hj2.heapEq hr1 (by omega)
    clear h1 hj2 hr1 hk1
    go_wp2_with fail
    refine (sees_no h2 (x := [108, 111, 97, 100]) hb2).mono ?_
    rintro e w3 ⟨rfl, hj3, h3⟩
    have hk3 := hk2.trans hj3
    have hr3 := hj3.heapEq hr2 (by omega)
    clear h2 hj3 hr2 hk2
    have HSe := seesSet_any h3
    rw [hb3] at HSe
    go_wp2_with fail
    refine HSe.mono ?_
    rintro e w4 ⟨rfl, hbel⟩
    have h4 := h3.up hbel
    have hk4 := hk3.trans (KP.of_below (P := P) hbel)
    have hr4 := (KP.of_below (P := P) hbel).heapEq hr3 (by omega)
    have hs4 : W.heap.size < w4.heap.size := (Array.getElem?_eq_some_iff.1 hr4).1
    clear h3 hr3 hk3 HSe hbel HGi
    rcases bnd_some hz with ⟨x, hx, rfl⟩ | ⟨y, q7, hx, hz7⟩
    · have HD := HE.out w4 _ _ h4 hx
      go_wp2_with fail
      refine HD.mono ?_
      rintro e v1 hpo
      obtain ⟨rfl, hk⟩ := bad_panic hpo hk4
      exact ⟨rfl, rfl, hk⟩
    have HD := HE.out w4 _ _ h4 hx
    cases hz7
    go_wp2_with fail
    refine HD.mono ?_
    rintro e w7 ⟨v, rfl, ⟨c, rfl, hx7⟩, h7, hj7⟩
    have hk7 := hk4.trans hj7
    have hr7 := hj7.heapEq hr4 (by omega)
    obtain ⟨b1, d1, b2, d2, hc7⟩ := hx7.form
    subst hc7
    have hsm := SmA.small hx7 5 []
    obtain ⟨t9, i9, o9, l9, j9⟩ := fin10 hr7 rfl hsm
    have HZ : Hid _ := poS_fin (Nat.le_refl W.heap.size) hsm (fun g hg => ⟨by omega, by omega⟩) h7 hk7 hPl hTl
    have HL : Hid _ := (⟨t9, i9, o9, l9⟩ : _ ∧ _ ∧ _ ∧ _)
    clear h7 hk7 hr7 hj7 hx7 hsm t9 i9 o9 l9 j9 HD HE hk4 hr4 h4 hx hz
    go_wp2_with (first
      | (refine wpList_store_mid rfl 40 (Operand.tmp 2) (Operand.tmp 34) rfl W.heap.size 0 (Value.int IntKind.i64 (5 : Nat) :: sv [] :: Value.slice none 0 0 :: ([Value.int IntKind.i64 y.kind, Value.int IntKind.i64 y.num, Value.string (mkB y.text), Value.slice b1 y.kids.length d1, Value.slice b2 y.names.length d2] ++ [Value.slice none 0 0, Value.slice none 0 0])).toArray rfl rfl HL.out.1 HL.out.2.1 HL.out.2.2.1 ?_)
      | fail)
    refine bodyPost_ret (v := .agg (Value.int IntKind.i64 (5 : Nat) :: sv [] :: Value.slice none 0 0 :: ([Value.int IntKind.i64 y.kind, Value.int IntKind.i64 y.num, Value.string (mkB y.text), Value.slice b1 y.kids.length d1, Value.slice b2 y.names.length d2] ++ [Value.slice none 0 0, Value.slice none 0 0])).toArray) (res_one Tryz.results48 _ _ rfl HL.out.2.2.2) rfl HZ.out
  | true =>
  simp only [hb0, hb1, hb2, hb3, cond_true, cond_false] at hz
  go_enter Tryz.func48, Tryz.ntmps48
  go_wp2_with fail
  refine (passSign_no h0 (x := [112, 97, 115, 115]) hb0).mono ?_
  rintro e w1 ⟨rfl, hj1, h1⟩
  have hk1 := hk0.trans hj1
  have hr1 := hj1.heapEq hr0 (by omega)
  clear h0 hj1 hr0 hk0
  go_wp2_with fail
  refine (sees_no h1 (x := [114, 101, 116, 117, 114, 110]) hb1).mono ?_
  rintro e w2 ⟨rfl, hj2, h2⟩
  have hk2 := hk1.trans hj2
  have hr2 := hj2.heapEq hr1 (by omega)
  clear h1 hj2 hr1 hk1
  go_wp2_with fail
  refine (sees_no h2 (x := [108, 111, 97, 100]) hb2).mono ?_
  rintro e w3 ⟨rfl, hj3, h3⟩
  have hk3 := hk2.trans hj3
  have hr3 := hj3.heapEq hr2 (by omega)
  clear h2 hj3 hr2 hk2
  have HSe := seesSet_any h3
  rw [hb3] at HSe
  go_wp2_with fail
  refine HSe.mono ?_
  rintro e w4 ⟨rfl, hbel⟩
  have h4 := h3.up hbel
  have hk4 := hk3.trans (KP.of_below (P := P) hbel)
  have hr4 := (KP.of_below (P := P) hbel).heapEq hr3 (by omega)
  clear h3 hr3 hk3 HSe hbel
  unfold setS at hz
  rcases bnd_some hz with ⟨x, hx, rfl⟩ | ⟨t, q5, hx, hz5⟩
  · have HT := take2_any h4 1 (by decide) hx
    go_wp2_with fail
    refine HT.mono ?_
    rintro e v1 hpo
    obtain ⟨rfl, hk⟩ := bad_panic hpo hk4
    exact ⟨rfl, rfl, hk⟩
  have HT := take2_any h4 1 (by decide) hx
  go_wp2_with fail
  refine HT.mono ?_
  rintro e w5 ⟨v, rfl, rfl, h5, hj5⟩
  have hk5 := hk4.trans hj5
  have hr5 := hj5.heapEq hr4 (by omega)
  clear h4 hj5 hr4 hk4 HT hz hx
  rcases bnd_some hz5 with ⟨x, hx, rfl⟩ | ⟨_, q6, hx, hz6⟩
  · have HT := takeSign_any h5 [61] hx
    go_wp2_with fail
    refine HT.mono ?_
    rintro e v1 hpo
    obtain ⟨rfl, hk⟩ := bad_panic hpo hk5
    exact ⟨rfl, rfl, hk⟩
  have HT := takeSign_any h5 [61] hx
  go_wp2_with fail
  refine HT.mono ?_
  rintro e w6 ⟨v, rfl, rfl, h6, hj6⟩
  have hk6 := hk5.trans hj6
  have hr6 := hj6.heapEq hr5 (by omega)
  have hs6 : W.heap.size < w6.heap.size := (Array.getElem?_eq_some_iff.1 hr6).1
  clear h5 hj6 hr5 hk5 HT hz5 hx
  rcases bnd_some hz6 with ⟨x, hx, rfl⟩ | ⟨y, q7, hx, hz7⟩
  · have HD := HE.out w6 _ _ h6 hx
    go_wp2_with fail
    refine HD.mono ?_
    rintro e v1 hpo
    obtain ⟨rfl, hk⟩ := bad_panic hpo hk6
    exact ⟨rfl, rfl, hk⟩
  have HD := HE.out w6 _ _ h6 hx
  cases hz7
  go_wp2_with fail
  refine HD.mono ?_
  rintro e w7 ⟨v, rfl, ⟨c, rfl, hx7⟩, h7, hj7⟩
  have hk7 := hk6.trans hj7
  have hr7 := hj7.heapEq hr6 (by omega)
  obtain ⟨b1, d1, b2, d2, hc7⟩ := hx7.form
  subst hc7
  have hsm := SmA.small hx7 3 t.text
  obtain ⟨t9, i9, o9, l9, j9⟩ := fin10 hr7 rfl hsm
  have HZ : Hid _ := poS_fin (Nat.le_refl W.heap.size) hsm (fun g hg => ⟨by omega, by omega⟩) h7 hk7 hPl hTl
  have HL : Hid _ := (⟨t9, i9, o9, l9⟩ : _ ∧ _ ∧ _ ∧ _)
  clear h7 hk7 hr7 hj7 hx7 hsm t9 i9 o9 l9 j9 HD HE hk6 hr6 h6 hx hz6
  go_wp2_with (first
    | (refine wpList_store_mid rfl 40 (Operand.tmp 2) (Operand.tmp 31) rfl W.heap.size 0 (Value.int IntKind.i64 (3 : Nat) :: sv t.text :: Value.slice none 0 0 :: ([Value.int IntKind.i64 y.kind, Value.int IntKind.i64 y.num, Value.string (mkB y.text), Value.slice b1 y.kids.length d1, Value.slice b2 y.names.length d2] ++ [Value.slice none 0 0, Value.slice none 0 0])).toArray rfl rfl HL.out.1 HL.out.2.1 HL.out.2.2.1 ?_)
    | fail)
  refine bodyPost_ret (v := .agg (Value.int IntKind.i64 (3 : Nat) :: sv t.text :: Value.slice none 0 0 :: ([Value.int IntKind.i64 y.kind, Value.int IntKind.i64 y.num, Value.string (mkB y.text), Value.slice b1 y.kids.length d1, Value.slice b2 y.names.length d2] ++ [Value.slice none 0 0, Value.slice none 0 0])).toArray) (res_one Tryz.results48 _ _ rfl HL.out.2.2.2) rfl HZ.out

theorem var10 {w1 : World} {S : Nat → Prop} {x : Sm} {c : List Value} (h : SmA w1 S x c) : (w1.alloc sz).there w1.heap.size 0 c.toArray.size ∧ ((w1.alloc sz).setCells w1.heap.size 0 c).rangeAt w1.heap.size 0 c ∧ SmA ((w1.alloc sz).setCells w1.heap.size 0 c) (fun g => S g ∧ g < w1.heap.size) x c ∧ (∀ g, g < w1.heap.size → ((w1.alloc sz).setCells w1.heap.size 0 c).heap[g]? = w1.heap[g]?) := by
  have hr : (w1.alloc sz).heap[w1.heap.size]? = some sz := heap_alloc_new w1 _
  have hla : c.toArray.size = 10 := h.len
  have ht : (w1.alloc sz).there w1.heap.size 0 c.toArray.size := by rw [hla]; exact there_of hr
  have hg : ∀ g, g < w1.heap.size → ((w1.alloc sz).setCells w1.heap.size 0 c).heap[g]? = w1.heap[g]? := fun g hg => (heap_sets _ c 0 _ g (by omega)).trans (heap_al w1 _ g hg)
  exact ⟨ht, World.rangeAt_setCells_same _ _ _ _ ht, h.keep (fun g _ hg2 => hg g hg2) (fun g h1 h2 => ⟨h1, h2⟩), hg⟩
theorem range_keep {w w' : World} {b : Nat} {c : List Value} (h : w.rangeAt b 0 c) (hk : w'.heap[b]? = w.heap[b]?) : w'.rangeAt b 0 c := fun j v hv => by
  rw [← h j v hv]
  simp [World.cell?, hk]

set_option maxHeartbeats 8000000 in
set_option maxRecDepth 100000 in
theorem statement_any {P T : Nat} {E : Ps → Px Ex} {B : Ps → Px (List Sm)} (hSm : MethS P T 48 (smlF E)) (hCo : MethS P T 45 (condS E B)) (hLo : MethS P T 46 (loopS E B)) (hDf : MethS P T 47 (defS B)) : MethS P T 33 (stmF E B) := by
  intro W p z h hr hz
  have hPl := h.lt
  have hTl := h.ltT
  have h0 := h.up (alB W sz)
  have hk0 := KP.al P W sz
  have hr0 := heap_alloc_new W sz
  have HE : Hid (MethS P T 48 (smlF E)) := hSm
  have HEr : Hid (∀ W', KP P W W' → ErrR W') := fun W' hk => hr.kp (hr.ne h) hk
  have HCo : Hid (MethS P T 45 (condS E B) ∧ MethS P T 46 (loopS E B) ∧ MethS P T 47 (defS B)) := ⟨hCo, hLo, hDf⟩
  unfold stmF at hz
  clear h hSm hr hCo hLo hDf
  cases hb0 : p.sees [[105, 102]] with
  | true =>
    simp only [hb0, cond_true] at hz
    go_enter Tryz.func33, Tryz.ntmps33
    have HS0 := sees_one h0 [105, 102]
    rw [hb0] at HS0
    rw [World.size_alloc] at HS0
    go_wp2_with fail
    refine HS0.mono ?_
    rintro e w1 ⟨rfl, hj1, h1⟩
    have hk1 := hk0.trans hj1
    have hr1 := hj1.heapEq hr0 (by omega)
    clear h0 hj1 hr0 hk0 HS0
    have hs1 : W.heap.size < w1.heap.size := (Array.getElem?_eq_some_iff.1 hr1).1
    have HD := HCo.out.1 w1 _ z h1 (HEr.out _ hk1) hz
    clear h1 hz HE HCo
    go_wp2_with fail
    refine HD.mono ?_
    rintro e v1 hpo
    cases z with
    | error x =>
      obtain ⟨rfl, hk⟩ := bad_panic hpo hk1
      exact ⟨rfl, rfl, hk⟩
    | ok r =>
      obtain ⟨x, q⟩ := r
      obtain ⟨v, rfl, ⟨c, rfl, hx3⟩, h9, hj9⟩ := hpo
      have hr9 := hj9.heapEq hr1 (by omega)
      obtain ⟨t9, i9, o9, l9, j9⟩ := fin10 hr9 rfl hx3
      have HZ : Hid (PoA P T (VS W.heap.size) W (.ok (x, q)) (.returned (.agg c.toArray)) (v1.setCells W.heap.size 0 c)) := poS_fin (Nat.le_refl W.heap.size) hx3 (fun g hg => ⟨by omega, by omega⟩) h9 (hk1.trans hj9) hPl hTl
      have HL : Hid (v1.there W.heap.size 0 c.toArray.size ∧ (Tryz.prog.info? 40).map (·.size) = some c.toArray.size ∧ c.toArray.all (·.oneCell') = true ∧ (loadVar 40 ⟨W.heap.size, 0, none⟩).run Tryz.prog (v1.setCells W.heap.size 0 c) = .ok (.agg c.toArray) (v1.setCells W.heap.size 0 c)) := ⟨t9, i9, o9, l9⟩
      clear h9 hj9 hr9 hx3 t9 i9 o9 l9 j9 hk1 hr1 HD
      go_wp2_with (first
        | (refine wpList_store_mid rfl 40 (Operand.tmp 2) (Operand.tmp 9) rfl W.heap.size 0 c.toArray rfl rfl HL.out.1 HL.out.2.1 HL.out.2.2.1 ?_)
        | fail)
      refine bodyPost_ret (v := .agg c.toArray) (res_one Tryz.results33 _ _ rfl HL.out.2.2.2) rfl HZ.out
  | false =>
  cases hb1 : p.sees [[102, 111, 114]] with
  | true =>
    simp only [hb0, hb1, cond_true, cond_false] at hz
    go_enter Tryz.func33, Tryz.ntmps33
    have HS0 := sees_no h0 (x := [105, 102]) hb0
    rw [World.size_alloc] at HS0
    go_wp2_with fail
    refine HS0.mono ?_
    rintro e w1 ⟨rfl, hj1, h1⟩
    have hk1 := hk0.trans hj1
    have hr1 := hj1.heapEq hr0 (by omega)
    clear h0 hj1 hr0 hk0 HS0
    have HS1 := sees_one h1 [102, 111, 114]
    rw [hb1] at HS1
    go_wp2_with fail
    refine HS1.mono ?_
    rintro e w2 ⟨rfl, hj2, h2⟩
    have hk2 := hk1.trans hj2
    have hr2 := hj2.heapEq hr1 (by omega)
    clear h1 hj2 hr1 hk1 HS1
    have hs2 : W.heap.size < w2.heap.size := (Array.getElem?_eq_some_iff.1 hr2).1
    have HD := HCo.out.2.1 w2 _ z h2 (HEr.out _ hk2) hz
    clear h2 hz HE HCo
    go_wp2_with fail
    refine HD.mono ?_
    rintro e v1 hpo
    cases z with
    | error x =>
      obtain ⟨rfl, hk⟩ := bad_panic hpo hk2
      exact ⟨rfl, rfl, hk⟩
    | ok r =>
      obtain ⟨x, q⟩ := r
      obtain ⟨v, rfl, ⟨c, rfl, hx3⟩, h9, hj9⟩ := hpo
      have hr9 := hj9.heapEq hr2 (by omega)
      obtain ⟨t9, i9, o9, l9, j9⟩ := fin10 hr9 rfl hx3
      have HZ : Hid (PoA P T (VS W.heap.size) W (.ok (x, q)) (.returned (.agg c.toArray)) (v1.setCells W.heap.size 0 c)) := poS_fin (Nat.le_refl W.heap.size) hx3 (fun g hg => ⟨by omega, by omega⟩) h9 (hk2.trans hj9) hPl hTl
      have HL : Hid (v1.there W.heap.size 0 c.toArray.size ∧ (Tryz.prog.info? 40).map (·.size) = some c.toArray.size ∧ c.toArray.all (·.oneCell') = true ∧ (loadVar 40 ⟨W.heap.size, 0, none⟩).run Tryz.prog (v1.setCells W.heap.size 0 c) = .ok (.agg c.toArray) (v1.setCells W.heap.size 0 c)) := ⟨t9, i9, o9, l9⟩
      clear h9 hj9 hr9 hx3 t9 i9 o9 l9 j9 hk2 hr2 HD
      go_wp2_with (first
        | (refine wpList_store_mid rfl 40 (Operand.tmp 2) (Operand.tmp 15) rfl W.heap.size 0 c.toArray rfl rfl HL.out.1 HL.out.2.1 HL.out.2.2.1 ?_)
        | fail)
      refine bodyPost_ret (v := .agg c.toArray) (res_one Tryz.results33 _ _ rfl HL.out.2.2.2) rfl HZ.out
  | false =>
  cases hb2 : p.sees [[100, 101, 102]] with
  | true =>
    simp only [hb0, hb1, hb2, cond_true, cond_false] at hz
    go_enter Tryz.func33, Tryz.ntmps33
    have HS0 := sees_no h0 (x := [105, 102]) hb0
    rw [World.size_alloc] at HS0
    go_wp2_with fail
    refine HS0.mono ?_
    rintro e w1 ⟨rfl, hj1, h1⟩
    have hk1 := hk0.trans hj1
    have hr1 := hj1.heapEq hr0 (by omega)
    clear h0 hj1 hr0 hk0 HS0
    have HS1 := sees_no h1 (x := [102, 111, 114]) hb1
    go_wp2_with fail
    refine HS1.mono ?_
    rintro e w2 ⟨rfl, hj2, h2⟩
    have hk2 := hk1.trans hj2
    have hr2 := hj2.heapEq hr1 (by omega)
    clear h1 hj2 hr1 hk1 HS1
    have HS2 := sees_one h2 [100, 101, 102]
    rw [hb2] at HS2
    go_wp2_with fail
    refine HS2.mono ?_
    rintro e w3 ⟨rfl, hj3, h3⟩
    have hk3 := hk2.trans hj3
    have hr3 := hj3.heapEq hr2 (by omega)
    clear h2 hj3 hr2 hk2 HS2
    have hs3 : W.heap.size < w3.heap.size := (Array.getElem?_eq_some_iff.1 hr3).1
    have HD := HCo.out.2.2 w3 _ z h3 (HEr.out _ hk3) hz
    clear h3 hz HE HCo
    go_wp2_with fail
    refine HD.mono ?_
    rintro e v1 hpo
    cases z with
    | error x =>
      obtain ⟨rfl, hk⟩ := bad_panic hpo hk3
      exact ⟨rfl, rfl, hk⟩
    | ok r =>
      obtain ⟨x, q⟩ := r
      obtain ⟨v, rfl, ⟨c, rfl, hx3⟩, h9, hj9⟩ := hpo
      have hr9 := hj9.heapEq hr3 (by omega)
      obtain ⟨t9, i9, o9, l9, j9⟩ := fin10 hr9 rfl hx3
      have HZ : Hid (PoA P T (VS W.heap.size) W (.ok (x, q)) (.returned (.agg c.toArray)) (v1.setCells W.heap.size 0 c)) := poS_fin (Nat.le_refl W.heap.size) hx3 (fun g hg => ⟨by omega, by omega⟩) h9 (hk3.trans hj9) hPl hTl
      have HL : Hid (v1.there W.heap.size 0 c.toArray.size ∧ (Tryz.prog.info? 40).map (·.size) = some c.toArray.size ∧ c.toArray.all (·.oneCell') = true ∧ (loadVar 40 ⟨W.heap.size, 0, none⟩).run Tryz.prog (v1.setCells W.heap.size 0 c) = .ok (.agg c.toArray) (v1.setCells W.heap.size 0 c)) := ⟨t9, i9, o9, l9⟩
      clear h9 hj9 hr9 hx3 t9 i9 o9 l9 j9 hk3 hr3 HD
      go_wp2_with (first
        | (refine wpList_store_mid rfl 40 (Operand.tmp 2) (Operand.tmp 21) rfl W.heap.size 0 c.toArray rfl rfl HL.out.1 HL.out.2.1 HL.out.2.2.1 ?_)
        | fail)
      refine bodyPost_ret (v := .agg c.toArray) (res_one Tryz.results33 _ _ rfl HL.out.2.2.2) rfl HZ.out
  | false =>
  simp only [hb0, hb1, hb2, cond_false] at hz
  go_enter Tryz.func33, Tryz.ntmps33
  have HS0 := sees_no h0 (x := [105, 102]) hb0
  rw [World.size_alloc] at HS0
  go_wp2_with fail
  refine HS0.mono ?_
  rintro e w1 ⟨rfl, hj1, h1⟩
  have hk1 := hk0.trans hj1
  have hr1 := hj1.heapEq hr0 (by omega)
  clear h0 hj1 hr0 hk0 HS0
  go_wp2_with fail
  refine (sees_no h1 (x := [102, 111, 114]) hb1).mono ?_
  rintro e w2 ⟨rfl, hj2, h2⟩
  have hk2 := hk1.trans hj2
  have hr2 := hj2.heapEq hr1 (by omega)
  clear h1 hj2 hr1 hk1
  go_wp2_with fail
  refine (sees_no h2 (x := [100, 101, 102]) hb2).mono ?_
  rintro e w3 ⟨rfl, hj3, h3⟩
  have hk3 := hk2.trans hj3
  have hr3 := hj3.heapEq hr2 (by omega)
  have hs3 : W.heap.size < w3.heap.size := (Array.getElem?_eq_some_iff.1 hr3).1
  clear h2 hj3 hr2 hk2
  rcases bnd_some hz with ⟨x, hx, rfl⟩ | ⟨x, q4, hx, hz4⟩
  · have HD := HE.out w3 _ _ h3 (HEr.out _ hk3) hx
    go_wp2_with fail
    refine HD.mono ?_
    rintro e v1 hpo
    obtain ⟨rfl, hk⟩ := bad_panic hpo hk3
    exact ⟨rfl, rfl, hk⟩
  have HD := HE.out w3 _ _ h3 (HEr.out _ hk3) hx
  go_wp2_with fail
  refine HD.mono ?_
  rintro e w7 ⟨v, rfl, ⟨c, rfl, hx7⟩, h7, hj7⟩
  have hk7 := hk3.trans hj7
  have hr7 := hj7.heapEq hr3 (by omega)
  have hs7 : W.heap.size < w7.heap.size := (Array.getElem?_eq_some_iff.1 hr7).1
  obtain ⟨t1, r1, x1, g1⟩ := var10 hx7
  obtain ⟨-, i1, o1, -, j1⟩ := fin10 hr7 rfl hx7
  have HF : Hid ((w7.alloc sz).there w7.heap.size 0 c.toArray.size ∧ (Tryz.prog.info? 40).map (·.size) = some c.toArray.size ∧ c.toArray.all (·.oneCell') = true) := ⟨t1, i1, o1⟩
  have hA : PsA P T ((w7.alloc sz).setCells w7.heap.size 0 c) q4 := h7.keep (g1 P (by omega)) (g1 T (by omega))
  have HA : Hid (KP P W ((w7.alloc sz).setCells w7.heap.size 0 c) ∧ ((w7.alloc sz).setCells w7.heap.size 0 c).rangeAt w7.heap.size 0 c ∧ ((w7.alloc sz).setCells w7.heap.size 0 c).heap[W.heap.size]? = some sz ∧ SmA ((w7.alloc sz).setCells w7.heap.size 0 c) (fun g => w3.heap.size ≤ g ∧ g < w7.heap.size) x c ∧ ((w7.alloc sz).setCells w7.heap.size 0 c).heap.size = w7.heap.size + 1) := ⟨hk7.trans ((KP.al P w7 sz).sets (by omega) c), r1, (g1 _ hs7).trans hr7, x1, by rw [size_sets, World.size_alloc]⟩
  clear t1 r1 x1 g1 i1 o1 j1 hk7 hr7 hj7 h7 hx7 HD hx hz HE hk3 hr3 h3
  rcases bnd_some hz4 with ⟨y, hy, rfl⟩ | ⟨_, q8, hy, hz8⟩
  · have HT := take2_any hA 6 (by decide) hy
    clear hA
    go_wp2_with (first
      | (refine wpList_store_mid rfl 40 (Operand.tmp 3) (Operand.tmp 23) rfl w7.heap.size 0 c.toArray rfl rfl HF.out.1 HF.out.2.1 HF.out.2.2 ?_)
      | fail)
    refine HT.mono ?_
    rintro e v1 hpo
    obtain ⟨rfl, hk⟩ := bad_panic hpo HA.out.1
    exact ⟨rfl, rfl, hk⟩
  have HT := take2_any hA 6 (by decide) hy
  cases hz8
  clear hA
  go_wp2_with (first
    | (refine wpList_store_mid rfl 40 (Operand.tmp 3) (Operand.tmp 23) rfl w7.heap.size 0 c.toArray rfl rfl HF.out.1 HF.out.2.1 HF.out.2.2 ?_)
    | fail)
  refine HT.mono ?_
  rintro e w8 ⟨v, rfl, rfl, h8, hj8⟩
  have hev8 : w8.rangeAt w7.heap.size 0 c := range_keep HA.out.2.1 (hj8.blk _ (by have := HA.out.2.2.2.2; omega) (by omega))
  have hr8 := hj8.heapEq HA.out.2.2.1 (by omega)
  have hx8 : SmA w8 (fun g => w3.heap.size ≤ g ∧ g < w7.heap.size) x c := HA.out.2.2.2.1.keep (fun g hg hg2 => hj8.blk g hg2 (by omega)) (fun g hg _ => hg)
  obtain ⟨t2, i2, o2, l2, j2⟩ := fin10 hr8 rfl hx8
  have HZ : Hid (PoA P T (VS W.heap.size) W (.ok (x, q8)) (.returned (.agg c.toArray)) (w8.setCells W.heap.size 0 c)) := poS_fin (Nat.le_refl _) hx8 (fun g hg => ⟨by omega, by omega⟩) h8 (HA.out.1.trans hj8) hPl hTl
  have HG : Hid (w8.rangeAt w7.heap.size 0 c ∧ (Tryz.prog.info? 40).map (·.size) = some c.length ∧ w8.there W.heap.size 0 c.toArray.size ∧ (Tryz.prog.info? 40).map (·.size) = some c.toArray.size ∧ c.toArray.all (·.oneCell') = true ∧ (loadVar 40 ⟨W.heap.size, 0, none⟩).run Tryz.prog (w8.setCells W.heap.size 0 c) = .ok (.agg c.toArray) (w8.setCells W.heap.size 0 c)) := ⟨hev8, j2, t2, i2, o2, l2⟩
  clear t2 i2 o2 l2 j2 hx8 hr8 hev8 h8 hj8 HA HF HT
  go_wp2_with (first
    | (refine wpList_load_mid rfl 40 (Operand.tmp 3) rfl w7.heap.size 0 rfl c _ HG.out.1 Tryz.underlying40 rfl HG.out.2.1 ?_)
    | (refine wpList_store_mid rfl 40 (Operand.tmp 2) (Operand.tmp 26) rfl W.heap.size 0 c.toArray rfl rfl HG.out.2.2.1 HG.out.2.2.2.1 HG.out.2.2.2.2.1 ?_)
    | fail)
  refine bodyPost_ret (v := .agg c.toArray) (res_one Tryz.results33 _ _ rfl HG.out.2.2.2.2.2) rfl HZ.out
end Go.Proofs.YtcaeeackccgclaaGreatDoor

/- source: all statements. -/
namespace Go.Proofs.YtcaeeackccgclaaGreatDoor
open Go.RowKit Go.Shelf
attribute [local go_sem ↓] fld0 fld1 fld2 fld3

def SoI (P T n : Nat) (w : World) (St : Ps → Px Sm) (z : Except Ft (List Sm × Ps)) (v : Value) (wr : World) : Prop := ∃ l p f vs, srcL St f l p = some z ∧ PsA P T wr p ∧ KP P w wr ∧ RwS n wr l v vs

set_option maxHeartbeats 8000000 in
set_option maxRecDepth 100000 in
theorem source_any {P T : Nat} {St : Ps → Px Sm} (hSt : MethS P T 33 St) (W : World) (p : Ps) (z : Except Ft (List Sm × Ps)) (h : PsA P T W p) (hr : ErrR W) (hz : srcL St (p.toks.length + 1) [] p = some z) :
    Calls Tryz.prog 22 #[pt P] W (PoA P T (VL W.heap.size) W z) := by
  obtain ⟨i0, hi, hz0, hz1, hz2⟩ := info_p infSt
  have hPl := h.lt
  have hTl := h.ltT
  have HE : Hid (MethS P T 33 St) := hSt
  have HEr : Hid (∀ W', KP P W W' → ErrR W') := fun W' hk => hr.kp (hr.ne h) hk
  have HJ : Hid (SoI P T W.heap.size W St z (.slice none 0 0) W) := ⟨[], p, _, [], hz, h, KP.refl P W, World.ownsRow_nil _ _ _ _, trivial⟩
  clear h hr hz hSt
  go_enter Tryz.func22, Tryz.ntmps22
  go_wp2
  go_loopw [3] (fun u wr => ∃ v : Value, u = v ∧ Hid (SoI P T W.heap.size W St z v wr)) (fun _ wr => tkLen P wr)
  case atStart => exact ⟨_, rfl, HJ⟩
  case round =>
    obtain ⟨v, rfl, hrel⟩ := hrel
    obtain ⟨l, p', f, vs, hj, hps, hk, hrw⟩ := hrel.out
    obtain ⟨ao, cp, rfl⟩ := row_shape hrw.row
    clear hrel HJ
    cases f with
    | zero => cases hj
    | succ f =>
    unfold srcL at hj
    have htk := hps.tk
    obtain ⟨a, c, c0, _⟩ := hps.cells
    by_cases hl0 : p'.toks.length = 0
    · rw [show decide (p'.toks.length = 0) = true from by simpa using hl0] at hj
      cases hj
      rw [hl0] at c0
      have HZ : Hid (PoA P T (VL W.heap.size) W (.ok (l, p')) (.returned (.slice ao l.length cp)) wr) := ⟨_, rfl, ⟨vs, hrw⟩, hps, hk⟩
      clear hps hk hrw
      go_wp2
      go_ret
      exact HZ.out
    · rw [show decide (p'.toks.length = 0) = false from by simpa using hl0] at hj
      replace hj : iff (decide (l.length < 1000000)) (bnd (St p') fun s q => iff (less q p') (srcL St f (l ++ [s]) q)) = some z := hj
      obtain ⟨hn, hj2⟩ := iff_some hj
      have hn1 : l.length < 1000000 := of_decide_eq_true hn
      have hpos : (0 : Int) < (p'.toks.length : Int) := by omega
      clear hj hn
      rcases bnd_some hj2 with ⟨x, hx, rfl⟩ | ⟨y, q, hx, hq⟩
      · have HD := HE.out wr _ _ hps (HEr.out _ hk) hx
        clear hps hrw hx hj2
        go_wp2_with (go_at_call 33; refine HD.mono ?_; rintro e1 w1 hpo; obtain ⟨rfl, hk1⟩ := bad_panic hpo hk)
        exact ⟨rfl, rfl, hk1⟩
      · have HD := HE.out wr _ _ hps (HEr.out _ hk) hx
        obtain ⟨hle, hj3⟩ := iff_some hq
        have hle2 : q.toks.length < p'.toks.length := of_decide_eq_true hle
        clear hx hj2 hq hle
        go_wp2_with fail
        refine HD.mono ?_
        rintro e1 w1 ⟨v1, rfl, ⟨cy, rfl, hy1⟩, hp1, hk1⟩
        obtain ⟨a0, k0, a1, k1, a2, k2, a3, k3, a4, k4, hcy⟩ := hy1.form
        have hlo : W.heap.size ≤ wr.heap.size := hk.size
        have hob := fun g (hg : (Value.slice ao l.length cp).ownBlock = some g) => (hrw.row.lt g hg).2
        have hrw1 := hrw.keep (w' := w1) (fun g hg hg2 => hk1.blk g hg2 (by omega))
        have hyS : SmA w1 (fun g => W.heap.size ≤ g ∧ (Value.slice ao l.length cp).ownBlock ≠ some g) y cy := hy1.mono (fun g hg _ => ⟨by omega, fun e => by have := hob g e; omega⟩)
        subst hcy
        have hkX : KP P W (w1.alloc (.cells #[.int .i64 y.kind, .string (mkB y.text), .slice a0 y.names.length k0, .int .i64 y.ex.kind, .int .i64 y.ex.num, .string (mkB y.ex.text), .slice a1 y.ex.kids.length k1, .slice a2 y.ex.names.length k2, .slice a3 y.body.length k3, .slice a4 y.els.length k4] 40)) := (hk.trans hk1).trans (KP.al P w1 _)
        have HX : Hid (RwS W.heap.size (w1.alloc (.cells #[.int .i64 y.kind, .string (mkB y.text), .slice a0 y.names.length k0, .int .i64 y.ex.kind, .int .i64 y.ex.num, .string (mkB y.ex.text), .slice a1 y.ex.kids.length k1, .slice a2 y.ex.names.length k2, .slice a3 y.body.length k3, .slice a4 y.els.length k4] 40)) l (.slice ao l.length cp) vs ∧ SmA (w1.alloc (.cells #[.int .i64 y.kind, .string (mkB y.text), .slice a0 y.names.length k0, .int .i64 y.ex.kind, .int .i64 y.ex.num, .string (mkB y.ex.text), .slice a1 y.ex.kids.length k1, .slice a2 y.ex.names.length k2, .slice a3 y.body.length k3, .slice a4 y.els.length k4] 40)) (fun g => W.heap.size ≤ g ∧ (Value.slice ao l.length cp).ownBlock ≠ some g) y ([.int .i64 y.kind, .string (mkB y.text), .slice a0 y.names.length k0, .int .i64 y.ex.kind, .int .i64 y.ex.num, .string (mkB y.ex.text), .slice a1 y.ex.kids.length k1, .slice a2 y.ex.names.length k2, .slice a3 y.body.length k3, .slice a4 y.els.length k4] : List Value) ∧ PsA P T (w1.alloc (.cells #[.int .i64 y.kind, .string (mkB y.text), .slice a0 y.names.length k0, .int .i64 y.ex.kind, .int .i64 y.ex.num, .string (mkB y.ex.text), .slice a1 y.ex.kids.length k1, .slice a2 y.ex.names.length k2, .slice a3 y.body.length k3, .slice a4 y.els.length k4] 40)) q ∧ KP P W (w1.alloc (.cells #[.int .i64 y.kind, .string (mkB y.text), .slice a0 y.names.length k0, .int .i64 y.ex.kind, .int .i64 y.ex.num, .string (mkB y.ex.text), .slice a1 y.ex.kids.length k1, .slice a2 y.ex.names.length k2, .slice a3 y.body.length k3, .slice a4 y.els.length k4] 40))) := ⟨hrw1.keep (fun g _ hg2 => heap_al w1 _ g hg2), hyS.keep (fun g _ hg2 => heap_al w1 _ g hg2) (fun _ hg _ => hg), hp1.up (alB _ _), hkX⟩
        have hsX : W.heap.size ≤ (w1.alloc (.cells #[.int .i64 y.kind, .string (mkB y.text), .slice a0 y.names.length k0, .int .i64 y.ex.kind, .int .i64 y.ex.num, .string (mkB y.ex.text), .slice a1 y.ex.kids.length k1, .slice a2 y.ex.names.length k2, .slice a3 y.body.length k3, .slice a4 y.els.length k4] 40)).heap.size := hkX.size
        have hnews : ∀ (j : Nat) (u : Value), ([.int .i64 y.kind, .string (mkB y.text), .slice a0 y.names.length k0, .int .i64 y.ex.kind, .int .i64 y.ex.num, .string (mkB y.ex.text), .slice a1 y.ex.kids.length k1, .slice a2 y.ex.names.length k2, .slice a3 y.body.length k3, .slice a4 y.els.length k4] : List Value)[j]? = some u → (w1.alloc (.cells #[.int .i64 y.kind, .string (mkB y.text), .slice a0 y.names.length k0, .int .i64 y.ex.kind, .int .i64 y.ex.num, .string (mkB y.ex.text), .slice a1 y.ex.kids.length k1, .slice a2 y.ex.names.length k2, .slice a3 y.body.length k3, .slice a4 y.els.length k4] 40)).cell? ((⟨w1.heap.size, 0, none⟩ : Addr).add j) = some u := fun j u hu => World.news_of_block (heap_alloc_new w1 _) j u hu
        have hone := hyS.one
        clear hyS hrw1 hob hlo hy1 hp1 hk1 hrw hps hk HD hkX
        go_wp2_with (first
          | (refine wpList_append_lies (w1.alloc (.cells #[.int .i64 y.kind, .string (mkB y.text), .slice a0 y.names.length k0, .int .i64 y.ex.kind, .int .i64 y.ex.num, .string (mkB y.ex.text), .slice a1 y.ex.kids.length k1, .slice a2 y.ex.names.length k2, .slice a3 y.body.length k3, .slice a4 y.els.length k4] 40)) (by rfl) (Operand.tmp 10) (Operand.tmp 13) 28 (by rfl) W.heap.size 40 i0 (.agg #[.int .i64 0, .string ⟨#[]⟩, .slice none 0 0, .int .i64 0, .int .i64 0, .string ⟨#[]⟩, .slice none 0 0, .slice none 0 0, .slice none 0 0, .slice none 0 0]) 10 176 Tryz.underlying28 hi hz0 hz1 hz2 rfl (by decide) (.slice ao l.length cp) l.length vs.flatten (by rfl) HX.out.1.row ⟨w1.heap.size, 0, none⟩ 1 1 ([.int .i64 y.kind, .string (mkB y.text), .slice a0 y.names.length k0, .int .i64 y.ex.kind, .int .i64 y.ex.num, .string (mkB y.ex.text), .slice a1 y.ex.kids.length k1, .slice a2 y.ex.names.length k2, .slice a3 y.body.length k3, .slice a4 y.els.length k4] : List Value) (by rfl) rfl hnews hone (by decide) (by unfold maxLen; omega) (by omega) hsX (w1.alloc (.cells #[.int .i64 y.kind, .string (mkB y.text), .slice a0 y.names.length k0, .int .i64 y.ex.kind, .int .i64 y.ex.num, .string (mkB y.ex.text), .slice a1 y.ex.kids.length k1, .slice a2 y.ex.names.length k2, .slice a3 y.body.length k3, .slice a4 y.els.length k4] 40)).heap.size rfl ?_; intro g' cap' w2 hown2 hgrow hat hltg)
          | fail)
        have hPn : (Value.slice ao l.length cp).ownBlock ≠ some P := fun e => by have := (HX.out.1.row.lt P e).1; omega
        have hTn : (Value.slice ao l.length cp).ownBlock ≠ some T := fun e => by have := (HX.out.1.row.lt T e).1; omega
        have hp2 : PsA P T w2 q := HX.out.2.2.1.keep (hgrow.block P HX.out.2.2.1.lt (fun e => hPn e.symm)) (hgrow.block T HX.out.2.2.1.ltT (fun e => hTn e.symm))
        have hk2 : KP P W w2 := HX.out.2.2.2.trans' hgrow (fun g hg e => by have := (HX.out.1.row.lt g e.symm).1; omega)
        have HJ : Hid (SoI P T W.heap.size W St z (.slice (some ⟨g', 0, none⟩) (l.length + 1) cap') w2) := ⟨l ++ [y], q, f, _, hj3, hp2, hk2, HX.out.1.push HX.out.2.1 hgrow hat hown2⟩
        have htk2 := hp2.tk
        refine ⟨⟨_, rfl, HJ⟩, by rw [htk2, htk]; exact hle2⟩
/-- A statement, with so many blocks in one another. -/
theorem stD_any {P T : Nat} {E : Ps → Px Ex} (hE : MethC P T 70 E) : ∀ n, MethS P T 33 (stD E n)
  | 0 => fun W p z _ _ hz => by cases hz
  | n + 1 => by
    have hB := block_any (stD_any hE n)
    exact fun W p z h hr hz => statement_any (small_any hE) (condition_any hE hB) (loop_any hE hB) (definition_any hB) W p z h hr hz
end Go.Proofs.YtcaeeackccgclaaGreatDoor

/- The writer: statements. -/
namespace Go.Proofs.YtcaeeackccgclaaGreatDoor
open Go.RowKit Go.Shelf

/-- Expressions, whole. -/
theorem exprW_any : ∀ m, ExC 39 m
  | 0 => fun _ _ _ _ _ _ _ _ _ h => by cases h
  | m + 1 => fun B b n x out l w S c hx h hB hg ht he hS hlen => by
    have ih := exprW_any m
    unfold wE at hx
    cases h4 : (x.kind == 4 && decide (x.num ≤ 1000000)) with
    | true =>
      rw [h4] at hx
      cases hx
      simp at h4
      exact exprI_any h4.1 h4.2 h hB hg ht he hlen
    | false =>
    rw [h4] at hx
    cases h7 : (x.kind == 7 && decide (x.kids.length ≤ 1000000)) with
    | true =>
      rw [h7] at hx
      simp at h7
      cases hw : wL (wE m) true x.kids with
      | none => rw [hw] at hx; cases hx
      | some a =>
        rw [hw] at hx
        cases hx
        simp at hlen
        refine exprM_any (by omega) h hB hg ht he fun V hV hBV htV heV => ?_
        exact madeL_any ih h7.1 hw hV hBV hg htV heV hS h7.2 (by omega)
    | false =>
    rw [h7] at hx
    cases h11 : (x.kind == 11) with
    | false => rw [h11] at hx; cases hx
    | true =>
      rw [h11] at hx
      simp at h11
      match hk : x.kids, hx with
      | [y, z], hx =>
        simp only [cond_true, cond_false] at hx
        cases hy : decide (y.kind < 12) with
        | false => rw [hy] at hx; cases hx
        | true =>
        rw [hy] at hx
        cases h1 : wE m y with
        | none => rw [h1] at hx; cases hx
        | some u =>
        cases h2 : wE m z with
        | none => rw [h1, h2] at hx; cases hx
        | some v =>
          rw [h1, h2] at hx
          cases hx
          simp at hlen hy
          refine exprM_any (by omega) h hB hg ht he fun V hV hBV htV heV => ?_
          exact madeI_any ih h11 hk hy h1 h2 hV hBV hg htV heV hS (by omega)

set_option maxHeartbeats 2000000 in
set_option maxRecDepth 100000 in
theorem repeat0 (s : ByteArray) (w : World) : Calls Tryz.prog 24 #[.string s, .int .i64 0] w fun e w' => e = .returned (.string ⟨#[]⟩) ∧ w' = w := by
  go_enter Tryz.func24, Tryz.ntmps24
  go_wp2
  go_ret
  exact ⟨rfl, rfl⟩

theorem WrIs.c2 {B b : Nat} {n : Int} {bs : List Value} {w : World} (h : WrIs B b n bs w) : w.cell? ⟨b, 2, none⟩ = some (.int .i64 n) := by
  rcases h with ⟨_, v, h1, _⟩ | ⟨_, v, h1, _⟩ <;> (rw [Lib.cell_of_heap h1]; rfl)

set_option maxHeartbeats 4000000 in
set_option maxRecDepth 100000 in
theorem begin_any {B b : Nat} {l : List UInt8} {w : World} (h : WrIs B b 0 (Lib.byteCells l) w) (hB : B ≤ w.heap.size) (hlen : l.length ≤ 1000000000) :
    Calls Tryz.prog 17 #[pt b] w (WpO B b 0 l w) := by
  have c2 := h.c2
  have HR : Hid (Calls Tryz.prog 24 #[.string ⟨#[32, 32, 32, 32]⟩, .int .i64 0] w.drew fun e w' => e = .returned (.string ⟨#[]⟩) ∧ w' = w.drew) := repeat0 _ _
  have HW : Hid (Calls Tryz.prog 23 #[pt b, .string ⟨#[]⟩] w.drew fun e w' => e = .returned (.tuple #[.int .i64 (0 : Nat), .nilIface]) ∧ WrIs B b 0 (Lib.byteCells l) w' ∧ Kp B b w w' ∧ B ≤ w'.heap.size) := (ws_any (w := w.drew) h hB [] (by simpa using hlen)).mono fun e w' ⟨q1, q2, q3, q4⟩ => ⟨q1, by simpa using q2, q3.un, q4⟩
  clear h hB
  go_enter Tryz.func17, Tryz.ntmps17
  go_wp2_with fail
  go_region_with (first
    | (go_at_call 24; refine HR.out.mono ?_; rintro e w1 ⟨rfl, rfl⟩)
    | (go_at_call 23; refine HW.out.mono ?_; rintro e w2 ⟨rfl, h2, hk2, hB2⟩)
    | fail)
  all_goals
    go_wp2
    go_end0
    exact ⟨rfl, h2, hk2, hB2⟩

theorem ten_of {w : World} {R : Nat} {v0 v1 v2 v3 v4 v5 v6 v7 v8 v9 : Value} {t : TypeId} (h : w.heap[R]? = some (.cells #[v0, v1, v2, v3, v4, v5, v6, v7, v8, v9] t (0, 0))) : w.cell? ⟨R, 0, none⟩ = some v0 ∧ w.cell? ⟨R, 1, none⟩ = some v1 ∧ w.cell? ⟨R, 2, none⟩ = some v2 ∧ w.cell? ⟨R, 3, none⟩ = some v3 ∧ w.cell? ⟨R, 4, none⟩ = some v4 ∧ w.cell? ⟨R, 5, none⟩ = some v5 ∧ w.cell? ⟨R, 6, none⟩ = some v6 ∧ w.cell? ⟨R, 7, none⟩ = some v7 ∧ w.cell? ⟨R, 8, none⟩ = some v8 ∧ w.cell? ⟨R, 9, none⟩ = some v9 := by
  refine ⟨?_, ?_, ?_, ?_, ?_, ?_, ?_, ?_, ?_, ?_⟩ <;> (rw [Lib.cell_of_heap h]; rfl)
theorem SmA.ex {w : World} {S : Nat → Prop} {x : Sm} {a0 a1 a2 a3 a4 : Option Addr} {c0 c1 c2 c3 c4 : Nat} (h : SmA w S x ([.int .i64 x.kind, .string (mkB x.text), .slice a0 x.names.length c0, .int .i64 x.ex.kind, .int .i64 x.ex.num, .string (mkB x.ex.text), .slice a1 x.ex.kids.length c1, .slice a2 x.ex.names.length c2, .slice a3 x.body.length c3, .slice a4 x.els.length c4] : List Value)) : ExA w S x.ex [.int .i64 x.ex.kind, .int .i64 x.ex.num, .string (mkB x.ex.text), .slice a1 x.ex.kids.length c1, .slice a2 x.ex.names.length c2] := by
  obtain ⟨n, hn⟩ := h
  match n, hn with
  | n + 1, ⟨nv, ce, bv, ev, bs, es, e, h1, h2, h3, h4, _⟩ =>
    obtain ⟨b1, d1, b2, d2, rfl⟩ := h1.form
    have e2 : ([.int .i64 x.kind, .string (mkB x.text), .slice a0 x.names.length c0, .int .i64 x.ex.kind, .int .i64 x.ex.num, .string (mkB x.ex.text), .slice a1 x.ex.kids.length c1, .slice a2 x.ex.names.length c2, .slice a3 x.body.length c3, .slice a4 x.els.length c4] : List Value).drop 3 = (([.int .i64 x.ex.kind, .int .i64 x.ex.num, .string (mkB x.ex.text), .slice b1 x.ex.kids.length d1, .slice b2 x.ex.names.length d2] ++ [bv, ev] : List Value)) := by rw [e]; rfl
    simp at e2
    obtain ⟨⟨rfl, rfl⟩, ⟨rfl, rfl⟩, _⟩ := e2
    exact h1

set_option maxHeartbeats 4000000 in
set_option maxRecDepth 100000 in
theorem wsmall_any {m B b : Nat} {n : Int} {x : Sm} {out l : List UInt8} {w : World} {S : Nat → Prop} {c : List Value} (hkd : x.kind = 3) (hx : wE m x.ex = some out) (h : WrIs B b n (Lib.byteCells l) w) (hB : B ≤ w.heap.size) (hg : 1 < B) (ht : TabW w) (he : SmA w S x c) (hS : ∀ g, S g → g ≠ b) (hlen : l.length + x.text.length + 3 + out.length ≤ 1000000000) :
    Calls Tryz.prog 28 #[pt b, .agg c.toArray] w (WpO B b n (l ++ (x.text ++ [32, 61, 32]) ++ out) w) := by
  obtain ⟨a0, c0, a1, c1, a2, c2, a3, c3, a4, c4, rfl⟩ := he.form
  have hk0 : Kp B b w (w.alloc (.cells #[.int .i64 x.kind, .string (mkB x.text), .slice a0 x.names.length c0, .int .i64 x.ex.kind, .int .i64 x.ex.num, .string (mkB x.ex.text), .slice a1 x.ex.kids.length c1, .slice a2 x.ex.names.length c2, .slice a3 x.body.length c3, .slice a4 x.els.length c4] 40)) := Kp.al b hB _
  have s0 : (w.alloc (.cells #[.int .i64 x.kind, .string (mkB x.text), .slice a0 x.names.length c0, .int .i64 x.ex.kind, .int .i64 x.ex.num, .string (mkB x.ex.text), .slice a1 x.ex.kids.length c1, .slice a2 x.ex.names.length c2, .slice a3 x.body.length c3, .slice a4 x.els.length c4] 40)).heap.size = w.heap.size + 1 := World.size_alloc _ _
  have HE : Calls Tryz.prog 27 #[pt b, .agg #[.int .i64 x.ex.kind, .int .i64 x.ex.num, .string (mkB x.ex.text), .slice a1 x.ex.kids.length c1, .slice a2 x.ex.names.length c2], .string ⟨(x.text ++ [32, 61, 32]).toArray⟩] (w.alloc (.cells #[.int .i64 x.kind, .string (mkB x.text), .slice a0 x.names.length c0, .int .i64 x.ex.kind, .int .i64 x.ex.num, .string (mkB x.ex.text), .slice a1 x.ex.kids.length c1, .slice a2 x.ex.names.length c2, .slice a3 x.body.length c3, .slice a4 x.els.length c4] 40)) (WpO B b n (l ++ (x.text ++ [32, 61, 32]) ++ out) (w.alloc (.cells #[.int .i64 x.kind, .string (mkB x.text), .slice a0 x.names.length c0, .int .i64 x.ex.kind, .int .i64 x.ex.num, .string (mkB x.ex.text), .slice a1 x.ex.kids.length c1, .slice a2 x.ex.names.length c2, .slice a3 x.body.length c3, .slice a4 x.els.length c4] 40))) := before_any (exprW_any m) hx (h.al _) (by omega) hg (ht.kp hk0 hg) (he.ex.al _) hS _ (by simp; omega)
  have hsum : ¬ 9223372036854775807 < (mkB x.text).size + 3 := by rw [mk_size]; omega
  have hap : (mkB x.text ++ ⟨#[32, 61, 32]⟩ : ByteArray) = ⟨(x.text ++ [32, 61, 32]).toArray⟩ := by
    apply ByteArray.ext
    simp [mkB]
  have q1 : (((x.kind : Nat) : Int) == (1 : Int)) = false := by rw [hkd]; rfl
  have q2 : (((x.kind : Nat) : Int) == (2 : Int)) = false := by rw [hkd]; rfl
  have q3 : (((x.kind : Nat) : Int) == (3 : Int)) = true := by rw [hkd]; rfl
  have HK : Hid (Kp B b w (w.alloc (.cells #[.int .i64 x.kind, .string (mkB x.text), .slice a0 x.names.length c0, .int .i64 x.ex.kind, .int .i64 x.ex.num, .string (mkB x.ex.text), .slice a1 x.ex.kids.length c1, .slice a2 x.ex.names.length c2, .slice a3 x.body.length c3, .slice a4 x.els.length c4] 40))) := hk0
  clear h hk0 ht he s0 hx hkd
  go_enter Tryz.func28, Tryz.ntmps28
  go_wp2_with fail
  refine HE.mono ?_
  rintro e w2 ⟨rfl, h2, hk2, hB2⟩
  go_wp2
  go_end0
  exact ⟨rfl, by simpa using h2, HK.out.trans hk2, hB2⟩

set_option maxHeartbeats 4000000 in
set_option maxRecDepth 100000 in
theorem wstatement_any {m B b : Nat} {n : Int} {x : Sm} {out l : List UInt8} {w : World} {S : Nat → Prop} {c : List Value} (hkd : x.kind = 3) (hx : wE m x.ex = some out) (h : WrIs B b n (Lib.byteCells l) w) (hB : B ≤ w.heap.size) (hg : 1 < B) (ht : TabW w) (he : SmA w S x c) (hS : ∀ g, S g → g ≠ b) (hlen : l.length + x.text.length + 4 + out.length ≤ 1000000000) :
    Calls Tryz.prog 18 #[pt b, .agg c.toArray] w (WpO B b n (l ++ (x.text ++ [32, 61, 32]) ++ out ++ [10]) w) := by
  obtain ⟨a0, c0, a1, c1, a2, c2, a3, c3, a4, c4, rfl⟩ := he.form
  have hk0 : Kp B b w (w.alloc (.cells #[.int .i64 x.kind, .string (mkB x.text), .slice a0 x.names.length c0, .int .i64 x.ex.kind, .int .i64 x.ex.num, .string (mkB x.ex.text), .slice a1 x.ex.kids.length c1, .slice a2 x.ex.names.length c2, .slice a3 x.body.length c3, .slice a4 x.els.length c4] 40)) := Kp.al b hB _
  have s0 : (w.alloc (.cells #[.int .i64 x.kind, .string (mkB x.text), .slice a0 x.names.length c0, .int .i64 x.ex.kind, .int .i64 x.ex.num, .string (mkB x.ex.text), .slice a1 x.ex.kids.length c1, .slice a2 x.ex.names.length c2, .slice a3 x.body.length c3, .slice a4 x.els.length c4] 40)).heap.size = w.heap.size + 1 := World.size_alloc _ _
  have HE := wsmall_any hkd hx (h.al (.cells #[.int .i64 x.kind, .string (mkB x.text), .slice a0 x.names.length c0, .int .i64 x.ex.kind, .int .i64 x.ex.num, .string (mkB x.ex.text), .slice a1 x.ex.kids.length c1, .slice a2 x.ex.names.length c2, .slice a3 x.body.length c3, .slice a4 x.els.length c4] 40)) (by omega) hg (ht.kp hk0 hg) (he.keep (fun g _ hg => heap_al w _ g hg) (fun _ hg _ => hg)) hS (by omega)
  have q1 : (((x.kind : Nat) : Int) == (6 : Int)) = false := by rw [hkd]; rfl
  have q2 : (((x.kind : Nat) : Int) == (7 : Int)) = false := by rw [hkd]; rfl
  have q3 : (((x.kind : Nat) : Int) == (8 : Int)) = false := by rw [hkd]; rfl
  have HK : Hid (Kp B b w (w.alloc (.cells #[.int .i64 x.kind, .string (mkB x.text), .slice a0 x.names.length c0, .int .i64 x.ex.kind, .int .i64 x.ex.num, .string (mkB x.ex.text), .slice a1 x.ex.kids.length c1, .slice a2 x.ex.names.length c2, .slice a3 x.body.length c3, .slice a4 x.els.length c4] 40))) := hk0
  clear h hk0 ht he s0 hx hkd
  go_enter Tryz.func18, Tryz.ntmps18
  go_wp2_with fail
  refine HE.mono ?_
  rintro e w2 ⟨rfl, h2, hk2, hB2⟩
  have HW := wb_any h2 hB2 10 (by simp; omega)
  go_wp2_with (go_at_call 29; refine HW.mono ?_; rintro e w3 ⟨rfl, h3, hk3, hB3⟩)
  go_end0
  exact ⟨rfl, by simpa using h3, (HK.out.trans hk2).trans hk3, hB3⟩
end Go.Proofs.YtcaeeackccgclaaGreatDoor
