/- A walk that looks for a circle, walked. -/
import Derived.Test.YtankaiopdbcndaaGreatDoorGq4M
namespace Go.Proofs.YtankaiopdbcndaaGreatDoor
open Go.RowKit Go.Shelf Go.Maps Go.WideMaps
attribute [local go_sem ↓] appG_eq2
/-- A circle was found. -/
def FnP (b2 : Nat) (nf : List UInt8 → List ByteArray) (U : List (List UInt8)) (w w' : World) : Prop := ∃ (fv : Value) (c : List ByteArray), w'.cell? ⟨b2, 0, none⟩ = some fv ∧ w'.ownsRow w.heap.size 9 1 fv c.length (c.map Value.string) ∧ Cyc (ndT nf) (c.map tl) ∧ (∀ y ∈ c, tl y ∈ U) ∧ Below w.heap.size w w'
/-- How the walk from one name ends. -/
def CkP (gz : Nat) (oz : Obj) (b1 b2 b3 b4 b5 M ML : Nat) (nf : List UInt8 → List ByteArray) (U P F : List (List UInt8)) (x : ByteArray) (w : World) (e : Ending) (w' : World) : Prop := ∃ b, e = .returned (.bool b) ∧ (b = true → FnP b2 nf U w w') ∧ (b = false → ∃ F' pv', CS gz oz b1 b2 b3 b4 b5 M ML nf U P F' pv' w w' ∧ tl x ∈ F' ∧ ∀ k ∈ F, k ∈ F')

set_option maxHeartbeats 8000000 in
set_option maxRecDepth 100000 in
theorem ckstep (gz : Nat) (oz : Obj) (b1 b2 b3 b4 b5 M ML N : Nat) (D : DataW Unit) (nf : List UInt8 → List ByteArray) (lf : List UInt8 → Value) (U : List (List UInt8)) (w : World) (hT : LT M N D nf lf w) (hU : U.length ≤ 60) (hcl : ∀ k ∈ U, ∀ y ∈ nf k, tl y ∈ U) (hsz : ∀ k ∈ U, k.length ≤ maxLen) (P F : List (List UInt8)) (pv : Value) (x : ByteArray) (wr : World) (h : CS gz oz b1 b2 b3 b4 b5 M ML nf U P F pv w wr) (hx : tl x ∈ U) (hlk : P ≠ [] → ∃ (hp : 0 < P.length), tl x ∈ ndT nf P[P.length - 1])
    (ih : ∀ (P2 F2 : List (List UInt8)) (pv2 : Value) (y : ByteArray) (W : World), P.length + F.length < P2.length + F2.length → CS gz oz b1 b2 b3 b4 b5 M ML nf U P2 F2 pv2 w W → tl y ∈ U → (P2 ≠ [] → ∃ (hp : 0 < P2.length), tl y ∈ ndT nf P2[P2.length - 1]) → Calls Tryz.prog 55 #[.string y, pt b1, pt b2, pt b3, pt b4, pt b5] W (CkP gz oz b1 b2 b3 b4 b5 M ML nf U P2 F2 y w)) :
    Calls Tryz.prog 55 #[.string x, pt b1, pt b2, pt b3, pt b4, pt b5] wr (CkP gz oz b1 b2 b3 b4 b5 M ML nf U P F x w) := by
  have hxs : x.size ≤ maxLen := by have := hsz _ hx; simpa [tl] using this
  have hlen := h.ci.len
  have c1 := cell0 h.c1
  have HIx := Index_any pv (P.map bN) x wr (h.tx hU)
  by_cases hin : tl x ∈ P
  · -- one comes back
    have HF : Hid (∀ r, txI (P.map bN) x r → ∃ (j g c : Nat), r = (j : Int) ∧ j < P.length ∧ P.length ≤ c ∧ pv = .slice (some ⟨g, 0, none⟩) P.length c ∧ Calls Tryz.prog 57 #[.slice (some ⟨g, j, none⟩) (P.length - j) (c - j)] wr fun e w' => ∃ G2 C2 : Nat, e = .returned (.slice (some ⟨G2, 0, none⟩) (P.length - j) C2) ∧ w'.cell? ⟨b2, 0, none⟩ = some (.slice none 0 0) ∧ w'.frozen? ⟨b2, 0, none⟩ = false ∧ Hid (CkP gz oz b1 b2 b3 b4 b5 M ML nf U P F x w (.returned (.bool true)) (w'.setCell ⟨b2, 0, none⟩ (.slice (some ⟨G2, 0, none⟩) (P.length - j) C2)))) := fun r hr => by
      rcases hr with ⟨_, hr⟩ | ⟨j, hj, e1, e2⟩
      · exact absurd (List.mem_map.2 ⟨tl x, hin, bN_tl x⟩) hr
      · have hj2 : j < P.length := by simpa using hj
        have ej : P[j] = tl x := by
          have : tl (P.map bN)[j] = tl x := by rw [e2]
          simpa [tl_bN] using this
        obtain ⟨g, c, e, hb, hcell⟩ := (row_at (l := P.map bN) (by rw [List.length_map]; exact h.row)).resolve_left (fun e => by rw [e] at hj; simp at hj)
        rw [List.length_map] at e
        have hcap : P.length ≤ c := by
          rcases h.row.2 with ⟨e3, _⟩ | ⟨g2, c2, cur, e3, _, _, hc, _⟩
          · rw [e] at e3; cases e3
          · rw [e] at e3
            injection e3 with _ _ e3
            omega
        refine ⟨j, g, c, e1, hj2, hcap, e, ?_⟩
        have hld : ((P.drop j).map bN).length = P.length - j := by simp
        refine (Clone_any g j (P.length - j) (c - j) ((P.drop j).map bN) wr hld.symm (by omega) (by omega) (h.row.lt g (by rw [e]; rfl)).2 (fun i hi => ?_)).mono fun e w' ⟨G, C, q1, q2, q3, q4⟩ => ?_
        · have hi2 : j + i < (P.map bN).length := by rw [List.length_map]; omega
          rw [hcell (j + i) hi2]
          simp
        · have k2 := (q4.block b2 (blk_lt h.c2)).trans h.c2
          rw [hld] at q1 q2
          refine ⟨G, C, q1, cell0 k2, Lib.frozen_of_heap k2 0, true, rfl, fun _ => ?_, fun e => by cases e⟩
          refine ⟨_, (P.drop j).map bN, cell0 (box_set k2), ?_, ?_, fun y hy => ?_, (h.bel.trans (q4.mono h.bel.size)).setCell h.lo2 _⟩
          · rw [hld]
            refine row_low2 (row_low q2 h.bel.size) fun g2 hg2 => set_ne fun e => ?_
            have e2 : G = g2 := by simpa [Value.ownBlock] using hg2
            have := blk_lt h.c2
            omega
          · rw [List.map_map, show (tl ∘ bN) = id from funext tl_bN, List.map_id]
            refine h.ci.cyc hj2 ?_
            rw [ej]
            obtain ⟨_, hl2⟩ := hlk (fun e => by rw [e] at hj2; simp at hj2)
            exact hl2
          · obtain ⟨k, hk, rfl⟩ := List.mem_map.1 hy
            rw [tl_bN]
            exact h.ci.subP k (List.mem_of_mem_drop hk)
    clear hT hU hcl hsz hx hlk ih h hin hxs hlen
    unfold pt
    go_enter Tryz.func55, Tryz.ntmps55
    go_wp2_with fail
    refine HIx.mono ?_
    rintro e w1 ⟨r, rfl, hr, rfl⟩
    obtain ⟨j, g, c, rfl, hj, hcap, rfl, HC⟩ := HF.out r hr
    have hj0 : (0 : Int) ≤ (j : Int) := by omega
    have hjl : j ≤ P.length := by omega
    have hjc : ¬ c = j := by omega
    have hjc2 : j ≤ c := by omega
    clear HF hr HIx
    generalize P.length = pl at *
    go_wp2_with fail
    refine HC.mono ?_
    rintro e w2 ⟨G2, C2, rfl, k1, k2, HE⟩
    clear HC
    go_wp2
    go_ret
    exact HE.out
  · have HIn : Hid (∀ r, txI (P.map bN) x r → r = -1) := fun r hr => by
      rcases hr with ⟨hr, _⟩ | ⟨j, hj, _, e2⟩
      · exact hr
      · refine absurd ?_ hin
        have : tl (P.map bN)[j] = tl x := by rw [e2]
        rw [← this]
        simp only [List.getElem_map, tl_bN]
        exact List.getElem_mem _
    have c3 := cell0 h.c3
    obtain ⟨Wa, hWa⟩ : ∃ Wa, Wa = wr.alloc (.cells #[] 89) := ⟨_, rfl⟩
    have hbA : Below wr.heap.size wr Wa := by rw [hWa]; exact (Below.refl _ wr).alloc (Nat.le_refl _) _
    have hA := h.below hbA
    by_cases hF : tl x ∈ F
    · have hlo := h.lm.look x hxs true ⟨fun _ => hF, fun _ => rfl⟩
      have HE : Hid (CkP gz oz b1 b2 b3 b4 b5 M ML nf U P F x w (.returned (.bool false)) Wa) := ⟨false, rfl, fun e => (by cases e), fun _ => ⟨F, pv, hA, hF, fun _ hk => hk⟩⟩
      rw [hWa] at HE
      clear hT hU hcl hsz hx hlk ih h hin hxs hlen hF hA hbA hWa
      unfold pt
      go_enter Tryz.func55, Tryz.ntmps55
      go_wp2_with fail
      refine HIx.mono ?_
      rintro e w1 ⟨r, rfl, hr, rfl⟩
      obtain rfl := HIn.out r hr
      clear HIn hr HIx
      go_wp2
      go_ret
      exact HE.out
    · have hlo := h.lm.look x hxs false ⟨fun e => (by cases e), fun e => absurd e hF⟩
      obtain ⟨G, C, w5, r1, r2, r3, hP⟩ := hA.push x hU hlk hin hF hx
      have c1A := cell0 hA.c1
      have c4P := cell0 hP.c4
      have c5P := cell0 hP.c5
      have hlk2 := (hT.below hP.bel (Nat.le_refl _)).look x hxs
      rw [show x.data.toList = tl x from rfl] at hlk2
      have hTx := hT.tx (tl x)
      obtain ⟨Wp, hWp⟩ : ∃ Wp, Wp = w5.setCell ⟨b1, 0, none⟩ (.slice (some ⟨G, 0, none⟩) (P.length + 1) C) := ⟨_, rfl⟩
      rw [← hWp] at hP c4P c5P hlk2
      have HCn := conSt (lf (tl x)) (nf (tl x)) 55 (pt b1) (pt b2) (pt b3) (pt b4) (pt b5) (fun k W => ∃ F' pv', CS gz oz b1 b2 b3 b4 b5 M ML nf U (P ++ [tl x]) F' pv' w W ∧ (∀ q ∈ F, q ∈ F') ∧ ∀ j (hj : j < (nf (tl x)).length), j < k → tl (nf (tl x))[j] ∈ F') (FnP b2 nf U w) Wp hTx.2.1 (enters_of Tryz.func55 (by kernel_rfl) rfl)
        (fun k W ⟨F', pv', q1, _, _⟩ => hTx.below q1.bel (Nat.le_refl _)) ⟨F, _, hP, fun _ hq => hq, fun j _ hj => absurd hj (Nat.not_lt_zero _)⟩
        (fun k hk W ⟨F', pv', q1, q2, q3⟩ => (ih (P ++ [tl x]) F' pv' (nf (tl x))[k] W (by
          have hle : F.length ≤ F'.length := h.ci.nodF.length_le_of_subset fun a ha => q2 a ha
          simp
          omega) q1 (hcl _ hx _ (List.getElem_mem hk)) (fun _ => ⟨by simp, by
          simp only [List.length_append, List.length_cons, List.length_nil, Nat.zero_add, Nat.add_sub_cancel]
          rw [List.getElem_append_right (Nat.le_refl _)]
          simp only [Nat.sub_self, List.getElem_cons_zero]
          exact List.mem_map.2 ⟨_, List.getElem_mem hk, rfl⟩⟩)).mono fun e w' ⟨b, p1, p2, p3⟩ => ⟨b, p1, p2, fun hb => by
            obtain ⟨F2, pv2, s1, s2, s3⟩ := p3 hb
            refine ⟨F2, pv2, s1, fun q hq => s3 q (q2 q hq), fun j hj hjk => ?_⟩
            rcases (show j < k ∨ j = k by omega) with e2 | e2
            · exact s3 _ (q3 j hj e2)
            · subst e2; exact s2⟩)
      have HPop : Hid (∀ W, (∃ F' pv', CS gz oz b1 b2 b3 b4 b5 M ML nf U (P ++ [tl x]) F' pv' w W ∧ (∀ q ∈ F, q ∈ F') ∧ ∀ j (hj : j < (nf (tl x)).length), j < (nf (tl x)).length → tl (nf (tl x))[j] ∈ F') → ∃ G2 C2 w', P.length + 1 ≤ C2 ∧ W.cell? ⟨b1, 0, none⟩ = some (.slice (some ⟨G2, 0, none⟩) (P.length + 1) C2) ∧ W.frozen? ⟨b1, 0, none⟩ = false ∧ (W.setCell ⟨b1, 0, none⟩ (.slice (some ⟨G2, 0, none⟩) P.length C2)).cell? ⟨b3, 0, none⟩ = some (.map (some ML)) ∧ (Instr.mapUpdate 86 (.map (some ML)) (.string x) (.agg #[])).run Tryz.prog (W.setCell ⟨b1, 0, none⟩ (.slice (some ⟨G2, 0, none⟩) P.length C2)) = .ok () w' ∧ Hid (CkP gz oz b1 b2 b3 b4 b5 M ML nf U P F x w (.returned (.bool false)) w')) := fun W ⟨F', pv', q1, q2, q3⟩ => by
        have hl1 : (P ++ [tl x]).length = P.length + 1 := by simp
        have hr := q1.row
        rw [hl1] at hr
        obtain ⟨G2, C2, e, _, _⟩ := hr.form (by omega)
        have hC : P.length + 1 ≤ C2 := by
          rcases hr.2 with ⟨e3, _⟩ | ⟨g2, c2, cur, e3, _, _, hc, _⟩
          · rw [e] at e3; cases e3
          · rw [e] at e3
            injection e3 with _ _ e3
            omega
        subst e
        obtain ⟨w', s1, s2⟩ := q1.pop hU hxs fun y hy => by
          obtain ⟨z, hz, rfl⟩ := List.mem_map.1 hy
          obtain ⟨j, hj, rfl⟩ := List.mem_iff_getElem.1 hz
          exact q3 j hj hj
        refine ⟨G2, C2, w', hC, cell0 q1.c1, Lib.frozen_of_heap q1.c1 0, ?_, s1, false, rfl, fun e => (by cases e), fun _ => ⟨tl x :: F', _, s2, List.mem_cons_self, fun k hk => List.mem_cons_of_mem _ (q2 k hk)⟩⟩
        exact (World.cell?_of_block (a := ⟨b3, 0, none⟩) (set_ne q1.n13.symm)).trans (cell0 q1.c3)
      have HYes : Hid (∀ W, FnP b2 nf U w W → CkP gz oz b1 b2 b3 b4 b5 M ML nf U P F x w (.returned (.bool true)) W) := fun W hW => ⟨true, rfl, fun _ => hW, fun e => by cases e⟩
      have hpl : (P.length : Int) ≤ 60 := by omega
      subst hWa hWp
      rw [World.size_alloc] at r1
      clear hT hU hcl hsz hx hlk ih h hin hxs hlen hF hA hbA hTx hP
      generalize lf (tl x) = lv at *
      generalize P.length = pl at *
      unfold pt at HCn
      unfold pt
      unfold pt at c5P
      go_enter Tryz.func55, Tryz.ntmps55
      go_wp2_with fail
      refine HIx.mono ?_
      rintro e w1 ⟨r, rfl, hr, rfl⟩
      obtain rfl := HIn.out r hr
      clear HIn hr HIx
      go_wp2_with fail
      refine HCn.mono ?_
      rintro e w6 ⟨b, rfl, hb1, hb2⟩
      clear HCn
      cases b with
      | true =>
        have HE : Hid (CkP gz oz b1 b2 b3 b4 b5 M ML nf U P F x w (.returned (.bool true)) w6) := HYes.out w6 (hb1 rfl)
        clear HYes HPop hb1 hb2 r1 r2 r3 c1A c4P c5P hlk2 hlo c3 c1
        go_wp2
        go_ret
        exact HE.out
      | false =>
        obtain ⟨G2, C2, w7, hC, k1, k2, k3, k4, HE⟩ := HPop.out w6 (hb2 rfl)
        obtain ⟨q, hq⟩ : ∃ q, q = pl + 1 := ⟨_, rfl⟩
        have hq1 : (q : Int) - 1 = (pl : Int) := by omega
        have hq2 : pl ≤ C2 := by omega
        have hq3 : (pl : Int) ≤ (C2 : Int) := by omega
        have hqi : (q : Int) ≤ 61 := by omega
        rw [← hq] at k1
        clear HYes HPop hb1 hb2 r1 r2 r3 c1A c4P c5P hlk2 hlo c3 c1 hq hC
        go_wp2
        go_ret
        exact HE.out
theorem cwalk_any (gz : Nat) (oz : Obj) (b1 b2 b3 b4 b5 M ML N : Nat) (D : DataW Unit) (nf : List UInt8 → List ByteArray) (lf : List UInt8 → Value) (U : List (List UInt8)) (w : World) (hT : LT M N D nf lf w) (hU : U.length ≤ 60) (hcl : ∀ k ∈ U, ∀ y ∈ nf k, tl y ∈ U) (hsz : ∀ k ∈ U, k.length ≤ maxLen) : ∀ (m : Nat) (P F : List (List UInt8)) (pv : Value) (x : ByteArray) (wr : World), U.length < m + (P.length + F.length) → CS gz oz b1 b2 b3 b4 b5 M ML nf U P F pv w wr → tl x ∈ U → (P ≠ [] → ∃ (hp : 0 < P.length), tl x ∈ ndT nf P[P.length - 1]) →
    Calls Tryz.prog 55 #[.string x, pt b1, pt b2, pt b3, pt b4, pt b5] wr (CkP gz oz b1 b2 b3 b4 b5 M ML nf U P F x w)
  | 0, P, F, pv, x, wr, hm, h, _, _ => by have := h.ci.len; omega
  | m + 1, P, F, pv, x, wr, hm, h, hx, hlk => ckstep gz oz b1 b2 b3 b4 b5 M ML N D nf lf U w hT hU hcl hsz P F pv x wr h hx hlk fun P2 F2 pv2 y W hl hC hy hlk2 => cwalk_any gz oz b1 b2 b3 b4 b5 M ML N D nf lf U w hT hU hcl hsz m P2 F2 pv2 y W (by omega) hC hy hlk2
end Go.Proofs.YtankaiopdbcndaaGreatDoor
