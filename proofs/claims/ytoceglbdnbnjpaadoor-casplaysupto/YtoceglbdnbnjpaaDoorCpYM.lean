/- Missing of some texts' digests: both tell the same. -/
import Derived.Test.YtoceglbdnbnjpaaDoorCpXM
namespace Go.Proofs.YtoceglbdnbnjpaaDoor
open Go.RowKit Go.Shelf Go.Sort

/-- What is asked for. -/
def askL (odd : Bool) (ss : List ByteArray) : List ByteArray := ss.mapIdx fun i s => if odd = true ∧ i = 1 then s else smB s
theorem askL_len (odd : Bool) (ss : List ByteArray) : (askL odd ss).length = ss.length := by unfold askL; simp
theorem askL_get (odd : Bool) (ss : List ByteArray) (k : Nat) (hk : k < ss.length) : (askL odd ss)[k]'(by rw [askL_len]; exact hk) = if odd = true ∧ k = 1 then ss[k] else smB ss[k] := by unfold askL; simp
/-- What is told. -/
def misD (E : List Ent) (xs : List ByteArray) : List ByteArray := xs.filter fun d => digOk d && decide (∀ e ∈ E, e.dg ≠ d)
theorem misD_len (E : List Ent) (xs : List ByteArray) : (misD E xs).length ≤ xs.length := List.length_filter_le _ _
theorem misD_snoc (E : List Ent) (xs : List ByteArray) (x : ByteArray) : misD E (xs ++ [x]) = misD E xs ++ (if digOk x = true ∧ ∀ e ∈ E, e.dg ≠ x then [x] else []) := by
  unfold misD
  rw [List.filter_append]
  congr 1
  by_cases h : digOk x = true ∧ ∀ e ∈ E, e.dg ≠ x
  · rw [if_pos h, List.filter_cons_of_pos (by simpa using h), List.filter_nil]
  · rw [if_neg h, List.filter_cons_of_neg (by simpa using h), List.filter_nil]
theorem misD_all {E : List Ent} {xs : List ByteArray} (h : allD xs = true) : misD E xs = misL E xs := by
  unfold misD misL
  refine List.filter_congr fun x hx => ?_
  rw [List.all_eq_true.1 h x hx, Bool.true_and]
def errD (xs : List ByteArray) : Int := if allD xs = true then 0 else 1
theorem errD_snoc (xs : List ByteArray) (x : ByteArray) : errD (xs ++ [x]) = if digOk x = true then errD xs else 1 := by
  unfold errD allD
  rw [List.all_append]
  cases h : digOk x <;> simp [h]
def prs (E : List Ent) : List Kt := E.map fun e => (e.tx, e.pins)
theorem kat_neg {E : List Ent} (hdg : ∀ e ∈ E, e.dg = smB e.tx) (d : ByteArray) (h : ∀ e ∈ E, e.dg ≠ d) : kat (prs E) d = none := by
  refine List.findIdx?_eq_none_iff.2 fun x hx => ?_
  obtain ⟨e, he, rfl⟩ := List.mem_map.1 hx
  have := h e he
  rw [hdg e he] at this
  simp [this]
theorem kat_pos {E : List Ent} (hdg : ∀ e ∈ E, e.dg = smB e.tx) (d : ByteArray) (h : ¬ ∀ e ∈ E, e.dg ≠ d) : ∃ i, i < E.length ∧ kat (prs E) d = some i ∧ ∃ hi : i < E.length, (E[i]).dg = d := by
  cases hk : kat (prs E) d with
  | none =>
    exfalso
    refine h fun e he q => ?_
    have := List.findIdx?_eq_none_iff.1 hk (e.tx, e.pins) (List.mem_map.2 ⟨e, he, rfl⟩)
    rw [hdg e he] at q
    simp [q] at this
  | some i =>
    obtain ⟨h1, h2, _⟩ := List.findIdx?_eq_some_iff_getElem.1 hk
    have h3 : i < E.length := by simpa [prs] using h1
    refine ⟨i, h3, rfl, h3, ?_⟩
    have h4 : smB (E[i]).tx = d := by simpa [prs] using h2
    rw [hdg _ (List.getElem_mem h3)]
    exact h4

section
variable {B P M rm tn B' R : Nat} {r : Int} {tv pv : Value} {E : List Ent} {I : List Nat} {w : World} {v : Value} {ss : List ByteArray}
set_option maxHeartbeats 8000000 in
set_option maxRecDepth 100000 in
theorem missing_any (hS : CS B P M rm tn E I w) (hK : KD B' R r tv pv (prs E) w) (hdg : ∀ e ∈ E, e.dg = smB e.tx) (hdo : ∀ e ∈ E, digOk e.dg = true) (hsz : ∀ e ∈ E, e.tx.size ≤ 100000) (hn : E.length ≤ 1000) (h : Tx w v ss) (hl : ss.length ≤ 1048576) (hs : ∀ s ∈ ss, s.size ≤ 1048576) (kd : Int) (tx : ByteArray) (odd : Bool) :
    Calls Tryd.prog 22 #[kp P, .pointer (some ⟨R, 0, none⟩), .agg #[.int .i64 kd, .string tx, v, .bool odd]] w fun e w' => e = .returned (.bool true) ∧ Below w.heap.size w w' := by
  have HAt : Hid (∀ k, k < ss.length → ∃ g o cap, v = .slice (some ⟨g, o, none⟩) ss.length cap ∧ ∀ Y, Below w.heap.size w Y → ∀ hk : k < ss.length, Y.cell? ⟨g, o + k, none⟩ = some (.string ss[k])) := fun k hk => by
    rcases h.2 with ⟨rfl, _⟩ | ⟨h0, g, o, cap, rfl, hcap, hrow⟩
    · simp at hk
    · exact ⟨g, o, cap, rfl, fun Y hY hk => (hrow.up hY (World.block_lt_of_cell? w ⟨g, o + 0, none⟩ (hrow 0 h0))) k hk⟩
  obtain ⟨av, cv, hv⟩ := h.shape
  subst hv
  obtain ⟨A, hA⟩ : ∃ A, A = askL odd ss := ⟨_, rfl⟩
  have hAl : A.length = ss.length := by rw [hA, askL_len]
  have HA : Hid (∀ k (hk : k < ss.length), A[k]'(by rw [hAl]; exact hk) = if odd = true ∧ k = 1 then ss[k] else smB ss[k]) := fun k hk => by
    subst hA
    exact askL_get odd ss k hk
  have HTk : Hid (∀ k (hk : k < ss.length), A.take (k + 1) = A.take k ++ [A[k]'(by rw [hAl]; exact hk)]) := fun k hk => List.take_succ_eq_append_getElem (by rw [hAl]; exact hk)
  have HAL : Hid (A.length = ss.length) := hAl
  obtain ⟨W0, hW0⟩ : ∃ W0, W0 = w.alloc (.cells #[.int .i64 kd, .string tx, .slice av ss.length cv, .bool odd] 36) := ⟨_, rfl⟩
  have HB0 : Hid (Below w.heap.size w W0) := by rw [hW0]; exact (Below.refl _ w).alloc (Nat.le_refl _) _
  have hbx : W0.heap[w.heap.size]? = some (.cells #[.int .i64 kd, .string tx, .slice av ss.length cv, .bool odd] 36 (0, 0)) := by rw [hW0]; exact heap_alloc_new w _
  have hbl : w.heap.size < W0.heap.size := (Array.getElem?_eq_some_iff.1 hbx).1
  have HBx : Hid (∀ Y, Below W0.heap.size W0 Y → Y.cell? ⟨w.heap.size, 2, none⟩ = some (.slice av ss.length cv) ∧ Y.cell? ⟨w.heap.size, 3, none⟩ = some (.bool odd)) := fun Y hY =>
    ⟨(hY.cell (p := ⟨w.heap.size, 2, none⟩) hbl).trans (Lib.cell_of_heap hbx 2), (hY.cell (p := ⟨w.heap.size, 3, none⟩) hbl).trans (Lib.cell_of_heap hbx 3)⟩
  have HSm : Hid (∀ Y k (hk : k < ss.length), Calls Tryd.prog 11 #[.string ss[k]] Y fun e w' => e = .returned (.string (smB ss[k])) ∧ Below Y.heap.size Y w') := fun Y k hk => RSm_any _ Y (by have := hs _ (List.getElem_mem hk); omega)
  have HDg : Hid (∀ Y d, d.size ≤ 1048576 → Calls Tryd.prog 12 #[.string d] Y fun e w' => e = .returned (.bool (digOk d)) ∧ w' = Y) := fun Y d hd => RIsDigest_any d Y (by unfold maxLen; omega)
  have HKa : Hid (∀ Y d, Below W0.heap.size W0 Y → Calls Tryd.prog 13 #[.pointer (some ⟨R, 0, none⟩), .string d] Y fun e w' => (∃ i : Int, e = .returned (.int .i64 i) ∧ (i < 0 ∧ (∀ e ∈ E, e.dg ≠ d) ∨ 0 ≤ i ∧ ¬ (∀ e ∈ E, e.dg ≠ d))) ∧ Below Y.heap.size Y w') := fun Y d hY =>
    (KAt_any (hK.up (bl_tr HB0.out hY)) (by simp [prs]; omega) (fun x hx => by
      obtain ⟨e, he, rfl⟩ := List.mem_map.1 hx
      have := hsz e he
      show e.tx.size ≤ _
      omega) d).mono fun e w' ⟨q1, q2⟩ => ⟨⟨_, q1, by
        by_cases q : ∀ e ∈ E, e.dg ≠ d
        · left
          refine ⟨?_, q⟩
          unfold katI
          rw [kat_neg hdg d q]
          show (-1 : Int) < 0
          decide
        · right
          refine ⟨?_, q⟩
          obtain ⟨i, _, hi, _⟩ := kat_pos hdg d q
          unfold katI
          rw [hi]
          show (0 : Int) ≤ (i : Int)
          omega⟩, q2⟩
  have HSz : Hid (∀ k (hk : k < ss.length), (A[k]'(by rw [hAl]; exact hk)).size ≤ 1048576) := fun k hk => by
    rw [HA.out k hk]
    split
    · exact hs _ (List.getElem_mem hk)
    · rw [sm_size]
      decide
  have HCS : Hid (∀ Y, Below W0.heap.size W0 Y → CS B P M rm tn E I Y) := fun Y hY => hS.up (bl_tr HB0.out hY)
  have HDO : Hid (∀ e ∈ E, digOk e.dg = true) := hdo
  have HWB : Hid (∀ Y, Below W0.heap.size W0 Y → Below w.heap.size w Y) := fun Y hY => bl_tr HB0.out hY
  have hli : (ss.length : Int) ≤ 1048576 := by omega
  have HAD : Hid (w.heap.size ≤ W0.heap.size) := HB0.out.size
  obtain ⟨bx, ebx⟩ : ∃ bx, bx = w.heap.size := ⟨_, rfl⟩
  have HWW : Hid (w.alloc (.cells #[.int .i64 kd, .string tx, .slice av ss.length cv, .bool odd] 36) = W0) := hW0.symm
  obtain ⟨i0, hi0, hz0, hz1, hz2⟩ := inf_parts infS1
  clear hS hK hdg hdo hsz hn h hl hs hA hbx hbl hW0 HB0
  go_enter Tryd.func22, Tryd.ntmps22
  go_wp2
  rw [HWW.out]
  clear HWW
  go_loopw [7, 8, 9, 10] (fun ua uw c i wr => ∃ k : Nat, k ≤ ss.length ∧ i = .int .i64 (k : Int) ∧ Hid (wr.ownsRow W0.heap.size 9 1 ua (A.take k).length (scs (A.take k))) ∧ Hid (wr.ownsRow W0.heap.size 9 1 uw (misD E (A.take k)).length (scs (misD E (A.take k)))) ∧ c = .int .i64 (errD (A.take k)) ∧ Hid (Below W0.heap.size W0 wr) ∧ Hid (∀ b, ua.ownBlock = some b → uw.ownBlock ≠ some b)) (fun _ _ _ i _ => ss.length - (RowKit.intOf i).toNat)
  case atStart => exact ⟨0, Nat.zero_le _, rfl, World.ownsRow_nil _ _ _ _, World.ownsRow_nil _ _ _ _, rfl, Below.refl _ _, fun b hb => (by simp [Value.ownBlock] at hb)⟩
  case round =>
    obtain ⟨k, hk, rfl, HO1, HO2, rfl, HB, HNE⟩ := hrel
    obtain ⟨c2, c3⟩ := HBx.out _ HB.out
    obtain ⟨aa, ca, hv⟩ := row_shape HO1.out
    subst hv
    obtain ⟨aw, cw, hv⟩ := row_shape HO2.out
    subst hv
    by_cases hlt : k < ss.length
    · have hki : (k : Int) < (ss.length : Int) := by omega
      obtain ⟨g, o, cap, hv, hcell⟩ := HAt.out k hlt
      cases hv
      obtain ⟨k1, hk1⟩ : ∃ k1, k1 = k + 1 := ⟨_, rfl⟩
      have ek1 : (k : Int) + 1 = (k1 : Int) := by omega
      have ek2 : IntKind.i64.wrap (k1 : Int) = (k1 : Int) := by rw [IntKind.wrap_i64]; omega
      have HK1 : Hid (k1 ≤ ss.length ∧ ss.length - k1 < ss.length - k) := ⟨by omega, by omega⟩
      have HLn0 : Hid ((A.take k).length ≤ 1048576 ∧ (misD E (A.take k)).length ≤ 1048576) := by
        have h1 : (A.take k).length ≤ 1048576 := by rw [List.length_take]; omega
        exact ⟨h1, Nat.le_trans (misD_len _ _) h1⟩
      have hAk := HA.out k hlt
      have HX1 := HTk.out k hlt
      have HSx := HSz.out k hlt
      rw [hAk] at HX1 HSx
      rw [← hk1] at HX1
      have HSmk := HSm.out wr k hlt
      have HSk : Hid (Calls Tryd.prog 11 #[.string ss[k]] wr fun e w' => e = .returned (.string (smB ss[k])) ∧ Below wr.heap.size wr w') := HSmk
      have HCl : Hid (∀ Y, Below W0.heap.size W0 Y → Y.cell? ⟨g, o + k, none⟩ = some (.string ss[k])) := fun Y hY => hcell Y (HWB.out Y hY) hlt
      have cc := HCl.out _ HB.out
      clear hAk HSmk hcell hk1
      generalize smB ss[k] = y at HX1 HSx HSk
      generalize ss[k] = z at HX1 HSx HSk HCl cc
      go_wp2_with fail
      refine HSk.out.mono ?_
      rintro e w1 ⟨rfl, hb1⟩
      have B1 : Hid (Below W0.heap.size W0 w1) := bl_tr HB.out hb1
      have HO1w : Hid (w1.ownsRow W0.heap.size 9 1 (.slice aa (A.take k).length ca) (A.take k).length (scs (A.take k))) := own_below HO1.out hb1
      have HO2w : Hid (w1.ownsRow W0.heap.size 9 1 (.slice aw (misD E (A.take k)).length cw) (misD E (A.take k)).length (scs (misD E (A.take k)))) := own_below HO2.out hb1
      clear hb1 c2 c3 cc HO1 HO2 HSk
      obtain ⟨c2, c3⟩ := HBx.out _ B1.out
      have cc := HCl.out _ B1.out
      by_cases hodd : odd = true
      · subst hodd
        by_cases hk9 : k = 1
        · have hkq : ((k : Int) == 1) = true := by rw [beq_iff_eq]; omega
          rw [if_pos ⟨rfl, hk9⟩] at HX1 HSx
          clear hk9
          have HSx : Hid (z.size ≤ 1048576) := HSx
          have HX1 : Hid (A.take k1 = A.take k ++ [z]) := HX1
          have HX2 : Hid (misD E (A.take k1) = misD E (A.take k) ++ (if digOk z = true ∧ ∀ e ∈ E, e.dg ≠ z then [z] else [])) := by unfold Hid; rw [HX1.out, misD_snoc]
          have HX3 : Hid (errD (A.take k1) = if digOk z = true then errD (A.take k) else 1) := by unfold Hid; rw [HX1.out, errD_snoc]
          have HLn : Hid ((A.take k).length ≤ 1048576 ∧ (misD E (A.take k)).length ≤ 1048576) := HLn0
          generalize hT1 : A.take k = T at HO1w HO2w HX1 HX2 HX3 HLn HNE
          clear hT1
          generalize hT2 : misD E T = D at HO2w HX2 HLn HNE
          clear hT2
          generalize hT3 : errD T = er at HX3 ⊢
          clear hT3
          go_wp2_with (at_builtin; refine wpList_append_lies _ rfl _ _ 30 rfl W0.heap.size 9 i0 (.string ⟨#[]⟩) 1 16 Tryd.underlying30 hi0 hz0 hz1 hz2 rfl (by decide) _ T.length (scs T) rfl (HO1w.out.alloc _) ⟨_, 0, none⟩ 1 1 [.string z] rfl rfl ?c1 ?c2 (by decide) ?c3 ?c4 ?c5 (w1.heap.size + 1) ?c6 ?_)
          case c1 => exact new_one w1 z
          case c2 => intro u hu; simp at hu; subst hu; rfl
          case c3 => unfold maxLen; have := HLn.out; omega
          case c4 => have := HLn.out; omega
          case c5 => rw [World.size_alloc]; have := B1.out.size; omega
          case c6 => rw [World.size_alloc]
          intro g1 c1 w2 hown hgrow hat hlt1
          have HR : Hid (w2.ownsRow W0.heap.size 9 1 (.slice (some ⟨g1, 0, none⟩) (T.length + 1) c1) (A.take k1).length (scs (A.take k1)) ∧ w2.ownsRow W0.heap.size 9 1 (.slice aw D.length cw) D.length (scs D) ∧ Below W0.heap.size W0 w2 ∧ (Value.slice aw D.length cw).ownBlock ≠ some g1) := by
            refine ⟨?_, own_grown (HO2w.out.alloc _) hgrow (fun b hb he => HNE.out b he hb), (bl_al B1.out _).grown hgrow (bl_al B1.out _).size (fun j hj => (HO1w.out.lt j hj).1), ?_⟩
            · rw [HX1.out, scs_snoc, List.length_append]
              exact hown
            · intro he
              rcases hat with h1 | h1
              · exact HNE.out g1 h1 he
              · have := (HO2w.out.lt g1 he).2
                omega
          clear hown hgrow hat hlt1
          have HD := HDg.out w2 z HSx.out
          cases hd : digOk z with
          | false =>
            rw [hd] at HD
            have HD2 : Hid (Calls Tryd.prog 12 #[.string z] w2 fun e w' => e = .returned (.bool false) ∧ w' = w2) := HD
            have HX2' : Hid (misD E (A.take k1) = D) := by
              unfold Hid
              rw [HX2.out, if_neg (by simp [hd]), List.append_nil]
            have HX3' : Hid (errD (A.take k1) = 1) := by
              unfold Hid
              rw [HX3.out, if_neg (by simp [hd])]
            clear hd HD
            go_wp2_with fail
            refine HD2.out.mono ?_
            rintro e w3 ⟨rfl, rfl⟩
            go_wp2
            exact ⟨⟨k1, HK1.out.1, rfl, HR.out.1, by rw [HX2'.out]; exact HR.out.2.1, by rw [HX3'.out], HR.out.2.2.1, fun b hb hb2 => HR.out.2.2.2 (by rw [hb2, ← hb]; rfl)⟩, HK1.out.2⟩
          | true =>
            rw [hd] at HD
            have HD2 : Hid (Calls Tryd.prog 12 #[.string z] w2 fun e w' => e = .returned (.bool true) ∧ w' = w2) := HD
            have HX3' : Hid (errD (A.take k1) = er) := by
              unfold Hid
              rw [HX3.out, if_pos hd]
            have HX2' : Hid (misD E (A.take k1) = D ++ (if ∀ e ∈ E, e.dg ≠ z then [z] else [])) := by
              unfold Hid
              rw [HX2.out, hd]
              simp
            have HKx2 : Hid (Calls Tryd.prog 13 #[.pointer (some ⟨R, 0, none⟩), .string z] w2 fun e w' => (∃ i : Int, e = .returned (.int .i64 i) ∧ (i < 0 ∧ (∀ e ∈ E, e.dg ≠ z) ∨ 0 ≤ i ∧ ¬ (∀ e ∈ E, e.dg ≠ z))) ∧ Below w2.heap.size w2 w') := HKa.out w2 z HR.out.2.2.1
            clear hd HD
            go_wp2_with fail
            refine HD2.out.mono ?_
            rintro e w3 ⟨rfl, rfl⟩
            go_wp2_with fail
            refine HKx2.out.mono ?_
            rintro e w4 ⟨⟨i, rfl, hcase⟩, hb4⟩
            have HR4 : Hid (w4.ownsRow W0.heap.size 9 1 (.slice (some ⟨g1, 0, none⟩) (T.length + 1) c1) (A.take k1).length (scs (A.take k1)) ∧ w4.ownsRow W0.heap.size 9 1 (.slice aw D.length cw) D.length (scs D) ∧ Below W0.heap.size W0 w4) := ⟨own_below HR.out.1 hb4, own_below HR.out.2.1 hb4, bl_tr HR.out.2.2.1 hb4⟩
            clear hb4
            rcases hcase with ⟨hi9, hn9⟩ | ⟨hi9, hn9⟩
            · have HX4 : Hid (misD E (A.take k1) = D ++ [z]) := by
                unfold Hid
                rw [HX2'.out, if_pos hn9]
              clear hn9
              go_wp2_with (at_builtin; refine wpList_append_lies _ rfl _ _ 30 rfl W0.heap.size 9 i0 (.string ⟨#[]⟩) 1 16 Tryd.underlying30 hi0 hz0 hz1 hz2 rfl (by decide) _ D.length (scs D) rfl (HR4.out.2.1.alloc _) ⟨_, 0, none⟩ 1 1 [.string z] rfl rfl ?c1 ?c2 (by decide) ?c3 ?c4 ?c5 (w4.heap.size + 1) ?c6 ?_)
              case c1 => exact new_one w4 z
              case c2 => intro u hu; simp at hu; subst hu; rfl
              case c3 => unfold maxLen; have := HLn.out; omega
              case c4 => have := HLn.out; omega
              case c5 => rw [World.size_alloc]; have := HR4.out.2.2.size; omega
              case c6 => rw [World.size_alloc]
              intro g2 c2 w5 hown hgrow hat hlt1
              have HR5 : Hid (w5.ownsRow W0.heap.size 9 1 (.slice (some ⟨g1, 0, none⟩) (T.length + 1) c1) (A.take k1).length (scs (A.take k1)) ∧ w5.ownsRow W0.heap.size 9 1 (.slice (some ⟨g2, 0, none⟩) (D.length + 1) c2) (misD E (A.take k1)).length (scs (misD E (A.take k1))) ∧ Below W0.heap.size W0 w5 ∧ g1 ≠ g2) := by
                refine ⟨own_grown (HR4.out.1.alloc _) hgrow (fun b hb he => HR.out.2.2.2 ?_), ?_, (bl_al HR4.out.2.2 _).grown hgrow (bl_al HR4.out.2.2 _).size (fun j hj => (HR4.out.2.1.lt j hj).1), ?_⟩
                · have : b = g1 := by simp [Value.ownBlock] at hb; omega
                  rw [← this]
                  exact he
                · rw [HX4.out, scs_snoc, List.length_append]
                  exact hown
                · intro he
                  rcases hat with h1 | h1
                  · exact HR.out.2.2.2 (by rw [he]; exact h1)
                  · have := (HR4.out.1.lt g1 rfl).2
                    omega
              clear hown hgrow hat hlt1
              go_wp2
              exact ⟨⟨k1, HK1.out.1, rfl, HR5.out.1, HR5.out.2.1, by rw [HX3'.out], HR5.out.2.2.1, fun b hb hb2 => HR5.out.2.2.2 (by simp [Value.ownBlock] at hb hb2; omega)⟩, HK1.out.2⟩
            · have HX4 : Hid (misD E (A.take k1) = D) := by
                unfold Hid
                rw [HX2'.out, if_neg hn9, List.append_nil]
              have hi8 : ¬ i < 0 := by omega
              clear hn9
              go_wp2
              exact ⟨⟨k1, HK1.out.1, rfl, HR4.out.1, by rw [HX4.out]; exact HR4.out.2.1, by rw [HX3'.out], HR4.out.2.2, fun b hb hb2 => HR.out.2.2.2 (by rw [hb2, ← hb]; rfl)⟩, HK1.out.2⟩
        · have hkq : ¬ (k : Int) = 1 := by omega
          rw [if_neg (fun q => hk9 q.2)] at HX1 HSx
          have HSx : Hid (y.size ≤ 1048576) := HSx
          have HX1 : Hid (A.take k1 = A.take k ++ [y]) := HX1
          have HX2 : Hid (misD E (A.take k1) = misD E (A.take k) ++ (if digOk y = true ∧ ∀ e ∈ E, e.dg ≠ y then [y] else [])) := by unfold Hid; rw [HX1.out, misD_snoc]
          have HX3 : Hid (errD (A.take k1) = if digOk y = true then errD (A.take k) else 1) := by unfold Hid; rw [HX1.out, errD_snoc]
          have HLn : Hid ((A.take k).length ≤ 1048576 ∧ (misD E (A.take k)).length ≤ 1048576) := HLn0
          generalize hT1 : A.take k = T at HO1w HO2w HX1 HX2 HX3 HLn HNE
          clear hT1
          generalize hT2 : misD E T = D at HO2w HX2 HLn HNE
          clear hT2
          generalize hT3 : errD T = er at HX3 ⊢
          clear hT3
          go_wp2_with (at_builtin; refine wpList_append_lies _ rfl _ _ 30 rfl W0.heap.size 9 i0 (.string ⟨#[]⟩) 1 16 Tryd.underlying30 hi0 hz0 hz1 hz2 rfl (by decide) _ T.length (scs T) rfl (HO1w.out.alloc _) ⟨_, 0, none⟩ 1 1 [.string y] rfl rfl ?c1 ?c2 (by decide) ?c3 ?c4 ?c5 (w1.heap.size + 1) ?c6 ?_)
          case c1 => exact new_one w1 y
          case c2 => intro u hu; simp at hu; subst hu; rfl
          case c3 => unfold maxLen; have := HLn.out; omega
          case c4 => have := HLn.out; omega
          case c5 => rw [World.size_alloc]; have := B1.out.size; omega
          case c6 => rw [World.size_alloc]
          intro g1 c1 w2 hown hgrow hat hlt1
          have HR : Hid (w2.ownsRow W0.heap.size 9 1 (.slice (some ⟨g1, 0, none⟩) (T.length + 1) c1) (A.take k1).length (scs (A.take k1)) ∧ w2.ownsRow W0.heap.size 9 1 (.slice aw D.length cw) D.length (scs D) ∧ Below W0.heap.size W0 w2 ∧ (Value.slice aw D.length cw).ownBlock ≠ some g1) := by
            refine ⟨?_, own_grown (HO2w.out.alloc _) hgrow (fun b hb he => HNE.out b he hb), (bl_al B1.out _).grown hgrow (bl_al B1.out _).size (fun j hj => (HO1w.out.lt j hj).1), ?_⟩
            · rw [HX1.out, scs_snoc, List.length_append]
              exact hown
            · intro he
              rcases hat with h1 | h1
              · exact HNE.out g1 h1 he
              · have := (HO2w.out.lt g1 he).2
                omega
          clear hown hgrow hat hlt1
          have HD := HDg.out w2 y HSx.out
          cases hd : digOk y with
          | false =>
            rw [hd] at HD
            have HD2 : Hid (Calls Tryd.prog 12 #[.string y] w2 fun e w' => e = .returned (.bool false) ∧ w' = w2) := HD
            have HX2' : Hid (misD E (A.take k1) = D) := by
              unfold Hid
              rw [HX2.out, if_neg (by simp [hd]), List.append_nil]
            have HX3' : Hid (errD (A.take k1) = 1) := by
              unfold Hid
              rw [HX3.out, if_neg (by simp [hd])]
            clear hd HD
            go_wp2_with fail
            refine HD2.out.mono ?_
            rintro e w3 ⟨rfl, rfl⟩
            go_wp2
            exact ⟨⟨k1, HK1.out.1, rfl, HR.out.1, by rw [HX2'.out]; exact HR.out.2.1, by rw [HX3'.out], HR.out.2.2.1, fun b hb hb2 => HR.out.2.2.2 (by rw [hb2, ← hb]; rfl)⟩, HK1.out.2⟩
          | true =>
            rw [hd] at HD
            have HD2 : Hid (Calls Tryd.prog 12 #[.string y] w2 fun e w' => e = .returned (.bool true) ∧ w' = w2) := HD
            have HX3' : Hid (errD (A.take k1) = er) := by
              unfold Hid
              rw [HX3.out, if_pos hd]
            have HX2' : Hid (misD E (A.take k1) = D ++ (if ∀ e ∈ E, e.dg ≠ y then [y] else [])) := by
              unfold Hid
              rw [HX2.out, hd]
              simp
            have HKx2 : Hid (Calls Tryd.prog 13 #[.pointer (some ⟨R, 0, none⟩), .string y] w2 fun e w' => (∃ i : Int, e = .returned (.int .i64 i) ∧ (i < 0 ∧ (∀ e ∈ E, e.dg ≠ y) ∨ 0 ≤ i ∧ ¬ (∀ e ∈ E, e.dg ≠ y))) ∧ Below w2.heap.size w2 w') := HKa.out w2 y HR.out.2.2.1
            clear hd HD
            go_wp2_with fail
            refine HD2.out.mono ?_
            rintro e w3 ⟨rfl, rfl⟩
            go_wp2_with fail
            refine HKx2.out.mono ?_
            rintro e w4 ⟨⟨i, rfl, hcase⟩, hb4⟩
            have HR4 : Hid (w4.ownsRow W0.heap.size 9 1 (.slice (some ⟨g1, 0, none⟩) (T.length + 1) c1) (A.take k1).length (scs (A.take k1)) ∧ w4.ownsRow W0.heap.size 9 1 (.slice aw D.length cw) D.length (scs D) ∧ Below W0.heap.size W0 w4) := ⟨own_below HR.out.1 hb4, own_below HR.out.2.1 hb4, bl_tr HR.out.2.2.1 hb4⟩
            clear hb4
            rcases hcase with ⟨hi9, hn9⟩ | ⟨hi9, hn9⟩
            · have HX4 : Hid (misD E (A.take k1) = D ++ [y]) := by
                unfold Hid
                rw [HX2'.out, if_pos hn9]
              clear hn9
              go_wp2_with (at_builtin; refine wpList_append_lies _ rfl _ _ 30 rfl W0.heap.size 9 i0 (.string ⟨#[]⟩) 1 16 Tryd.underlying30 hi0 hz0 hz1 hz2 rfl (by decide) _ D.length (scs D) rfl (HR4.out.2.1.alloc _) ⟨_, 0, none⟩ 1 1 [.string y] rfl rfl ?c1 ?c2 (by decide) ?c3 ?c4 ?c5 (w4.heap.size + 1) ?c6 ?_)
              case c1 => exact new_one w4 y
              case c2 => intro u hu; simp at hu; subst hu; rfl
              case c3 => unfold maxLen; have := HLn.out; omega
              case c4 => have := HLn.out; omega
              case c5 => rw [World.size_alloc]; have := HR4.out.2.2.size; omega
              case c6 => rw [World.size_alloc]
              intro g2 c2 w5 hown hgrow hat hlt1
              have HR5 : Hid (w5.ownsRow W0.heap.size 9 1 (.slice (some ⟨g1, 0, none⟩) (T.length + 1) c1) (A.take k1).length (scs (A.take k1)) ∧ w5.ownsRow W0.heap.size 9 1 (.slice (some ⟨g2, 0, none⟩) (D.length + 1) c2) (misD E (A.take k1)).length (scs (misD E (A.take k1))) ∧ Below W0.heap.size W0 w5 ∧ g1 ≠ g2) := by
                refine ⟨own_grown (HR4.out.1.alloc _) hgrow (fun b hb he => HR.out.2.2.2 ?_), ?_, (bl_al HR4.out.2.2 _).grown hgrow (bl_al HR4.out.2.2 _).size (fun j hj => (HR4.out.2.1.lt j hj).1), ?_⟩
                · have : b = g1 := by simp [Value.ownBlock] at hb; omega
                  rw [← this]
                  exact he
                · rw [HX4.out, scs_snoc, List.length_append]
                  exact hown
                · intro he
                  rcases hat with h1 | h1
                  · exact HR.out.2.2.2 (by rw [he]; exact h1)
                  · have := (HR4.out.1.lt g1 rfl).2
                    omega
              clear hown hgrow hat hlt1
              go_wp2
              exact ⟨⟨k1, HK1.out.1, rfl, HR5.out.1, HR5.out.2.1, by rw [HX3'.out], HR5.out.2.2.1, fun b hb hb2 => HR5.out.2.2.2 (by simp [Value.ownBlock] at hb hb2; omega)⟩, HK1.out.2⟩
            · have HX4 : Hid (misD E (A.take k1) = D) := by
                unfold Hid
                rw [HX2'.out, if_neg hn9, List.append_nil]
              have hi8 : ¬ i < 0 := by omega
              clear hn9
              go_wp2
              exact ⟨⟨k1, HK1.out.1, rfl, HR4.out.1, by rw [HX4.out]; exact HR4.out.2.1, by rw [HX3'.out], HR4.out.2.2, fun b hb hb2 => HR.out.2.2.2 (by rw [hb2, ← hb]; rfl)⟩, HK1.out.2⟩
      · have hodf : odd = false := by cases odd <;> simp_all
        subst hodf
        rw [if_neg (fun q => hodd q.1)] at HX1 HSx
        have HSx : Hid (y.size ≤ 1048576) := HSx
        have HX1 : Hid (A.take k1 = A.take k ++ [y]) := HX1
        have HX2 : Hid (misD E (A.take k1) = misD E (A.take k) ++ (if digOk y = true ∧ ∀ e ∈ E, e.dg ≠ y then [y] else [])) := by unfold Hid; rw [HX1.out, misD_snoc]
        have HX3 : Hid (errD (A.take k1) = if digOk y = true then errD (A.take k) else 1) := by unfold Hid; rw [HX1.out, errD_snoc]
        have HLn : Hid ((A.take k).length ≤ 1048576 ∧ (misD E (A.take k)).length ≤ 1048576) := HLn0
        generalize hT1 : A.take k = T at HO1w HO2w HX1 HX2 HX3 HLn HNE
        clear hT1
        generalize hT2 : misD E T = D at HO2w HX2 HLn HNE
        clear hT2
        generalize hT3 : errD T = er at HX3 ⊢
        clear hT3
        go_wp2_with (at_builtin; refine wpList_append_lies _ rfl _ _ 30 rfl W0.heap.size 9 i0 (.string ⟨#[]⟩) 1 16 Tryd.underlying30 hi0 hz0 hz1 hz2 rfl (by decide) _ T.length (scs T) rfl (HO1w.out.alloc _) ⟨_, 0, none⟩ 1 1 [.string y] rfl rfl ?c1 ?c2 (by decide) ?c3 ?c4 ?c5 (w1.heap.size + 1) ?c6 ?_)
        case c1 => exact new_one w1 y
        case c2 => intro u hu; simp at hu; subst hu; rfl
        case c3 => unfold maxLen; have := HLn.out; omega
        case c4 => have := HLn.out; omega
        case c5 => rw [World.size_alloc]; have := B1.out.size; omega
        case c6 => rw [World.size_alloc]
        intro g1 c1 w2 hown hgrow hat hlt1
        have HR : Hid (w2.ownsRow W0.heap.size 9 1 (.slice (some ⟨g1, 0, none⟩) (T.length + 1) c1) (A.take k1).length (scs (A.take k1)) ∧ w2.ownsRow W0.heap.size 9 1 (.slice aw D.length cw) D.length (scs D) ∧ Below W0.heap.size W0 w2 ∧ (Value.slice aw D.length cw).ownBlock ≠ some g1) := by
          refine ⟨?_, own_grown (HO2w.out.alloc _) hgrow (fun b hb he => HNE.out b he hb), (bl_al B1.out _).grown hgrow (bl_al B1.out _).size (fun j hj => (HO1w.out.lt j hj).1), ?_⟩
          · rw [HX1.out, scs_snoc, List.length_append]
            exact hown
          · intro he
            rcases hat with h1 | h1
            · exact HNE.out g1 h1 he
            · have := (HO2w.out.lt g1 he).2
              omega
        clear hown hgrow hat hlt1
        have HD := HDg.out w2 y HSx.out
        cases hd : digOk y with
        | false =>
          rw [hd] at HD
          have HD2 : Hid (Calls Tryd.prog 12 #[.string y] w2 fun e w' => e = .returned (.bool false) ∧ w' = w2) := HD
          have HX2' : Hid (misD E (A.take k1) = D) := by
            unfold Hid
            rw [HX2.out, if_neg (by simp [hd]), List.append_nil]
          have HX3' : Hid (errD (A.take k1) = 1) := by
            unfold Hid
            rw [HX3.out, if_neg (by simp [hd])]
          clear hd HD
          go_wp2_with fail
          refine HD2.out.mono ?_
          rintro e w3 ⟨rfl, rfl⟩
          go_wp2
          exact ⟨⟨k1, HK1.out.1, rfl, HR.out.1, by rw [HX2'.out]; exact HR.out.2.1, by rw [HX3'.out], HR.out.2.2.1, fun b hb hb2 => HR.out.2.2.2 (by rw [hb2, ← hb]; rfl)⟩, HK1.out.2⟩
        | true =>
          rw [hd] at HD
          have HD2 : Hid (Calls Tryd.prog 12 #[.string y] w2 fun e w' => e = .returned (.bool true) ∧ w' = w2) := HD
          have HX3' : Hid (errD (A.take k1) = er) := by
            unfold Hid
            rw [HX3.out, if_pos hd]
          have HX2' : Hid (misD E (A.take k1) = D ++ (if ∀ e ∈ E, e.dg ≠ y then [y] else [])) := by
            unfold Hid
            rw [HX2.out, hd]
            simp
          have HKx2 : Hid (Calls Tryd.prog 13 #[.pointer (some ⟨R, 0, none⟩), .string y] w2 fun e w' => (∃ i : Int, e = .returned (.int .i64 i) ∧ (i < 0 ∧ (∀ e ∈ E, e.dg ≠ y) ∨ 0 ≤ i ∧ ¬ (∀ e ∈ E, e.dg ≠ y))) ∧ Below w2.heap.size w2 w') := HKa.out w2 y HR.out.2.2.1
          clear hd HD
          go_wp2_with fail
          refine HD2.out.mono ?_
          rintro e w3 ⟨rfl, rfl⟩
          go_wp2_with fail
          refine HKx2.out.mono ?_
          rintro e w4 ⟨⟨i, rfl, hcase⟩, hb4⟩
          have HR4 : Hid (w4.ownsRow W0.heap.size 9 1 (.slice (some ⟨g1, 0, none⟩) (T.length + 1) c1) (A.take k1).length (scs (A.take k1)) ∧ w4.ownsRow W0.heap.size 9 1 (.slice aw D.length cw) D.length (scs D) ∧ Below W0.heap.size W0 w4) := ⟨own_below HR.out.1 hb4, own_below HR.out.2.1 hb4, bl_tr HR.out.2.2.1 hb4⟩
          clear hb4
          rcases hcase with ⟨hi9, hn9⟩ | ⟨hi9, hn9⟩
          · have HX4 : Hid (misD E (A.take k1) = D ++ [y]) := by
              unfold Hid
              rw [HX2'.out, if_pos hn9]
            clear hn9
            go_wp2_with (at_builtin; refine wpList_append_lies _ rfl _ _ 30 rfl W0.heap.size 9 i0 (.string ⟨#[]⟩) 1 16 Tryd.underlying30 hi0 hz0 hz1 hz2 rfl (by decide) _ D.length (scs D) rfl (HR4.out.2.1.alloc _) ⟨_, 0, none⟩ 1 1 [.string y] rfl rfl ?c1 ?c2 (by decide) ?c3 ?c4 ?c5 (w4.heap.size + 1) ?c6 ?_)
            case c1 => exact new_one w4 y
            case c2 => intro u hu; simp at hu; subst hu; rfl
            case c3 => unfold maxLen; have := HLn.out; omega
            case c4 => have := HLn.out; omega
            case c5 => rw [World.size_alloc]; have := HR4.out.2.2.size; omega
            case c6 => rw [World.size_alloc]
            intro g2 c2 w5 hown hgrow hat hlt1
            have HR5 : Hid (w5.ownsRow W0.heap.size 9 1 (.slice (some ⟨g1, 0, none⟩) (T.length + 1) c1) (A.take k1).length (scs (A.take k1)) ∧ w5.ownsRow W0.heap.size 9 1 (.slice (some ⟨g2, 0, none⟩) (D.length + 1) c2) (misD E (A.take k1)).length (scs (misD E (A.take k1))) ∧ Below W0.heap.size W0 w5 ∧ g1 ≠ g2) := by
              refine ⟨own_grown (HR4.out.1.alloc _) hgrow (fun b hb he => HR.out.2.2.2 ?_), ?_, (bl_al HR4.out.2.2 _).grown hgrow (bl_al HR4.out.2.2 _).size (fun j hj => (HR4.out.2.1.lt j hj).1), ?_⟩
              · have : b = g1 := by simp [Value.ownBlock] at hb; omega
                rw [← this]
                exact he
              · rw [HX4.out, scs_snoc, List.length_append]
                exact hown
              · intro he
                rcases hat with h1 | h1
                · exact HR.out.2.2.2 (by rw [he]; exact h1)
                · have := (HR4.out.1.lt g1 rfl).2
                  omega
            clear hown hgrow hat hlt1
            go_wp2
            exact ⟨⟨k1, HK1.out.1, rfl, HR5.out.1, HR5.out.2.1, by rw [HX3'.out], HR5.out.2.2.1, fun b hb hb2 => HR5.out.2.2.2 (by simp [Value.ownBlock] at hb hb2; omega)⟩, HK1.out.2⟩
          · have HX4 : Hid (misD E (A.take k1) = D) := by
              unfold Hid
              rw [HX2'.out, if_neg hn9, List.append_nil]
            have hi8 : ¬ i < 0 := by omega
            clear hn9
            go_wp2
            exact ⟨⟨k1, HK1.out.1, rfl, HR4.out.1, by rw [HX4.out]; exact HR4.out.2.1, by rw [HX3'.out], HR4.out.2.2, fun b hb hb2 => HR.out.2.2.2 (by rw [hb2, ← hb]; rfl)⟩, HK1.out.2⟩
    · have hkn : k = ss.length := by omega
      subst hkn
      have hx : ¬ (ss.length : Int) < (ss.length : Int) := by omega
      have HF : Hid (A.take ss.length = A) := by unfold Hid; rw [← HAL.out, List.take_length]
      rw [HF.out] at HO1 HO2 HNE ⊢
      have HAl2 : A.length = ss.length := HAL.out
      have HT1 : Hid (Tx wr (.slice aa ss.length ca) A) := by
        have q := tx_own (by omega) HO1.out
        rw [HAL.out] at q
        exact q
      have HT2 : Hid (Tx wr (.slice aw (misD E A).length cw) (misD E A)) := tx_own (by have := misD_len E A; omega) HO2.out
      clear HAl2
      by_cases h2000 : 2000 < A.length
      · have hi2 : (2000 : Int) < (ss.length : Int) := by omega
        have HM : Hid (Calls Tryd.prog 45 #[kp P, .slice aa ss.length ca] wr fun e w' => e = .returned (.tuple #[.slice none 0 0, .int .i64 2]) ∧ w' = wr) := Missing_many HT1.out h2000
        have HTA : Hid (Calls Tryd.prog 46 #[.slice none 0 0, .int .i64 2, .int .i64 2, .slice aw (misD E A).length cw] wr fun e w' => e = .returned (.bool true) ∧ ∃ n, w' = wr.drewN n) := textsAre_no 2 _ wr rfl
        go_wp2_with fail
        refine HM.out.mono ?_
        rintro e w1 ⟨rfl, rfl⟩
        go_wp2_with fail
        all_goals
          refine HTA.out.mono ?_
          rintro e w2 ⟨rfl, m, rfl⟩
          go_wp2
          go_ret
          exact ⟨rfl, HWB.out _ (bl_dn HB.out m)⟩
      · have hi2 : ¬ (2000 : Int) < (ss.length : Int) := by omega
        cases hall : allD A with
        | false =>
          have HE1 : Hid (errD A = 1) := by unfold Hid errD; rw [hall]; rfl
          have HM : Hid (Calls Tryd.prog 45 #[kp P, .slice aa ss.length ca] wr fun e w' => e = .returned (.tuple #[.slice none 0 0, .int .i64 1]) ∧ w' = wr) := Missing_form HT1.out (by omega) hall
          have HTA : Hid (Calls Tryd.prog 46 #[.slice none 0 0, .int .i64 1, .int .i64 1, .slice aw (misD E A).length cw] wr fun e w' => e = .returned (.bool true) ∧ ∃ n, w' = wr.drewN n) := textsAre_no 1 _ wr rfl
          rw [HE1.out]
          go_wp2_with fail
          refine HM.out.mono ?_
          rintro e w1 ⟨rfl, rfl⟩
          go_wp2_with fail
          all_goals
            refine HTA.out.mono ?_
            rintro e w2 ⟨rfl, m, rfl⟩
            go_wp2
            go_ret
            exact ⟨rfl, HWB.out _ (bl_dn HB.out m)⟩
        | true =>
          have HE1 : Hid (errD A = 0) := by unfold Hid errD; rw [hall]; rfl
          have HM : Hid (Calls Tryd.prog 45 #[kp P, .slice aa ss.length ca] wr (MisP E A wr)) := Missing_ok (HCS.out wr HB.out) HDO.out HT1.out (by omega) hall
          have HMD : Hid (misD E A = misL E A) := misD_all hall
          rw [HE1.out]
          go_wp2_with fail
          refine HM.out.mono ?_
          rintro e w1 ⟨u, rfl, hu1, hu2⟩
          have HTA : Hid (Calls Tryd.prog 46 #[u, .int .i64 0, .int .i64 0, .slice aw (misD E A).length cw] w1 fun e w' => e = .returned (.bool true) ∧ ∃ n, w' = w1.drewN n) := textsAre_ok u _ (misL E A) w1 hu1 (by
            have := HT2.out.up hu2
            rw [HMD.out] at this ⊢
            exact this)
          have HB2 : Hid (Below W0.heap.size W0 w1) := bl_tr HB.out hu2
          obtain ⟨a9, c9, hv⟩ := hu1.shape
          subst hv
          clear hu1 hu2
          go_wp2_with fail
          all_goals
            refine HTA.out.mono ?_
            rintro e w2 ⟨rfl, m, rfl⟩
            go_wp2
            go_ret
            exact ⟨rfl, HWB.out _ (bl_dn HB2.out m)⟩
end
end Go.Proofs.YtoceglbdnbnjpaaDoor
