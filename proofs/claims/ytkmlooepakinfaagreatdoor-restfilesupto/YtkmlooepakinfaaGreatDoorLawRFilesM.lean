/- RestFiles holds, in its second form, its listed variables tied to the program's text: for every two lists of files and every text of the bulk that the row names: what comes of trees is the caller's own, what was handed in is as it was; no condition of ours. -/
import Derived.Test.YtkmlooepakinfaaGreatDoorTf7
namespace Go.Proofs.YtkmlooepakinfaaGreatDoor
open Go.ChangeShapes Go.WideShapes Go.ChangeAt Go.RowKit Go.Shelf Go.Sort
open Go.ChangeMaps (open_string shut_string)
attribute [local go_sem ↓] appS_eq

theorem laidOut : laidOutB Tryz.prog = true := by kernel_rfl
theorem row_up {w w' : World} {B : Nat} {t : TypeId} {s : Nat} {v : Value} {n : Nat} {xs : List Value} (h : w.ownsRow B t s v n xs) (hb : Below w.heap.size w w') : w'.ownsRow B t s v n xs := row_heap h fun b hb2 => hb.block b (h.lt b hb2).2
theorem row_low {w : World} {B B' : Nat} {t : TypeId} {s : Nat} {v : Value} {n : Nat} {xs : List Value} (h : w.ownsRow B t s v n xs) (hB : B' ≤ B) : w.ownsRow B' t s v n xs := by
  refine ⟨h.1, ?_⟩
  rcases h.2 with h2 | ⟨g, c, cur, e, hb, r⟩
  · exact .inl h2
  · exact .inr ⟨g, c, cur, e, Nat.le_trans hB hb, r⟩
theorem row_past {w w' : World} {B : Nat} {t : TypeId} {s : Nat} {v : Value} {n : Nat} {xs : List Value} {r : Option Nat} (h : w.ownsRow B t s v n xs) (hg : w.grownBy w' r) (hr : ∀ k, r = some k → k < B) : w'.ownsRow B t s v n xs := row_heap h fun b hb2 => hg.block b (h.lt b hb2).2 fun e => by
  have h1 := hr b e.symm
  have h2 := (h.lt b hb2).1
  omega
/-- What the calls of one round answer, whatever came behind the copies. -/
structure RfC (A C : List Fl) (d : ByteArray) (ao bo : Option Addr) (ac bc g2 c2 g3 c3 : Nat) (W5 : World) (e1 e2 e3 : Int) (X Q : List Fl) (D : List (List UInt8)) : Prop where
  over : ∀ W, Below W5.heap.size W5 W → Calls Tryz.prog 5 #[.slice (some ⟨g2, 0, none⟩) A.length c2, .slice (some ⟨g3, 0, none⟩) C.length c3] W (RsP e1 X W)
  under : ∀ W, Below W5.heap.size W5 W → Calls Tryz.prog 6 #[.slice (some ⟨g2, 0, none⟩) A.length c2, .string d] W (RsP e2 Q W)
  differs : ∀ W, Below W5.heap.size W5 W → Calls Tryz.prog 7 #[.slice (some ⟨g2, 0, none⟩) A.length c2, .slice (some ⟨g3, 0, none⟩) C.length c3] W fun e w' => ∃ da dc, e = .returned (.tuple #[.slice da D.length dc, .int .i64 e3]) ∧ w'.ownsRow W.heap.size 9 1 (.slice da D.length dc) D.length (D.map encStr) ∧ Below W.heap.size W w'
  sameX : ∀ W, Below W5.heap.size W5 W → Calls Tryz.prog 8 #[.slice (some ⟨g2, 0, none⟩) A.length c2, .slice ao A.length ac] W fun e w' => e = .returned (.bool true) ∧ Hid (Below W.heap.size W w')
  sameY : ∀ W, Below W5.heap.size W5 W → Calls Tryz.prog 8 #[.slice (some ⟨g3, 0, none⟩) C.length c3, .slice bo C.length bc] W fun e w' => e = .returned (.bool true) ∧ Hid (Below W.heap.size W w')
  room : ∀ W, Below W5.heap.size W5 W → W.cell? ⟨g2, A.length * 3, none⟩ = some (.string ⟨#[114, 111, 111, 109]⟩) ∧ W.cell? ⟨g2, A.length * 3 + 1, none⟩ = some (.string ⟨#[115, 112, 97, 114, 101]⟩) ∧ W.cell? ⟨g2, A.length * 3 + 2, none⟩ = some (.bool false)
  checkX : e1 = 0 → ∀ (W : World) (B : Nat) (xa : Option Addr) (xc : Nat), Below W5.heap.size W5 W → W.ownsRow B 25 3 (.slice xa X.length xc) X.length (flCells X) → Calls Tryz.prog 9 #[.slice xa X.length xc] W fun e w' => e = .returned (.int .i64 0) ∧ Hid (Below W.heap.size W w')
  checkQ : e2 = 0 → ∀ (W : World) (B : Nat) (xa : Option Addr) (xc : Nat), Below W5.heap.size W5 W → W.ownsRow B 25 3 (.slice xa Q.length xc) Q.length (flCells Q) → Calls Tryz.prog 9 #[.slice xa Q.length xc] W fun e w' => e = .returned (.int .i64 0) ∧ Hid (Below W.heap.size W w')
  rise : e3 = 0 → ∀ (W : World) (B : Nat) (xa : Option Addr) (xc : Nat), W.ownsRow B 9 1 (.slice xa D.length xc) D.length (D.map encStr) → Calls Tryz.prog 10 #[.slice xa D.length xc] W fun e w' => e = .returned (.bool true) ∧ Hid (Below W.heap.size W w')
  spoilX : ∀ (W : World) (B : Nat) (xa : Option Addr) (xc : Nat), W.ownsRow B 25 3 (.slice xa X.length xc) X.length (flCells X) → Calls Tryz.prog 11 #[.slice xa X.length xc] W fun e w' => e = .returned (.tuple #[]) ∧ Hid (W.grownBy w' (Value.slice xa X.length xc).ownBlock)
  spoilQ : ∀ (W : World) (B : Nat) (xa : Option Addr) (xc : Nat), W.ownsRow B 25 3 (.slice xa Q.length xc) Q.length (flCells Q) → Calls Tryz.prog 11 #[.slice xa Q.length xc] W fun e w' => e = .returned (.tuple #[]) ∧ Hid (W.grownBy w' (Value.slice xa Q.length xc).ownBlock)
  spoilD : ∀ (W : World) (B : Nat) (xa : Option Addr) (xc : Nat), W.ownsRow B 9 1 (.slice xa D.length xc) D.length (D.map encStr) → Calls Tryz.prog 12 #[.slice xa D.length xc] W fun e w' => e = .returned (.tuple #[]) ∧ Hid (W.grownBy w' (Value.slice xa D.length xc).ownBlock)

theorem same_any {xa ya : Option Addr} {xc yc : Nat} {X : List Fl} {W : World} (hn : X.length ≤ 10000000) (hx : IsFl W xa X) (hy : IsFl W ya X) :
    Calls Tryz.prog 8 #[.slice xa X.length xc, .slice ya X.length yc] W fun e w' => e = .returned (.bool true) ∧ Hid (Below W.heap.size W w') := by
  refine (SameFiles_any xa ya xc yc X X W (by omega) hx hy).mono ?_
  rintro e w' ⟨b, rfl, hb, n, rfl⟩
  rw [hb.2 rfl]
  exact ⟨rfl, below_drewN (Below.refl _ _) n⟩
theorem rfC {A C : List Fl} (d : ByteArray) {ao bo : Option Addr} {ac bc g2 c2 g3 c3 B2 B3 : Nat} {W5 : World} (ha : IsFl W5 ao A) (hc : IsFl W5 bo C) (hA : A.length ≤ 10000000) (hC : C.length ≤ 10000000) (hx : W5.ownsRow B2 25 3 (.slice (some ⟨g2, 0, none⟩) (A.length + 1) c2) (A.length + 1) (flCells (A ++ [roomL]))) (hy : W5.ownsRow B3 25 3 (.slice (some ⟨g3, 0, none⟩) C.length c3) C.length (flCells C)) (he : Env W5) :
    RfC A C d ao bo ac bc g2 c2 g3 c3 W5 (ovE A C) (unE A d) (erF A C) (ovL A C) (unL A d) (dfL A C) := by
  have hxf := flAt_own hx (by simp)
  have hX : IsFl W5 (some ⟨g2, 0, none⟩) A := .inr ⟨g2, 0, rfl, (hx.lt g2 rfl).2, fun j hj => by
    have := hxf j (by simp; omega)
    rwa [List.getElem_append_left hj] at this⟩
  have hY : IsFl W5 (some ⟨g3, 0, none⟩) C := own_files hy rfl
  have hroom := hxf A.length (by simp)
  rw [List.getElem_append_right (Nat.le_refl _)] at hroom
  simp only [Nat.zero_add, Nat.sub_self, List.getElem_cons_zero] at hroom
  have hg2 : g2 < W5.heap.size := (hx.lt g2 rfl).2
  exact {
    over := fun W hW => Over_any _ _ c2 c3 A C W (hX.up hW) (hY.up hW) (he.up hW).1
    under := fun W hW => Under_any _ c2 A d W (hX.up hW) (he.up hW).1
    differs := fun W hW => Differs_any _ _ c2 c3 A C W (hX.up hW) (hY.up hW) (he.up hW).1
    sameX := fun W hW => same_any hA (hX.up hW) (ha.up hW)
    sameY := fun W hW => same_any hC (hY.up hW) (hc.up hW)
    room := fun W hW => ⟨(hW.cell (p := ⟨g2, A.length * 3, none⟩) hg2).trans hroom.1, (hW.cell (p := ⟨g2, A.length * 3 + 1, none⟩) hg2).trans hroom.2.1, (hW.cell (p := ⟨g2, A.length * 3 + 2, none⟩) hg2).trans hroom.2.2⟩
    checkX := fun h W B xa xc hW ho => by
      have := Check_any xa xc (ovL A C) W (own_files ho rfl) (he.up hW).1
      rw [ov_ch h] at this
      exact this.mono fun e w' ⟨h1, h2⟩ => ⟨h1, h2⟩
    checkQ := fun h W B xa xc hW ho => by
      have := Check_any xa xc (unL A d) W (own_files ho rfl) (he.up hW).1
      rw [un_tree h] at this
      exact this.mono fun e w' ⟨h1, h2⟩ => ⟨h1, h2⟩
    rise := fun h W B xa xc ho => Rise_dif h ho
    spoilX := fun W B xa xc ho => spoilF B xa _ xc _ W ho rfl (by have := ov_len (A := A) (C := C); omega)
    spoilQ := fun W B xa xc ho => spoilF B xa _ xc _ W ho rfl (by have := un_len (L := A) (d := d); omega)
    spoilD := fun W B xa xc ho => spoilT B xa _ xc _ W ho (by have := df_len (A := A) (C := C); omega) }

set_option maxHeartbeats 16000000 in
set_option maxRecDepth 100000 in
theorem rfiles_walk (ao bo : Option Addr) (ac bc : Nat) (A C : List Fl) (d : ByteArray) (w : World) (ha : IsFl w ao A) (hc : IsFl w bo C) (hA : A.length ≤ 10000000) (hC : C.length ≤ 10000000) (he : Env w) :
    Calls Tryz.prog 3 #[.slice ao A.length ac, .slice bo C.length bc, .string d] w fun e w' => e = .returned (.bool true) ∧ Below w.heap.size w w' := by
  have HT : Hid (Calls Tryz.prog 4 #[] w fun e w' => e = .returned (.bool true) ∧ Below w.heap.size w w') := treeBegun_any w he
  have HIn : Hid (IsFl w ao A ∧ IsFl w bo C ∧ A.length ≤ 10000000 ∧ C.length ≤ 10000000 ∧ Env w) := ⟨ha, hc, hA, hC, he⟩
  obtain ⟨m, hm⟩ : ∃ m, m = A.length + 1 := ⟨_, rfl⟩
  have hm1 : (A.length : Int) < (m : Int) := by omega
  have hA1 : (A.length : Int) ≤ 10000000 := by omega
  have HM : Hid (m = A.length + 1) := hm
  clear ha hc hA hC he hm
  go_enter Tryz.func3, Tryz.ntmps3
  go_wp2_with fail
  refine HT.out.mono ?_
  rintro e w1 ⟨rfl, hb1⟩
  have HB1 : Hid (Below w.heap.size w w1) := hb1
  clear hb1 HT
  obtain ⟨g1, c1, wa, g2, c2, w2, hap1, hap2, HA2⟩ : ∃ g1 c1 wa g2 c2 w2, (appS #[22, 22] 22 #[.slice (some ⟨w1.heap.size, 0, none⟩) 0 0, .slice ao A.length ac]).run Tryz.prog (w1.alloc (.cells #[] 25)) = .ok (.slice (some ⟨g1, 0, none⟩) A.length c1) wa ∧
      (appS #[22, 22] 22 #[.slice (some ⟨g1, 0, none⟩) A.length c1, .slice (some ⟨wa.heap.size, 0, none⟩) 1 1]).run Tryz.prog (wa.alloc (.cells #[.string ⟨#[114, 111, 111, 109]⟩, .string ⟨#[115, 112, 97, 114, 101]⟩, .bool false] 25)) = .ok (.slice (some ⟨g2, 0, none⟩) m c2) w2 ∧
      Hid (w2.ownsRow w1.heap.size 25 3 (.slice (some ⟨g2, 0, none⟩) (A.length + 1) c2) (A.length + 1) (flCells (A ++ [roomL])) ∧ Below w1.heap.size w1 w2 ∧ A.length + 1 ≤ c2) := by
    rw [HM.out]
    exact roomF (HIn.out.1.up HB1.out) HIn.out.2.2.1
  obtain ⟨g3, c3, w3, hap3, HA3⟩ : ∃ g3 c3 w3, (appS #[22, 22] 22 #[.slice (some ⟨w2.heap.size, 0, none⟩) 0 0, .slice bo C.length bc]).run Tryz.prog (w2.alloc (.cells #[] 25)) = .ok (.slice (some ⟨g3, 0, none⟩) C.length c3) w3 ∧
      Hid (w3.ownsRow w2.heap.size 25 3 (.slice (some ⟨g3, 0, none⟩) C.length c3) C.length (flCells C) ∧ Below w2.heap.size w2 w3) :=
    copyF (HIn.out.2.1.up (HB1.out.trans (HA2.out.2.1.mono HB1.out.size))) HIn.out.2.2.2.1
  have hc2 : (A.length : Int) ≤ (c2 : Int) := by have := HA2.out.2.2; omega
  have HB3 : Hid (Below w.heap.size w w3) := (HB1.out.trans (HA2.out.2.1.mono HB1.out.size)).trans (HA3.out.2.mono (HB1.out.trans (HA2.out.2.1.mono HB1.out.size)).size)
  have HC : Hid (RfC A C d ao bo ac bc g2 c2 g3 c3 w3 (ovE A C) (unE A d) (erF A C) (ovL A C) (unL A d) (dfL A C)) := rfC d (HIn.out.1.up HB3.out) (HIn.out.2.1.up HB3.out) HIn.out.2.2.1 HIn.out.2.2.2.1 (row_up HA2.out.1 HA3.out.2) HA3.out.1 (HIn.out.2.2.2.2.up HB3.out)
  generalize ovE A C = e1 at *
  generalize unE A d = e2 at *
  generalize erF A C = e3 at *
  generalize ovL A C = X at *
  generalize unL A d = Q at *
  generalize dfL A C = D at *
  go_wp2
  clear hap1 hap2 hap3 HA2 HA3 HIn HB1 HM
  go_loopw [10] (fun i wr => ∃ k : Nat, k ≤ 2 ∧ i = .int .i64 (k : Int) ∧ Hid (Below w3.heap.size w3 wr)) (fun i _ => 2 - (RowKit.intOf i).toNat)
  case atStart => exact ⟨0, Nat.zero_le _, rfl, Below.refl _ _⟩
  case round =>
    obtain ⟨k, hk, rfl, HB⟩ := hrel
    by_cases hlt : k < 2
    · have hki : (k : Int) < 2 := by omega
      obtain ⟨k1, hk1⟩ : ∃ k1, k1 = k + 1 := ⟨_, rfl⟩
      have ek1 : (k : Int) + 1 = (k1 : Int) := by omega
      have ek2 : IntKind.i64.wrap (k1 : Int) = (k1 : Int) := by rw [IntKind.wrap_i64]; omega
      have HK1 : Hid (k1 = k + 1 ∧ k < 2) := ⟨hk1, hlt⟩
      clear hk hlt hk1
      go_wp2_with fail
      refine (HC.out.over _ HB.out).mono ?_
      rintro e w6 ⟨pa, pc, rfl, hp6, hb6⟩
      have HB6 : Hid (Below w3.heap.size w3 w6) := HB.out.trans (hb6.mono HB.out.size)
      have HP6 : Hid (w6.ownsRow w3.heap.size 25 3 (.slice pa X.length pc) X.length (flCells X)) := row_low hp6 HB.out.size
      have HPl : Hid (∀ k, (Value.slice pa X.length pc).ownBlock = some k → w3.heap.size ≤ k ∧ k < w6.heap.size) := HP6.out.lt
      clear hp6 hb6 HB
      go_wp2_with fail
      refine (HC.out.under _ HB6.out).mono ?_
      rintro e w7 ⟨qa, qc, rfl, hq7, hb7⟩
      have HB7 : Hid (Below w3.heap.size w3 w7) := HB6.out.trans (hb7.mono HB6.out.size)
      have HP7 : Hid (w7.ownsRow w3.heap.size 25 3 (.slice pa X.length pc) X.length (flCells X)) := row_up HP6.out hb7
      have HQ7 : Hid (w7.ownsRow w6.heap.size 25 3 (.slice qa Q.length qc) Q.length (flCells Q)) := hq7
      have HQl : Hid (∀ k, (Value.slice qa Q.length qc).ownBlock = some k → w6.heap.size ≤ k ∧ k < w7.heap.size) := hq7.lt
      have HL7 : Hid (w3.heap.size ≤ w6.heap.size ∧ w6.heap.size ≤ w7.heap.size) := ⟨HB6.out.size, hb7.size⟩
      clear hq7 hb7 HB6 HP6
      go_wp2_with fail
      refine (HC.out.differs _ HB7.out).mono ?_
      rintro e w8 ⟨da, dc, rfl, hd8, hb8⟩
      have HB8 : Hid (Below w3.heap.size w3 w8) := HB7.out.trans (hb8.mono HB7.out.size)
      have HP8 : Hid (w8.ownsRow w3.heap.size 25 3 (.slice pa X.length pc) X.length (flCells X)) := row_up HP7.out hb8
      have HQ8 : Hid (w8.ownsRow w6.heap.size 25 3 (.slice qa Q.length qc) Q.length (flCells Q)) := row_up HQ7.out hb8
      have HD8 : Hid (w8.ownsRow w7.heap.size 9 1 (.slice da D.length dc) D.length (D.map encStr)) := hd8
      have HDl : Hid (∀ k, (Value.slice da D.length dc).ownBlock = some k → w7.heap.size ≤ k ∧ k < w8.heap.size) := hd8.lt
      clear hd8 hb8 HB7 HP7 HQ7
      go_wp2_with fail
      refine (HC.out.sameX _ HB8.out).mono ?_
      rintro e w9 ⟨rfl, hb9⟩
      have HB9 : Hid (Below w3.heap.size w3 w9) := HB8.out.trans (hb9.out.mono HB8.out.size)
      have HP9 : Hid (w9.ownsRow w3.heap.size 25 3 (.slice pa X.length pc) X.length (flCells X)) := row_up HP8.out hb9.out
      have HQ9 : Hid (w9.ownsRow w6.heap.size 25 3 (.slice qa Q.length qc) Q.length (flCells Q)) := row_up HQ8.out hb9.out
      have HD9 : Hid (w9.ownsRow w7.heap.size 9 1 (.slice da D.length dc) D.length (D.map encStr)) := row_up HD8.out hb9.out
      clear hb9 HB8 HP8 HQ8 HD8
      go_wp2_with fail
      refine (HC.out.sameY _ HB9.out).mono ?_
      rintro e w10 ⟨rfl, hb10⟩
      have HB10 : Hid (Below w3.heap.size w3 w10) := HB9.out.trans (hb10.out.mono HB9.out.size)
      have HP10 : Hid (w10.ownsRow w3.heap.size 25 3 (.slice pa X.length pc) X.length (flCells X)) := row_up HP9.out hb10.out
      have HQ10 : Hid (w10.ownsRow w6.heap.size 25 3 (.slice qa Q.length qc) Q.length (flCells Q)) := row_up HQ9.out hb10.out
      have HD10 : Hid (w10.ownsRow w7.heap.size 9 1 (.slice da D.length dc) D.length (D.map encStr)) := row_up HD9.out hb10.out
      clear hb10 HB9 HP9 HQ9 HD9
      obtain ⟨r0, r1, r2⟩ := HC.out.room _ HB10.out
      by_cases he1 : e1 = 0
      · subst he1
        go_wp2_with fail
        refine (HC.out.checkX rfl _ _ _ _ HB10.out HP10.out).mono ?_
        rintro e w11 ⟨rfl, hb11⟩
        have HB11 : Hid (Below w3.heap.size w3 w11) := HB10.out.trans (hb11.out.mono HB10.out.size)
        have HP11 : Hid (w11.ownsRow w3.heap.size 25 3 (.slice pa X.length pc) X.length (flCells X)) := row_up HP10.out hb11.out
        have HQ11 : Hid (w11.ownsRow w6.heap.size 25 3 (.slice qa Q.length qc) Q.length (flCells Q)) := row_up HQ10.out hb11.out
        have HD11 : Hid (w11.ownsRow w7.heap.size 9 1 (.slice da D.length dc) D.length (D.map encStr)) := row_up HD10.out hb11.out
        clear hb11 HB10 HP10 HQ10 HD10
        by_cases he2 : e2 = 0
        · subst he2
          go_wp2_with fail
          refine (HC.out.checkQ rfl _ _ _ _ HB11.out HQ11.out).mono ?_
          rintro e w12 ⟨rfl, hb12⟩
          have HB12 : Hid (Below w3.heap.size w3 w12) := HB11.out.trans (hb12.out.mono HB11.out.size)
          have HP12 : Hid (w12.ownsRow w3.heap.size 25 3 (.slice pa X.length pc) X.length (flCells X)) := row_up HP11.out hb12.out
          have HQ12 : Hid (w12.ownsRow w6.heap.size 25 3 (.slice qa Q.length qc) Q.length (flCells Q)) := row_up HQ11.out hb12.out
          have HD12 : Hid (w12.ownsRow w7.heap.size 9 1 (.slice da D.length dc) D.length (D.map encStr)) := row_up HD11.out hb12.out
          clear hb12 HB11 HP11 HQ11 HD11
          by_cases he3 : e3 = 0
          · subst he3
            go_wp2_with fail
            refine (HC.out.rise rfl _ _ _ _ HD12.out).mono ?_
            rintro e w13 ⟨rfl, hb13⟩
            have HB13 : Hid (Below w3.heap.size w3 w13) := HB12.out.trans (hb13.out.mono HB12.out.size)
            have HP13 : Hid (w13.ownsRow w3.heap.size 25 3 (.slice pa X.length pc) X.length (flCells X)) := row_up HP12.out hb13.out
            have HQ13 : Hid (w13.ownsRow w6.heap.size 25 3 (.slice qa Q.length qc) Q.length (flCells Q)) := row_up HQ12.out hb13.out
            have HD13 : Hid (w13.ownsRow w7.heap.size 9 1 (.slice da D.length dc) D.length (D.map encStr)) := row_up HD12.out hb13.out
            clear hb13 HB12 HP12 HQ12 HD12
            go_wp2_with fail
            refine (HC.out.spoilX _ _ _ _ HP13.out).mono ?_
            rintro e w14 ⟨rfl, hg14⟩
            have HB14 : Hid (Below w3.heap.size w3 w14) := HB13.out.grown hg14.out HB13.out.size fun k hk => (HPl.out k hk).1
            have HQ14 : Hid (w14.ownsRow w6.heap.size 25 3 (.slice qa Q.length qc) Q.length (flCells Q)) := row_past HQ13.out hg14.out fun k hk => (HPl.out k hk).2
            have HD14 : Hid (w14.ownsRow w7.heap.size 9 1 (.slice da D.length dc) D.length (D.map encStr)) := row_past HD13.out hg14.out fun k hk => Nat.lt_of_lt_of_le (HPl.out k hk).2 HL7.out.2
            clear hg14 HB13 HP13 HQ13 HD13
            go_wp2_with fail
            refine (HC.out.spoilQ _ _ _ _ HQ14.out).mono ?_
            rintro e w15 ⟨rfl, hg15⟩
            have HB15 : Hid (Below w3.heap.size w3 w15) := HB14.out.grown hg15.out HB14.out.size fun k hk => Nat.le_trans HL7.out.1 (HQl.out k hk).1
            have HD15 : Hid (w15.ownsRow w7.heap.size 9 1 (.slice da D.length dc) D.length (D.map encStr)) := row_past HD14.out hg15.out fun k hk => (HQl.out k hk).2
            clear hg15 HB14 HQ14 HD14
            go_wp2_with fail
            refine (HC.out.spoilD _ _ _ _ HD15.out).mono ?_
            rintro e w16 ⟨rfl, hg16⟩
            have HB16 : Hid (Below w3.heap.size w3 w16) := HB15.out.grown hg16.out HB15.out.size fun k hk => Nat.le_trans (Nat.le_trans HL7.out.1 HL7.out.2) (HDl.out k hk).1
            clear hg16 HB15 HD15
            go_wp2
            refine ⟨⟨k1, by have := HK1.out; omega, rfl, HB16⟩, ?_⟩
            have := HK1.out
            simp [RowKit.intOf]; omega
          · have ne3 : (e3 == 0) = false := by simpa using he3
            go_wp2_with fail
            refine (HC.out.spoilX _ _ _ _ HP12.out).mono ?_
            rintro e w13 ⟨rfl, hg13⟩
            have HB13 : Hid (Below w3.heap.size w3 w13) := HB12.out.grown hg13.out HB12.out.size fun k hk => (HPl.out k hk).1
            have HQ13 : Hid (w13.ownsRow w6.heap.size 25 3 (.slice qa Q.length qc) Q.length (flCells Q)) := row_past HQ12.out hg13.out fun k hk => (HPl.out k hk).2
            have HD13 : Hid (w13.ownsRow w7.heap.size 9 1 (.slice da D.length dc) D.length (D.map encStr)) := row_past HD12.out hg13.out fun k hk => Nat.lt_of_lt_of_le (HPl.out k hk).2 HL7.out.2
            clear hg13 HB12 HP12 HQ12 HD12
            go_wp2_with fail
            refine (HC.out.spoilQ _ _ _ _ HQ13.out).mono ?_
            rintro e w14 ⟨rfl, hg14⟩
            have HB14 : Hid (Below w3.heap.size w3 w14) := HB13.out.grown hg14.out HB13.out.size fun k hk => Nat.le_trans HL7.out.1 (HQl.out k hk).1
            have HD14 : Hid (w14.ownsRow w7.heap.size 9 1 (.slice da D.length dc) D.length (D.map encStr)) := row_past HD13.out hg14.out fun k hk => (HQl.out k hk).2
            clear hg14 HB13 HQ13 HD13
            go_wp2_with fail
            refine (HC.out.spoilD _ _ _ _ HD14.out).mono ?_
            rintro e w15 ⟨rfl, hg15⟩
            have HB15 : Hid (Below w3.heap.size w3 w15) := HB14.out.grown hg15.out HB14.out.size fun k hk => Nat.le_trans (Nat.le_trans HL7.out.1 HL7.out.2) (HDl.out k hk).1
            clear hg15 HB14 HD14
            go_wp2
            refine ⟨⟨k1, by have := HK1.out; omega, rfl, HB15⟩, ?_⟩
            have := HK1.out
            simp [RowKit.intOf]; omega
        · have ne2 : (e2 == 0) = false := by simpa using he2
          by_cases he3 : e3 = 0
          · subst he3
            go_wp2_with fail
            refine (HC.out.rise rfl _ _ _ _ HD11.out).mono ?_
            rintro e w12 ⟨rfl, hb12⟩
            have HB12 : Hid (Below w3.heap.size w3 w12) := HB11.out.trans (hb12.out.mono HB11.out.size)
            have HP12 : Hid (w12.ownsRow w3.heap.size 25 3 (.slice pa X.length pc) X.length (flCells X)) := row_up HP11.out hb12.out
            have HQ12 : Hid (w12.ownsRow w6.heap.size 25 3 (.slice qa Q.length qc) Q.length (flCells Q)) := row_up HQ11.out hb12.out
            have HD12 : Hid (w12.ownsRow w7.heap.size 9 1 (.slice da D.length dc) D.length (D.map encStr)) := row_up HD11.out hb12.out
            clear hb12 HB11 HP11 HQ11 HD11
            go_wp2_with fail
            refine (HC.out.spoilX _ _ _ _ HP12.out).mono ?_
            rintro e w13 ⟨rfl, hg13⟩
            have HB13 : Hid (Below w3.heap.size w3 w13) := HB12.out.grown hg13.out HB12.out.size fun k hk => (HPl.out k hk).1
            have HQ13 : Hid (w13.ownsRow w6.heap.size 25 3 (.slice qa Q.length qc) Q.length (flCells Q)) := row_past HQ12.out hg13.out fun k hk => (HPl.out k hk).2
            have HD13 : Hid (w13.ownsRow w7.heap.size 9 1 (.slice da D.length dc) D.length (D.map encStr)) := row_past HD12.out hg13.out fun k hk => Nat.lt_of_lt_of_le (HPl.out k hk).2 HL7.out.2
            clear hg13 HB12 HP12 HQ12 HD12
            go_wp2_with fail
            refine (HC.out.spoilQ _ _ _ _ HQ13.out).mono ?_
            rintro e w14 ⟨rfl, hg14⟩
            have HB14 : Hid (Below w3.heap.size w3 w14) := HB13.out.grown hg14.out HB13.out.size fun k hk => Nat.le_trans HL7.out.1 (HQl.out k hk).1
            have HD14 : Hid (w14.ownsRow w7.heap.size 9 1 (.slice da D.length dc) D.length (D.map encStr)) := row_past HD13.out hg14.out fun k hk => (HQl.out k hk).2
            clear hg14 HB13 HQ13 HD13
            go_wp2_with fail
            refine (HC.out.spoilD _ _ _ _ HD14.out).mono ?_
            rintro e w15 ⟨rfl, hg15⟩
            have HB15 : Hid (Below w3.heap.size w3 w15) := HB14.out.grown hg15.out HB14.out.size fun k hk => Nat.le_trans (Nat.le_trans HL7.out.1 HL7.out.2) (HDl.out k hk).1
            clear hg15 HB14 HD14
            go_wp2
            refine ⟨⟨k1, by have := HK1.out; omega, rfl, HB15⟩, ?_⟩
            have := HK1.out
            simp [RowKit.intOf]; omega
          · have ne3 : (e3 == 0) = false := by simpa using he3
            go_wp2_with fail
            refine (HC.out.spoilX _ _ _ _ HP11.out).mono ?_
            rintro e w12 ⟨rfl, hg12⟩
            have HB12 : Hid (Below w3.heap.size w3 w12) := HB11.out.grown hg12.out HB11.out.size fun k hk => (HPl.out k hk).1
            have HQ12 : Hid (w12.ownsRow w6.heap.size 25 3 (.slice qa Q.length qc) Q.length (flCells Q)) := row_past HQ11.out hg12.out fun k hk => (HPl.out k hk).2
            have HD12 : Hid (w12.ownsRow w7.heap.size 9 1 (.slice da D.length dc) D.length (D.map encStr)) := row_past HD11.out hg12.out fun k hk => Nat.lt_of_lt_of_le (HPl.out k hk).2 HL7.out.2
            clear hg12 HB11 HP11 HQ11 HD11
            go_wp2_with fail
            refine (HC.out.spoilQ _ _ _ _ HQ12.out).mono ?_
            rintro e w13 ⟨rfl, hg13⟩
            have HB13 : Hid (Below w3.heap.size w3 w13) := HB12.out.grown hg13.out HB12.out.size fun k hk => Nat.le_trans HL7.out.1 (HQl.out k hk).1
            have HD13 : Hid (w13.ownsRow w7.heap.size 9 1 (.slice da D.length dc) D.length (D.map encStr)) := row_past HD12.out hg13.out fun k hk => (HQl.out k hk).2
            clear hg13 HB12 HQ12 HD12
            go_wp2_with fail
            refine (HC.out.spoilD _ _ _ _ HD13.out).mono ?_
            rintro e w14 ⟨rfl, hg14⟩
            have HB14 : Hid (Below w3.heap.size w3 w14) := HB13.out.grown hg14.out HB13.out.size fun k hk => Nat.le_trans (Nat.le_trans HL7.out.1 HL7.out.2) (HDl.out k hk).1
            clear hg14 HB13 HD13
            go_wp2
            refine ⟨⟨k1, by have := HK1.out; omega, rfl, HB14⟩, ?_⟩
            have := HK1.out
            simp [RowKit.intOf]; omega
      · have ne1 : (e1 == 0) = false := by simpa using he1
        by_cases he2 : e2 = 0
        · subst he2
          go_wp2_with fail
          refine (HC.out.checkQ rfl _ _ _ _ HB10.out HQ10.out).mono ?_
          rintro e w11 ⟨rfl, hb11⟩
          have HB11 : Hid (Below w3.heap.size w3 w11) := HB10.out.trans (hb11.out.mono HB10.out.size)
          have HP11 : Hid (w11.ownsRow w3.heap.size 25 3 (.slice pa X.length pc) X.length (flCells X)) := row_up HP10.out hb11.out
          have HQ11 : Hid (w11.ownsRow w6.heap.size 25 3 (.slice qa Q.length qc) Q.length (flCells Q)) := row_up HQ10.out hb11.out
          have HD11 : Hid (w11.ownsRow w7.heap.size 9 1 (.slice da D.length dc) D.length (D.map encStr)) := row_up HD10.out hb11.out
          clear hb11 HB10 HP10 HQ10 HD10
          by_cases he3 : e3 = 0
          · subst he3
            go_wp2_with fail
            refine (HC.out.rise rfl _ _ _ _ HD11.out).mono ?_
            rintro e w12 ⟨rfl, hb12⟩
            have HB12 : Hid (Below w3.heap.size w3 w12) := HB11.out.trans (hb12.out.mono HB11.out.size)
            have HP12 : Hid (w12.ownsRow w3.heap.size 25 3 (.slice pa X.length pc) X.length (flCells X)) := row_up HP11.out hb12.out
            have HQ12 : Hid (w12.ownsRow w6.heap.size 25 3 (.slice qa Q.length qc) Q.length (flCells Q)) := row_up HQ11.out hb12.out
            have HD12 : Hid (w12.ownsRow w7.heap.size 9 1 (.slice da D.length dc) D.length (D.map encStr)) := row_up HD11.out hb12.out
            clear hb12 HB11 HP11 HQ11 HD11
            go_wp2_with fail
            refine (HC.out.spoilX _ _ _ _ HP12.out).mono ?_
            rintro e w13 ⟨rfl, hg13⟩
            have HB13 : Hid (Below w3.heap.size w3 w13) := HB12.out.grown hg13.out HB12.out.size fun k hk => (HPl.out k hk).1
            have HQ13 : Hid (w13.ownsRow w6.heap.size 25 3 (.slice qa Q.length qc) Q.length (flCells Q)) := row_past HQ12.out hg13.out fun k hk => (HPl.out k hk).2
            have HD13 : Hid (w13.ownsRow w7.heap.size 9 1 (.slice da D.length dc) D.length (D.map encStr)) := row_past HD12.out hg13.out fun k hk => Nat.lt_of_lt_of_le (HPl.out k hk).2 HL7.out.2
            clear hg13 HB12 HP12 HQ12 HD12
            go_wp2_with fail
            refine (HC.out.spoilQ _ _ _ _ HQ13.out).mono ?_
            rintro e w14 ⟨rfl, hg14⟩
            have HB14 : Hid (Below w3.heap.size w3 w14) := HB13.out.grown hg14.out HB13.out.size fun k hk => Nat.le_trans HL7.out.1 (HQl.out k hk).1
            have HD14 : Hid (w14.ownsRow w7.heap.size 9 1 (.slice da D.length dc) D.length (D.map encStr)) := row_past HD13.out hg14.out fun k hk => (HQl.out k hk).2
            clear hg14 HB13 HQ13 HD13
            go_wp2_with fail
            refine (HC.out.spoilD _ _ _ _ HD14.out).mono ?_
            rintro e w15 ⟨rfl, hg15⟩
            have HB15 : Hid (Below w3.heap.size w3 w15) := HB14.out.grown hg15.out HB14.out.size fun k hk => Nat.le_trans (Nat.le_trans HL7.out.1 HL7.out.2) (HDl.out k hk).1
            clear hg15 HB14 HD14
            go_wp2
            refine ⟨⟨k1, by have := HK1.out; omega, rfl, HB15⟩, ?_⟩
            have := HK1.out
            simp [RowKit.intOf]; omega
          · have ne3 : (e3 == 0) = false := by simpa using he3
            go_wp2_with fail
            refine (HC.out.spoilX _ _ _ _ HP11.out).mono ?_
            rintro e w12 ⟨rfl, hg12⟩
            have HB12 : Hid (Below w3.heap.size w3 w12) := HB11.out.grown hg12.out HB11.out.size fun k hk => (HPl.out k hk).1
            have HQ12 : Hid (w12.ownsRow w6.heap.size 25 3 (.slice qa Q.length qc) Q.length (flCells Q)) := row_past HQ11.out hg12.out fun k hk => (HPl.out k hk).2
            have HD12 : Hid (w12.ownsRow w7.heap.size 9 1 (.slice da D.length dc) D.length (D.map encStr)) := row_past HD11.out hg12.out fun k hk => Nat.lt_of_lt_of_le (HPl.out k hk).2 HL7.out.2
            clear hg12 HB11 HP11 HQ11 HD11
            go_wp2_with fail
            refine (HC.out.spoilQ _ _ _ _ HQ12.out).mono ?_
            rintro e w13 ⟨rfl, hg13⟩
            have HB13 : Hid (Below w3.heap.size w3 w13) := HB12.out.grown hg13.out HB12.out.size fun k hk => Nat.le_trans HL7.out.1 (HQl.out k hk).1
            have HD13 : Hid (w13.ownsRow w7.heap.size 9 1 (.slice da D.length dc) D.length (D.map encStr)) := row_past HD12.out hg13.out fun k hk => (HQl.out k hk).2
            clear hg13 HB12 HQ12 HD12
            go_wp2_with fail
            refine (HC.out.spoilD _ _ _ _ HD13.out).mono ?_
            rintro e w14 ⟨rfl, hg14⟩
            have HB14 : Hid (Below w3.heap.size w3 w14) := HB13.out.grown hg14.out HB13.out.size fun k hk => Nat.le_trans (Nat.le_trans HL7.out.1 HL7.out.2) (HDl.out k hk).1
            clear hg14 HB13 HD13
            go_wp2
            refine ⟨⟨k1, by have := HK1.out; omega, rfl, HB14⟩, ?_⟩
            have := HK1.out
            simp [RowKit.intOf]; omega
        · have ne2 : (e2 == 0) = false := by simpa using he2
          by_cases he3 : e3 = 0
          · subst he3
            go_wp2_with fail
            refine (HC.out.rise rfl _ _ _ _ HD10.out).mono ?_
            rintro e w11 ⟨rfl, hb11⟩
            have HB11 : Hid (Below w3.heap.size w3 w11) := HB10.out.trans (hb11.out.mono HB10.out.size)
            have HP11 : Hid (w11.ownsRow w3.heap.size 25 3 (.slice pa X.length pc) X.length (flCells X)) := row_up HP10.out hb11.out
            have HQ11 : Hid (w11.ownsRow w6.heap.size 25 3 (.slice qa Q.length qc) Q.length (flCells Q)) := row_up HQ10.out hb11.out
            have HD11 : Hid (w11.ownsRow w7.heap.size 9 1 (.slice da D.length dc) D.length (D.map encStr)) := row_up HD10.out hb11.out
            clear hb11 HB10 HP10 HQ10 HD10
            go_wp2_with fail
            refine (HC.out.spoilX _ _ _ _ HP11.out).mono ?_
            rintro e w12 ⟨rfl, hg12⟩
            have HB12 : Hid (Below w3.heap.size w3 w12) := HB11.out.grown hg12.out HB11.out.size fun k hk => (HPl.out k hk).1
            have HQ12 : Hid (w12.ownsRow w6.heap.size 25 3 (.slice qa Q.length qc) Q.length (flCells Q)) := row_past HQ11.out hg12.out fun k hk => (HPl.out k hk).2
            have HD12 : Hid (w12.ownsRow w7.heap.size 9 1 (.slice da D.length dc) D.length (D.map encStr)) := row_past HD11.out hg12.out fun k hk => Nat.lt_of_lt_of_le (HPl.out k hk).2 HL7.out.2
            clear hg12 HB11 HP11 HQ11 HD11
            go_wp2_with fail
            refine (HC.out.spoilQ _ _ _ _ HQ12.out).mono ?_
            rintro e w13 ⟨rfl, hg13⟩
            have HB13 : Hid (Below w3.heap.size w3 w13) := HB12.out.grown hg13.out HB12.out.size fun k hk => Nat.le_trans HL7.out.1 (HQl.out k hk).1
            have HD13 : Hid (w13.ownsRow w7.heap.size 9 1 (.slice da D.length dc) D.length (D.map encStr)) := row_past HD12.out hg13.out fun k hk => (HQl.out k hk).2
            clear hg13 HB12 HQ12 HD12
            go_wp2_with fail
            refine (HC.out.spoilD _ _ _ _ HD13.out).mono ?_
            rintro e w14 ⟨rfl, hg14⟩
            have HB14 : Hid (Below w3.heap.size w3 w14) := HB13.out.grown hg14.out HB13.out.size fun k hk => Nat.le_trans (Nat.le_trans HL7.out.1 HL7.out.2) (HDl.out k hk).1
            clear hg14 HB13 HD13
            go_wp2
            refine ⟨⟨k1, by have := HK1.out; omega, rfl, HB14⟩, ?_⟩
            have := HK1.out
            simp [RowKit.intOf]; omega
          · have ne3 : (e3 == 0) = false := by simpa using he3
            go_wp2_with fail
            refine (HC.out.spoilX _ _ _ _ HP10.out).mono ?_
            rintro e w11 ⟨rfl, hg11⟩
            have HB11 : Hid (Below w3.heap.size w3 w11) := HB10.out.grown hg11.out HB10.out.size fun k hk => (HPl.out k hk).1
            have HQ11 : Hid (w11.ownsRow w6.heap.size 25 3 (.slice qa Q.length qc) Q.length (flCells Q)) := row_past HQ10.out hg11.out fun k hk => (HPl.out k hk).2
            have HD11 : Hid (w11.ownsRow w7.heap.size 9 1 (.slice da D.length dc) D.length (D.map encStr)) := row_past HD10.out hg11.out fun k hk => Nat.lt_of_lt_of_le (HPl.out k hk).2 HL7.out.2
            clear hg11 HB10 HP10 HQ10 HD10
            go_wp2_with fail
            refine (HC.out.spoilQ _ _ _ _ HQ11.out).mono ?_
            rintro e w12 ⟨rfl, hg12⟩
            have HB12 : Hid (Below w3.heap.size w3 w12) := HB11.out.grown hg12.out HB11.out.size fun k hk => Nat.le_trans HL7.out.1 (HQl.out k hk).1
            have HD12 : Hid (w12.ownsRow w7.heap.size 9 1 (.slice da D.length dc) D.length (D.map encStr)) := row_past HD11.out hg12.out fun k hk => (HQl.out k hk).2
            clear hg12 HB11 HQ11 HD11
            go_wp2_with fail
            refine (HC.out.spoilD _ _ _ _ HD12.out).mono ?_
            rintro e w13 ⟨rfl, hg13⟩
            have HB13 : Hid (Below w3.heap.size w3 w13) := HB12.out.grown hg13.out HB12.out.size fun k hk => Nat.le_trans (Nat.le_trans HL7.out.1 HL7.out.2) (HDl.out k hk).1
            clear hg13 HB12 HD12
            go_wp2
            refine ⟨⟨k1, by have := HK1.out; omega, rfl, HB13⟩, ?_⟩
            have := HK1.out
            simp [RowKit.intOf]; omega
    · obtain rfl : k = 2 := by omega
      have HE : Hid (Below w.heap.size w wr) := HB3.out.trans (HB.out.mono HB3.out.size)
      clear hk hlt HB HB3 HC
      go_wp2
      go_ret
      exact ⟨rfl, HE.out⟩

set_option maxRecDepth 100000 in
theorem rfiles_lifted (os : Os) (started : os.Started) (H : Type) (enc : TypeId × Value → H) (F : Stop.Interp) :
    ReturnsInHanded {} Tryz.checked os 3 .any ((Rows.OpenSpec.upto Rows.restFilesSpec).preRow enc Tryz.prog Tryz.f3 Rows.restFilesUptoRow.domain false Rows.restFilesUptoRow.laid) (((Rows.OpenSpec.upto Rows.restFilesSpec).at F).post enc Tryz.prog Tryz.f3 false true false false) := by
  refine returnsInHanded_of_row (C := Tryz.checked) (s := Rows.OpenSpec.upto Rows.restFilesSpec) own started (by kernel_rfl) Tryz.func3
    (witness_up (enc := enc) (C := Tryz.checked) (os := os) (World.laidAll Tryz.prog os Rows.restFilesUptoRow.laid) #[.slice none 0 0, .slice none 0 0, .string ByteArray.empty] (World.laidAll_os _ _ _)
      (World.shaped_of_ZipB (by kernel_rfl) (by kernel_rfl)) (by kernel_rfl)
      (OpenSpec.preRow_of_cond 8 (x := ([.nil, .nil, .lit (.string [])], [], [])) (by kernel_rfl) (by kernel_rfl) (fun k hk => by cases hk; kernel_rfl) (by kernel_rfl)
        (by rw [MakeChecks.laidMetH_plain _ _ _ (by kernel_rfl)]; exact laidMet_laidAll _ (by kernel_rfl) (by kernel_rfl)))) ?_
  intro W base args ds gs before hval0 hW _ hcond hsz0 lies shape _
  have hval : ∀ (j : Nat) t v, Tryz.f3.params[j]? = some t → args[j]? = some v → Value.okWide Tryz.prog W .any base t v := hval0
  have hk := hcond _ rfl
  have hW' := hW
  obtain ⟨p, q, hA0, hV, rfl, hfz, hnd⟩ := hW
  have hA : DataW.TrodAll enc Tryz.prog W 0 (fun _ => true) true Tryz.f3.params.toList args.toList ds p := hA0
  have hsz : (DataW.weightsEach Tryz.prog (Tryz.f3.params.toList ++ Rows.restFilesSpec.plain.varTypes Tryz.prog) (ds ++ gs)).all (· ≤ reachBytes) = true := hsz0
  rw [Tryz.params3] at hA hval hsz
  obtain ⟨v0, v1, v2, d0, d1, d2, p0, p1, p2, rfl, rfl, rfl, h0, h1, h2⟩ := trodAll_three hA
  obtain ⟨rfl, rfl⟩ := trodVars_none hV
  have hu := of_decide_eq_true hk
  simp only [List.append_nil, Rows.uptoBulkAll] at hu
  have r0 : ∀ elems sp, d0 = .slice elems sp → elems.length ≤ 1048576 := fun elems sp he => by
    rw [he] at hu
    simp only [Rows.uptoBulk] at hu
    have := bulk_len elems
    omega
  obtain ⟨L, ao, cap, rfl, i0, hln⟩ := arg_files_up (hval 0 22 v0 rfl rfl) h0 r0
  have lt0 : ∀ x ∈ p0, x.block < W.heap.size := by obtain ⟨m, hm⟩ := h0; exact DataW.trod_lt m _ _ _ hm
  have r1 : ∀ elems sp, d1 = .slice elems sp → elems.length ≤ 1048576 := fun elems sp he => by
    rw [he] at hu
    simp only [Rows.uptoBulk] at hu
    have := bulk_len elems
    omega
  obtain ⟨M, bo, bcap, rfl, i1, hmn⟩ := arg_files_up (hval 1 22 v1 rfl rfl) h1 r1
  have lt1 : ∀ x ∈ p1, x.block < W.heap.size := by obtain ⟨m, hm⟩ := h1; exact DataW.trod_lt m _ _ _ hm
  obtain ⟨a2, rfl, rfl, rfl, w2⟩ := open_string Tryz.underlying9 (hval 2 9 v2 rfl rfl) h2
  clear hA0 hval0
  refine (rfiles_walk ao bo cap bcap L M a2 W i0 i1 (by omega) (by omega) (env_of lies shape)).mono fun e W' ⟨he, bel⟩ => ?_
  subst he
  exact ⟨_, rfl, _, _, _, [], _, [], hW', trodAll_mk1 (shut_bool Tryz.underlying4 _), trodAll_mk3 (Below.trod laidOut (by kernel_rfl) (of_decide_eq_true (by kernel_rfl)) h0 bel lt0) (Below.trod laidOut (by kernel_rfl) (of_decide_eq_true (by kernel_rfl)) h1 bel lt1) (shut_string Tryz.underlying9 w2), rfl, bel.frame _, fun h => by cases h⟩

theorem restFilesUpto_row : Rows.RestFilesUptoSaid :=
  OpenClaim.holds_of_cond 3 Tryz.f3 rfl rfl rfl rfl rfl rfl rfl ⟨rfl, rfl, rfl, rfl, rfl⟩ rfl rfl rfl rfl rfl (by kernel_rfl) Tryz.func3 (by kernel_rfl)
    (of_decide_eq_true (by kernel_rfl)) (by unfold Func.isWrapper; first | (rw [if_pos (by decide +kernel)]; kernel_rfl) | (rw [if_neg (by decide +kernel)]; exact ⟨rfl, rfl⟩))
    (fun os started H enc _ F => by rw [OpenClaim.pre_eq_preRow]; exact rfiles_lifted os started H enc F)

theorem restFilesUpto_holds : Rows.RestFilesUptoCardSaid :=
  Claim7.holds_tied_plain_at .later [] Rows.restFilesUptoCard.laidKinds true Rows.restFilesUptoCard.stood.harness true
    restFilesUpto_row (fun _ h => by cases h) (by kernel_rfl) (fun _ h => by cases h) restFilesUpto_row_tie rfl ⟨rfl, rfl⟩ (by kernel_rfl) rfl
    (fun f fn hf hfn => by
      obtain rfl : f = 3 := Option.some.inj ((show Tryz.prog.funcNamed Rows.restFilesUptoRow.func = some 3 by kernel_rfl).symm.trans hf) |>.symm
      obtain rfl : fn = Tryz.f3 := (Option.some.inj (Tryz.func3.symm.trans hfn)).symm
      exact ⟨by kernel_rfl, fun j t ht => by
        rw [Tryz.params3] at ht
        have hm : t ∈ [22, 22, 9] := by simpa using Array.mem_of_getElem? ht
        have hall : ([22, 22, 9].all fun u => !Tryz.prog.wantsStandIn u) = true := by kernel_rfl
        exact (show Tryz.prog.wantsStandIn t = false by simpa using List.all_eq_true.1 hall t hm)⟩)
    (by kernel_rfl)
#print axioms restFilesUpto_holds
end Go.Proofs.YtkmlooepakinfaaGreatDoor
