/- RestTexts holds, in its second form, its listed variables tied to the program's text: for every list of texts, number, list of files and action of the bulk that the row names: what comes is the caller's own, what was handed in is as it was; no condition of ours. -/
import Derived.Test.YtcdgdmhlbgbklaaGreatDoorTg12
namespace Go.Proofs.YtcdgdmhlbgbklaaGreatDoor
open Go.ChangeShapes Go.WideShapes Go.ChangeAt Go.RowKit Go.Shelf Go.Sort
open Go.ChangeMaps (open_string shut_string)
attribute [local go_sem ↓] appS_eq

theorem laidOut : laidOutB Tryz.prog = true := by kernel_rfl
theorem row_up {w w' : World} {B : Nat} {t : TypeId} {s : Nat} {v : Value} {n : Nat} {xs : List Value} (h : w.ownsRow B t s v n xs) (hb : Below w.heap.size w w') : w'.ownsRow B t s v n xs := row_heap h fun b hb2 => hb.block b (h.lt b hb2).2
def RtP (w : World) (e : Ending) (w' : World) : Prop := e = .returned (.bool true) ∧ Below w.heap.size w w'
theorem fl_up {w w' : World} {ao : Option Addr} {L : List Fl} (h : IsFl w ao L) (hb : Below w.heap.size w w') : IsFl w' ao L := h.below hb (Nat.le_refl _)
/-- What the calls of one round answer, whatever came behind the copy. -/
structure RtC (L : List ByteArray) (i : Int) (F : List Fl) (lo fo : Option Addr) (lc fc g3 c3 : Nat) (W4 : World) (e1 e2 : Int) (P : List ByteArray) (D : List (List UInt8)) : Prop where
  proof : ∀ W, Below W4.heap.size W4 W → Calls Tryz.prog 7 #[.slice (some ⟨g3, 0, none⟩) L.length c3, .int .i64 i] W fun e w' => ∃ pa pc, e = .returned (.tuple #[.slice pa P.length pc, .int .i64 e1]) ∧ w'.ownsRow W.heap.size 9 1 (.slice pa P.length pc) P.length (Dg.scs P) ∧ Below W.heap.size W w'
  blobs : ∀ W, Below W4.heap.size W4 W → Calls Tryz.prog 8 #[.slice fo F.length fc] W fun e w' => ∃ pa pc, e = .returned (.tuple #[.slice pa D.length pc, .int .i64 e2]) ∧ w'.ownsRow W.heap.size 9 1 (.slice pa D.length pc) D.length (D.map encStr) ∧ Below W.heap.size W w'
  same : ∀ W, Below W4.heap.size W4 W → Calls Tryz.prog 9 #[.slice (some ⟨g3, 0, none⟩) L.length c3, .slice lo L.length lc] W fun e w' => e = .returned (.bool true) ∧ Hid (Below W.heap.size W w')
  proofOf : e1 = 0 → ∀ W, Below W4.heap.size W4 W → Calls Tryz.prog 10 #[.slice lo L.length lc, .int .i64 i] W fun e w' => ∃ pa pc, e = .returned (.slice pa P.length pc) ∧ w'.ownsRow W.heap.size 9 1 (.slice pa P.length pc) P.length (Dg.scs P) ∧ Below W.heap.size W w'
  treeBlobs : e2 = 0 → ∀ W, Below W4.heap.size W4 W → Calls Tryz.prog 11 #[.slice fo F.length fc] W fun e w' => ∃ pa pc, e = .returned (.slice pa D.length pc) ∧ w'.ownsRow W.heap.size 9 1 (.slice pa D.length pc) D.length (D.map encStr) ∧ Below W.heap.size W w'
  sameP : ∀ (W : World) (B B' : Nat) (xa ya : Option Addr) (xc yc : Nat), W.ownsRow B 9 1 (.slice xa P.length xc) P.length (Dg.scs P) → W.ownsRow B' 9 1 (.slice ya P.length yc) P.length (Dg.scs P) → Calls Tryz.prog 9 #[.slice xa P.length xc, .slice ya P.length yc] W fun e w' => e = .returned (.bool true) ∧ Hid (Below W.heap.size W w')
  sameD : ∀ (W : World) (B B' : Nat) (xa ya : Option Addr) (xc yc : Nat), W.ownsRow B 9 1 (.slice xa D.length xc) D.length (D.map encStr) → W.ownsRow B' 9 1 (.slice ya D.length yc) D.length (D.map encStr) → Calls Tryz.prog 9 #[.slice xa D.length xc, .slice ya D.length yc] W fun e w' => e = .returned (.bool true) ∧ Hid (Below W.heap.size W w')
  spoilP : ∀ (W : World) (B : Nat) (xa : Option Addr) (xc : Nat) (S : List Value), W.ownsRow B 9 1 (.slice xa P.length xc) P.length S → Calls Tryz.prog 12 #[.slice xa P.length xc] W fun e w' => e = .returned (.tuple #[]) ∧ Hid (W.grownBy w' (Value.slice xa P.length xc).ownBlock) ∧ Hid (KeepR W w')
  spoilD : ∀ (W : World) (B : Nat) (xa : Option Addr) (xc : Nat) (S : List Value), W.ownsRow B 9 1 (.slice xa D.length xc) D.length S → Calls Tryz.prog 12 #[.slice xa D.length xc] W fun e w' => e = .returned (.tuple #[]) ∧ Hid (W.grownBy w' (Value.slice xa D.length xc).ownBlock) ∧ Hid (KeepR W w')

theorem dn_below {w : World} (n : Nat) : Below w.heap.size w (w.drewN n) := ⟨rfl, rfl, rfl, Nat.le_refl _, fun _ _ => rfl⟩
theorem sameTx {W : World} {v u : Value} {ss : List ByteArray} (h : Dg.Tx W v ss) (h' : Dg.Tx W u ss) : Calls Tryz.prog 9 #[v, u] W fun e w' => e = .returned (.bool true) ∧ Hid (Below W.heap.size W w') := by
  refine (Dg.SameTexts_same v u ss W h h').mono ?_
  rintro e w' ⟨rfl, n, rfl⟩
  exact ⟨rfl, dn_below n⟩
theorem tl_tx (D : List (List UInt8)) : D.map encStr = Dg.scs (D.map fun l => (⟨l.toArray⟩ : ByteArray)) := by
  unfold Dg.scs
  rw [List.map_map]
  rfl
theorem bl_len {F : List Fl} (h : chF F = 0) : (blF F).length ≤ 1000000 := by
  have h1 := compact_len (((pkT1 F).2.map fun b => b.data.toList).mergeSort fun x y => decide (x ≤ y))
  have h2 := pkT1_len (okT_of h)
  rw [List.length_mergeSort, List.length_map] at h1
  show (Lib.compact _).length ≤ _
  omega
/-- What Blobs lists. -/
def bxL (F : List Fl) : List (List UInt8) := if chF F = 0 then blF F else []
theorem bxL_len (F : List Fl) : (bxL F).length ≤ 1000000 := by
  unfold bxL
  by_cases h : chF F = 0
  · rw [if_pos h]; exact bl_len h
  · rw [if_neg h]; exact Nat.zero_le _
theorem rtC {L : List ByteArray} {i : Int} {F : List Fl} {lo fo : Option Addr} {lc fc g3 c3 B3 : Nat} {W4 : World} {e1 : Int} {P : List ByteArray} (hpf : Dg.PfC L i e1 P) (hl : Dg.Tx W4 (.slice lo L.length lc) L) (hf : IsFl W4 fo F) (ht : W4.ownsRow B3 9 1 (.slice (some ⟨g3, 0, none⟩) L.length c3) L.length (Dg.scs L)) (he : Env W4) :
    RtC L i F lo fo lc fc g3 c3 W4 e1 (chF F) P (bxL F) := by
  have hT : Dg.Tx W4 (.slice (some ⟨g3, 0, none⟩) L.length c3) L := Dg.tx_own hl.1 ht
  have hP : P.length ≤ 2000 := hpf.2.2
  have hD := bxL_len F
  exact {
    proof := fun W hW => hpf.1 _ W (hT.up hW) (he.up hW).2
    blobs := fun W hW => by
      refine (Blobs_any fo fc F W (fl_up hf hW) (he.up hW)).mono ?_
      rintro e w' ⟨v, rfl, h1, h2, hb⟩
      unfold bxL
      by_cases h : chF F = 0
      · rw [if_pos h]
        have h3 := h1 h
        obtain ⟨a, c, rfl⟩ := own_shape h3
        exact ⟨a, c, rfl, h3, hb⟩
      · rw [if_neg h]
        obtain rfl := h2 h
        exact ⟨none, 0, rfl, World.ownsRow_nil _ _ _ _, hb⟩
    same := fun W hW => sameTx (hT.up hW) (hl.up hW)
    proofOf := fun h W hW => hpf.2.1 h _ W (hl.up hW)
    treeBlobs := fun h W hW => by
      have := TreeBlobs_any fo fc F W (okT_of h) (fl_up hf hW)
      unfold bxL
      rw [if_pos h]
      exact this
    sameP := fun W B B' xa ya xc yc h h' => sameTx (Dg.tx_own (by omega) h) (Dg.tx_own (by omega) h')
    sameD := fun W B B' xa ya xc yc h h' => by
      rw [tl_tx] at h h'
      have hlen : (bxL F).length = ((bxL F).map fun l => (⟨l.toArray⟩ : ByteArray)).length := by rw [List.length_map]
      rw [hlen] at h h' ⊢
      exact sameTx (Dg.tx_own (by rw [← hlen]; omega) h) (Dg.tx_own (by rw [← hlen]; omega) h')
    spoilP := fun W B xa xc S h => spoilK B xa _ xc S W h (by omega)
    spoilD := fun W B xa xc S h => spoilK B xa _ xc S W h (by omega) }

set_option maxHeartbeats 16000000 in
set_option maxRecDepth 100000 in
theorem rtexts_walk (lo fo : Option Addr) (lc fc : Nat) (L : List ByteArray) (i : Int) (F : List Fl) (ca oa : Option Addr) (ck ok : Nat) (cs os : List ByteArray) (inp : ByteArray) (f : Int) (w : World) (hl : Tx w (.slice lo L.length lc) L) (hln : lo = none → L = []) (hL : L.length ≤ 10000000) (hf : IsFl w fo F) (hc : IsTexts w (.slice ca cs.length ck) cs) (ho : IsTexts w (.slice oa os.length ok) os) (he : Env w) :
    Calls Tryz.prog 3 #[.slice lo L.length lc, .int .i64 i, .slice fo F.length fc, .agg #[.slice ca cs.length ck, .string inp, .slice oa os.length ok, .int .i64 f]] w (RtP w) := by
  obtain ⟨w0, hw0⟩ : ∃ w0, w0 = w.alloc (.cells #[.slice ca cs.length ck, .string inp, .slice oa os.length ok, .int .i64 f] 25) := ⟨_, rfl⟩
  obtain ⟨p, hp⟩ : ∃ p, p = w.heap.size := ⟨_, rfl⟩
  have hb0 : Below w.heap.size w w0 := by rw [hw0]; exact (Below.refl _ _).alloc (Nat.le_refl _) _
  have HB : Hid (Below w.heap.size w w0) := hb0
  have HA0 : Hid (Ac.ActAt w0 p (.slice ca cs.length ck) inp (.slice oa os.length ok) f ∧ p < w0.heap.size) := by
    refine ⟨?_, ?_⟩
    · rw [hw0, hp]; exact Ac.ActAt.new w (.slice ca cs.length ck) inp (.slice oa os.length ok) f
    · rw [hw0, hp]; simp
  have HIn : Hid (Tx w0 (.slice lo L.length lc) L ∧ IsFl w0 fo F ∧ IsTexts w0 (.slice ca cs.length ck) cs ∧ IsTexts w0 (.slice oa os.length ok) os ∧ Env w0) := ⟨hl.up hb0, fl_up hf hb0, hc.up hb0, ho.up hb0, he.up hb0⟩
  have HLn : Hid ((lo = none → L = []) ∧ L.length ≤ 10000000) := ⟨hln, hL⟩
  obtain ⟨e1, P, hpf⟩ := Dg.Proof_ex L i
  have HPf : Hid (Dg.PfC L i e1 P) := hpf
  clear hl hln hL hf hc ho he hb0 hpf
  go_enter Tryz.func3, Tryz.ntmps3
  go_wp2_with fail
  rw [← hw0, ← hp]
  refine (Dg.digestBegun_any w0 HIn.out.2.2.2.2.2).mono ?_
  rintro e w1 ⟨rfl, hb1⟩
  have HB1 : Hid (Below w0.heap.size w0 w1) := hb1
  clear hb1 hw0 hp
  go_wp2_with fail
  refine (wireBegun_any w1).mono ?_
  rintro e w2 ⟨rfl, hb2⟩
  have HB2 : Hid (Below w0.heap.size w0 w2) := HB1.out.trans (hb2.mono HB1.out.size)
  clear hb2
  go_wp2_with fail
  refine (treeBegun_any w2 (HIn.out.2.2.2.2.up HB2.out)).mono ?_
  rintro e w3 ⟨rfl, hb3⟩
  have HB3 : Hid (Below w0.heap.size w0 w3) := HB2.out.trans (hb3.mono HB2.out.size)
  clear hb3 HB1 HB2
  obtain ⟨g3, c3, w4, hap, HA4⟩ : ∃ g3 c3 w4, (appS #[22, 22] 22 #[.slice (some ⟨w3.heap.size, 0, none⟩) 0 0, .slice lo L.length lc]).run Tryz.prog (w3.alloc (.cells #[] 9)) = .ok (.slice (some ⟨g3, 0, none⟩) L.length c3) w4 ∧ Hid (w4.ownsRow w3.heap.size 9 1 (.slice (some ⟨g3, 0, none⟩) L.length c3) L.length (scs L) ∧ Below w3.heap.size w3 w4) := copyT (HIn.out.1.up HB3.out) HLn.out.1 HLn.out.2
  have HB4 : Hid (Below w0.heap.size w0 w4) := HB3.out.trans (HA4.out.2.mono HB3.out.size)
  have HC : Hid (RtC L i F lo fo lc fc g3 c3 w4 e1 (chF F) P (bxL F)) := rtC HPf.out (HIn.out.1.up HB4.out) (fl_up HIn.out.2.1 HB4.out) HA4.out.1 (HIn.out.2.2.2.2.up HB4.out)
  generalize chF F = e2 at *
  generalize bxL F = D at *
  go_wp2
  clear hap HA4 HB3 HPf HLn
  go_loopw [10] (fun i wr => ∃ k : Nat, k ≤ 2 ∧ i = .int .i64 (k : Int) ∧ Hid (Below w4.heap.size w4 wr)) (fun i _ => 2 - (RowKit.intOf i).toNat)
  case atStart => exact ⟨0, Nat.zero_le _, rfl, Below.refl _ _⟩
  case round =>
    obtain ⟨k, hk, rfl, HW⟩ := hrel
    by_cases hlt : k < 2
    · have hki : (k : Int) < 2 := by omega
      obtain ⟨k1, hk1⟩ : ∃ k1, k1 = k + 1 := ⟨_, rfl⟩
      have ek1 : (k : Int) + 1 = (k1 : Int) := by omega
      have ek2 : IntKind.i64.wrap (k1 : Int) = (k1 : Int) := by rw [IntKind.wrap_i64]; omega
      have HK1 : Hid (k1 = k + 1 ∧ k < 2) := ⟨hk1, hlt⟩
      clear hk hlt hk1
      go_wp2_with fail
      refine (HC.out.proof _ HW.out).mono ?_
      rintro e w6 ⟨pa, pc, rfl, hp6, hb6⟩
      have HB6 : Hid (Below w4.heap.size w4 w6) := HW.out.trans (hb6.mono HW.out.size)
      have HP6 : Hid (w6.ownsRow w4.heap.size 9 1 (.slice pa P.length pc) P.length (Dg.scs P)) := own_mono hp6 HW.out.size
      have HPl : Hid (∀ k, (Value.slice pa P.length pc).ownBlock = some k → w4.heap.size ≤ k) := fun k hk => (HP6.out.lt k hk).1
      clear hp6 hb6 HW
      go_wp2_with fail
      refine (HC.out.blobs _ HB6.out).mono ?_
      rintro e w7 ⟨qa, qc, rfl, hq7, hb7⟩
      have HB7 : Hid (Below w4.heap.size w4 w7) := HB6.out.trans (hb7.mono HB6.out.size)
      have HP7 : Hid (w7.ownsRow w4.heap.size 9 1 (.slice pa P.length pc) P.length (Dg.scs P)) := row_up HP6.out hb7
      have HQ7 : Hid (w7.ownsRow w4.heap.size 9 1 (.slice qa D.length qc) D.length (D.map encStr)) := own_mono hq7 HB6.out.size
      have HQl : Hid (∀ k, (Value.slice qa D.length qc).ownBlock = some k → w4.heap.size ≤ k) := fun k hk => (HQ7.out.lt k hk).1
      clear hq7 hb7 HB6 HP6
      go_wp2_with fail
      refine (HC.out.same _ HB7.out).mono ?_
      rintro e w8 ⟨rfl, hb8⟩
      have HB8 : Hid (Below w4.heap.size w4 w8) := HB7.out.trans (hb8.out.mono HB7.out.size)
      have HP8 : Hid (w8.ownsRow w4.heap.size 9 1 (.slice pa P.length pc) P.length (Dg.scs P)) := row_up HP7.out hb8.out
      have HQ8 : Hid (w8.ownsRow w4.heap.size 9 1 (.slice qa D.length qc) D.length (D.map encStr)) := row_up HQ7.out hb8.out
      clear hb8 HB7 HP7 HQ7
      by_cases he1 : e1 = 0
      · subst he1
        go_wp2_with fail
        refine (HC.out.proofOf rfl _ HB8.out).mono ?_
        rintro e w9 ⟨ua, uc, rfl, hu9, hb9⟩
        have HB9 : Hid (Below w4.heap.size w4 w9) := HB8.out.trans (hb9.mono HB8.out.size)
        have HP9 : Hid (w9.ownsRow w4.heap.size 9 1 (.slice pa P.length pc) P.length (Dg.scs P)) := row_up HP8.out hb9
        have HQ9 : Hid (w9.ownsRow w4.heap.size 9 1 (.slice qa D.length qc) D.length (D.map encStr)) := row_up HQ8.out hb9
        have HU9 : Hid (w9.ownsRow w8.heap.size 9 1 (.slice ua P.length uc) P.length (Dg.scs P)) := hu9
        clear hb9 hu9 HB8 HP8 HQ8
        go_wp2_with fail
        refine (HC.out.sameP _ _ _ _ _ _ _ HP9.out HU9.out).mono ?_
        rintro e w10 ⟨rfl, hb10⟩
        have HB10 : Hid (Below w4.heap.size w4 w10) := HB9.out.trans (hb10.out.mono HB9.out.size)
        have HP10 : Hid (w10.ownsRow w4.heap.size 9 1 (.slice pa P.length pc) P.length (Dg.scs P)) := row_up HP9.out hb10.out
        have HQ10 : Hid (w10.ownsRow w4.heap.size 9 1 (.slice qa D.length qc) D.length (D.map encStr)) := row_up HQ9.out hb10.out
        clear hb10 HB9 HP9 HQ9
        by_cases he2 : e2 = 0
        · subst he2
          go_wp2_with fail
          refine (HC.out.treeBlobs rfl _ HB10.out).mono ?_
          rintro e w11 ⟨ua, uc, rfl, hu11, hb11⟩
          have HB11 : Hid (Below w4.heap.size w4 w11) := HB10.out.trans (hb11.mono HB10.out.size)
          have HP11 : Hid (w11.ownsRow w4.heap.size 9 1 (.slice pa P.length pc) P.length (Dg.scs P)) := row_up HP10.out hb11
          have HQ11 : Hid (w11.ownsRow w4.heap.size 9 1 (.slice qa D.length qc) D.length (D.map encStr)) := row_up HQ10.out hb11
          have HU11 : Hid (w11.ownsRow w10.heap.size 9 1 (.slice ua D.length uc) D.length (D.map encStr)) := hu11
          clear hb11 hu11 HB10 HP10 HQ10
          go_wp2_with fail
          refine (HC.out.sameD _ _ _ _ _ _ _ HQ11.out HU11.out).mono ?_
          rintro e w12 ⟨rfl, hb12⟩
          have HB12 : Hid (Below w4.heap.size w4 w12) := HB11.out.trans (hb12.out.mono HB11.out.size)
          have HP12 : Hid (w12.ownsRow w4.heap.size 9 1 (.slice pa P.length pc) P.length (Dg.scs P)) := row_up HP11.out hb12.out
          have HQ12 : Hid (w12.ownsRow w4.heap.size 9 1 (.slice qa D.length qc) D.length (D.map encStr)) := row_up HQ11.out hb12.out
          clear hb12 HB11 HP11 HQ11
          go_wp2_with fail
          refine (HC.out.spoilP _ _ _ _ _ HP12.out).mono ?_
          rintro e w13 ⟨rfl, hg13, hk13⟩
          have HB13 : Hid (Below w4.heap.size w4 w13) := HB12.out.grown hg13.out HB12.out.size HPl.out
          obtain ⟨S13, hS13⟩ := hk13.out _ _ _ _ _ _ HQ12.out
          have HQ13 : Hid (w13.ownsRow w4.heap.size 9 1 (.slice qa D.length qc) D.length S13) := hS13
          clear hg13 hk13 hS13 HB12 HP12 HQ12
          go_wp2_with fail
          refine (HC.out.spoilD _ _ _ _ _ HQ13.out).mono ?_
          rintro e w14 ⟨rfl, hg14, hk14⟩
          have HB14 : Hid (Below w4.heap.size w4 w14) := HB13.out.grown hg14.out HB13.out.size HQl.out
          clear hg14 hk14 HB13 HQ13
          go_wp2
          refine ⟨⟨k1, by have := HK1.out; omega, rfl, HB14⟩, ?_⟩
          have := HK1.out
          simp [RowKit.intOf]; omega
        · have ne2 : (e2 == 0) = false := by simpa using he2
          go_wp2_with fail
          refine (HC.out.spoilP _ _ _ _ _ HP10.out).mono ?_
          rintro e w11 ⟨rfl, hg11, hk11⟩
          have HB11 : Hid (Below w4.heap.size w4 w11) := HB10.out.grown hg11.out HB10.out.size HPl.out
          obtain ⟨S11, hS11⟩ := hk11.out _ _ _ _ _ _ HQ10.out
          have HQ11 : Hid (w11.ownsRow w4.heap.size 9 1 (.slice qa D.length qc) D.length S11) := hS11
          clear hg11 hk11 hS11 HB10 HP10 HQ10
          go_wp2_with fail
          refine (HC.out.spoilD _ _ _ _ _ HQ11.out).mono ?_
          rintro e w12 ⟨rfl, hg12, hk12⟩
          have HB12 : Hid (Below w4.heap.size w4 w12) := HB11.out.grown hg12.out HB11.out.size HQl.out
          clear hg12 hk12 HB11 HQ11
          go_wp2
          refine ⟨⟨k1, by have := HK1.out; omega, rfl, HB12⟩, ?_⟩
          have := HK1.out
          simp [RowKit.intOf]; omega
      · have ne1 : (e1 == 0) = false := by simpa using he1
        by_cases he2 : e2 = 0
        · subst he2
          go_wp2_with fail
          refine (HC.out.treeBlobs rfl _ HB8.out).mono ?_
          rintro e w9 ⟨ua, uc, rfl, hu9, hb9⟩
          have HB9 : Hid (Below w4.heap.size w4 w9) := HB8.out.trans (hb9.mono HB8.out.size)
          have HP9 : Hid (w9.ownsRow w4.heap.size 9 1 (.slice pa P.length pc) P.length (Dg.scs P)) := row_up HP8.out hb9
          have HQ9 : Hid (w9.ownsRow w4.heap.size 9 1 (.slice qa D.length qc) D.length (D.map encStr)) := row_up HQ8.out hb9
          have HU9 : Hid (w9.ownsRow w8.heap.size 9 1 (.slice ua D.length uc) D.length (D.map encStr)) := hu9
          clear hb9 hu9 HB8 HP8 HQ8
          go_wp2_with fail
          refine (HC.out.sameD _ _ _ _ _ _ _ HQ9.out HU9.out).mono ?_
          rintro e w10 ⟨rfl, hb10⟩
          have HB10 : Hid (Below w4.heap.size w4 w10) := HB9.out.trans (hb10.out.mono HB9.out.size)
          have HP10 : Hid (w10.ownsRow w4.heap.size 9 1 (.slice pa P.length pc) P.length (Dg.scs P)) := row_up HP9.out hb10.out
          have HQ10 : Hid (w10.ownsRow w4.heap.size 9 1 (.slice qa D.length qc) D.length (D.map encStr)) := row_up HQ9.out hb10.out
          clear hb10 HB9 HP9 HQ9
          go_wp2_with fail
          refine (HC.out.spoilP _ _ _ _ _ HP10.out).mono ?_
          rintro e w11 ⟨rfl, hg11, hk11⟩
          have HB11 : Hid (Below w4.heap.size w4 w11) := HB10.out.grown hg11.out HB10.out.size HPl.out
          obtain ⟨S11, hS11⟩ := hk11.out _ _ _ _ _ _ HQ10.out
          have HQ11 : Hid (w11.ownsRow w4.heap.size 9 1 (.slice qa D.length qc) D.length S11) := hS11
          clear hg11 hk11 hS11 HB10 HP10 HQ10
          go_wp2_with fail
          refine (HC.out.spoilD _ _ _ _ _ HQ11.out).mono ?_
          rintro e w12 ⟨rfl, hg12, hk12⟩
          have HB12 : Hid (Below w4.heap.size w4 w12) := HB11.out.grown hg12.out HB11.out.size HQl.out
          clear hg12 hk12 HB11 HQ11
          go_wp2
          refine ⟨⟨k1, by have := HK1.out; omega, rfl, HB12⟩, ?_⟩
          have := HK1.out
          simp [RowKit.intOf]; omega
        · have ne2 : (e2 == 0) = false := by simpa using he2
          go_wp2_with fail
          refine (HC.out.spoilP _ _ _ _ _ HP8.out).mono ?_
          rintro e w9 ⟨rfl, hg9, hk9⟩
          have HB9 : Hid (Below w4.heap.size w4 w9) := HB8.out.grown hg9.out HB8.out.size HPl.out
          obtain ⟨S9, hS9⟩ := hk9.out _ _ _ _ _ _ HQ8.out
          have HQ9 : Hid (w9.ownsRow w4.heap.size 9 1 (.slice qa D.length qc) D.length S9) := hS9
          clear hg9 hk9 hS9 HB8 HP8 HQ8
          go_wp2_with fail
          refine (HC.out.spoilD _ _ _ _ _ HQ9.out).mono ?_
          rintro e w10 ⟨rfl, hg10, hk10⟩
          have HB10 : Hid (Below w4.heap.size w4 w10) := HB9.out.grown hg10.out HB9.out.size HQl.out
          clear hg10 hk10 HB9 HQ9
          go_wp2
          refine ⟨⟨k1, by have := HK1.out; omega, rfl, HB10⟩, ?_⟩
          have := HK1.out
          simp [RowKit.intOf]; omega
    · obtain rfl : k = 2 := by omega
      have HB5 : Hid (Below w0.heap.size w0 wr) := HB4.out.trans (HW.out.mono HB4.out.size)
      have HA5 : Hid (Ac.ActAt wr p (.slice ca cs.length ck) inp (.slice oa os.length ok) f ∧ p < wr.heap.size) := ⟨HA0.out.1.up HB5.out HA0.out.2, Nat.lt_of_lt_of_le HA0.out.2 HB5.out.size⟩
      clear hk hlt HW HB4 HC
      obtain ⟨p0, p1, p2, p3⟩ := HA5.out.1
      by_cases hok : Ac.aeC cs inp os f = 0
      · obtain ⟨_, _, _, k4, _⟩ := Ac.aeC_fit hok
        obtain ⟨n, rfl⟩ : ∃ n : Nat, f = n := ⟨f.toNat, by omega⟩
        have HK : Hid (Ac.aeC cs inp os n = 0) := hok
        clear hok k4
        have HAc : Hid (Calls Tryz.prog 13 #[Ac.Av (.slice ca cs.length ck) inp (.slice oa os.length ok) n] wr fun e w' => e = .returned (.tuple #[.string ⟨(Ac.pkA cs inp os n).toArray⟩, .int .i64 0]) ∧ Below wr.heap.size wr w') := Ac.Action_yes n (.slice ca cs.length ck) (.slice oa os.length ok) cs os inp wr (HIn.out.2.2.1.up HB5.out) (HIn.out.2.2.2.1.up HB5.out) (HIn.out.2.2.2.2.up HB5.out).1 HK.out
        have HRd : Hid (∀ W, Below w0.heap.size w0 W → Calls Tryz.prog 14 #[.string ⟨(Ac.pkA cs inp os n).toArray⟩] W fun e w' => ∃ ac cc ao co, e = .returned (.tuple #[Ac.Av (.slice ac cs.length cc) inp (.slice ao os.length co) n, .int .i64 0]) ∧ IsTexts w' (.slice ac cs.length cc) cs ∧ IsTexts w' (.slice ao os.length co) os ∧ (∃ S, w'.ownsRow W.heap.size 9 1 (.slice ac cs.length cc) cs.length S) ∧ (∃ S, w'.ownsRow W.heap.size 9 1 (.slice ao os.length co) os.length S) ∧ Below W.heap.size W w') := fun W hW => Ac.ReadAction_own n inp cs os W (HIn.out.2.2.2.2.up hW).1 HK.out
        have HNm : Hid (cs.length ≤ 1000000 ∧ os.length ≤ 1000000) := by
          obtain ⟨h1, h2, _⟩ := Ac.aeC_ok HK.out
          exact ⟨by omega, by omega⟩
        generalize (⟨(Ac.pkA cs inp os n).toArray⟩ : ByteArray) = sA at HAc HRd
        go_wp2_with fail
        refine HAc.out.mono ?_
        rintro e w9 ⟨rfl, hb9⟩
        have HB9 : Hid (Below w0.heap.size w0 w9) := HB5.out.trans (hb9.mono HB5.out.size)
        clear hb9 HB5 HA5 p0 p1 p2 p3 HAc
        go_wp2
        go_loopw [17] (fun i wz => ∃ k : Nat, k ≤ 2 ∧ i = .int .i64 (k : Int) ∧ Hid (Below w0.heap.size w0 wz)) (fun i _ => 2 - (RowKit.intOf i).toNat)
        case atStart => exact ⟨0, Nat.zero_le _, rfl, HB9⟩
        case round =>
          obtain ⟨k, hk, rfl, HZ⟩ := hrel
          by_cases hlt : k < 2
          · have hki : (k : Int) < 2 := by omega
            obtain ⟨k1, hk1⟩ : ∃ k1, k1 = k + 1 := ⟨_, rfl⟩
            have ek1 : (k : Int) + 1 = (k1 : Int) := by omega
            have ek2 : IntKind.i64.wrap (k1 : Int) = (k1 : Int) := by rw [IntKind.wrap_i64]; omega
            have HK1 : Hid (k1 = k + 1 ∧ k < 2) := ⟨hk1, hlt⟩
            clear hk hlt hk1
            go_wp2_with fail
            refine (HRd.out _ HZ.out).mono ?_
            rintro e wa ⟨ac, cc, ao, co, rfl, hxc, hxo, ⟨Sc, hSc⟩, ⟨So, hSo⟩, hba⟩
            have HBa : Hid (Below w0.heap.size w0 wa) := HZ.out.trans (hba.mono HZ.out.size)
            have HPa : Hid (Ac.ActAt wa p (.slice ca cs.length ck) inp (.slice oa os.length ok) n) := HA0.out.1.up HBa.out HA0.out.2
            have bx : Below wa.heap.size wa (wa.alloc (.cells #[.slice ac cs.length cc, .string inp, .slice ao os.length co, .int .i64 n] 25)) := (Below.refl _ _).alloc (Nat.le_refl _) _
            have XC : Hid (IsTexts (wa.alloc (.cells #[.slice ac cs.length cc, .string inp, .slice ao os.length co, .int .i64 n] 25)) (.slice ac cs.length cc) cs) := IsTexts.up hxc bx
            have XO : Hid (IsTexts (wa.alloc (.cells #[.slice ac cs.length cc, .string inp, .slice ao os.length co, .int .i64 n] 25)) (.slice ao os.length co) os) := IsTexts.up hxo bx
            have XA : Hid (Ac.ActAt (wa.alloc (.cells #[.slice ac cs.length cc, .string inp, .slice ao os.length co, .int .i64 n] 25)) wa.heap.size (.slice ac cs.length cc) inp (.slice ao os.length co) n) := Ac.ActAt.new wa _ inp _ n
            have XB : Hid (Below w0.heap.size w0 (wa.alloc (.cells #[.slice ac cs.length cc, .string inp, .slice ao os.length co, .int .i64 n] 25))) := HBa.out.trans (bx.mono HBa.out.size)
            have XRc : Hid ((wa.alloc (.cells #[.slice ac cs.length cc, .string inp, .slice ao os.length co, .int .i64 n] 25)).ownsRow w0.heap.size 9 1 (.slice ac cs.length cc) cs.length Sc) := row_up (own_mono hSc HZ.out.size) bx
            have XRo : Hid ((wa.alloc (.cells #[.slice ac cs.length cc, .string inp, .slice ao os.length co, .int .i64 n] 25)).ownsRow w0.heap.size 9 1 (.slice ao os.length co) os.length So) := row_up (own_mono hSo HZ.out.size) bx
            have Xlc : Hid (∀ k, (Value.slice ac cs.length cc).ownBlock = some k → w0.heap.size ≤ k ∧ k < wa.heap.size) := fun k hk => ⟨Nat.le_trans HZ.out.size (hSc.lt k hk).1, (hSc.lt k hk).2⟩
            have Xlo : Hid (∀ k, (Value.slice ao os.length co).ownBlock = some k → w0.heap.size ≤ k) := fun k hk => Nat.le_trans HZ.out.size (hSo.lt k hk).1
            have Xz : Hid (wa.heap.size < (wa.alloc (.cells #[.slice ac cs.length cc, .string inp, .slice ao os.length co, .int .i64 n] 25)).heap.size) := by show _ < _; simp
            have zp : p < wa.heap.size := Nat.lt_of_lt_of_le HA0.out.2 HBa.out.size
            have PX : Hid (Ac.ActAt (wa.alloc (.cells #[.slice ac cs.length cc, .string inp, .slice ao os.length co, .int .i64 n] 25)) p (.slice ca cs.length ck) inp (.slice oa os.length ok) n) := HPa.out.up bx zp
            clear hxc hxo hSc hSo hba bx HZ HBa
            obtain ⟨p0, p1, p2, p3⟩ := HPa.out
            obtain ⟨q0, q1, q2, q3⟩ := PX.out
            obtain ⟨y0, y1, y2, y3⟩ := XA.out
            go_wp2_with fail
            refine (Ac.sa_any _ _ _ _ cs os cs os inp inp n n _ (HIn.out.2.2.1.up XB.out) (HIn.out.2.2.2.1.up XB.out) XC.out XO.out).mono ?_
            rintro e wb ⟨rfl, hbb⟩
            rw [show decide (cs = cs ∧ inp = inp ∧ os = os ∧ (n : Int) = n) = true from by simp]
            have HBb : Hid (Below w0.heap.size w0 wb) := XB.out.trans (hbb.mono XB.out.size)
            have HAb : Hid (Ac.ActAt wb wa.heap.size (.slice ac cs.length cc) inp (.slice ao os.length co) n ∧ wa.heap.size < wb.heap.size) := ⟨XA.out.up hbb Xz.out, Nat.lt_of_lt_of_le Xz.out hbb.size⟩
            have HRc : Hid (wb.ownsRow w0.heap.size 9 1 (.slice ac cs.length cc) cs.length Sc) := row_up XRc.out hbb
            have HRo : Hid (wb.ownsRow w0.heap.size 9 1 (.slice ao os.length co) os.length So) := row_up XRo.out hbb
            clear hbb p0 p1 p2 p3 q0 q1 q2 q3 y0 y1 y2 y3 zp PX HPa XC XO XA XB XRc XRo Xz
            obtain ⟨x0, x1, x2, x3⟩ := HAb.out.1
            go_wp2_with fail
            refine (spoilK _ _ _ _ _ wb HRc.out HNm.out.1).mono ?_
            rintro e wc ⟨rfl, hgc, hkc⟩
            have HBc : Hid (Below w0.heap.size w0 wc) := HBb.out.grown hgc.out HBb.out.size fun k hk => (Xlc.out k hk).1
            obtain ⟨Sq, hSq⟩ := hkc.out _ _ _ _ _ _ HRo.out
            have HRq : Hid (wc.ownsRow w0.heap.size 9 1 (.slice ao os.length co) os.length Sq) := hSq
            have y2 : wc.cell? ⟨wa.heap.size, 2, none⟩ = some (.slice ao os.length co) := by
              rw [World.cell?_of_block (w := wb) (hgc.out.block wa.heap.size HAb.out.2 (fun h => by have := (Xlc.out _ h.symm).2; omega))]
              exact x2
            clear hgc hkc hSq HBb HRc HRo x0 x1 x2 x3 HAb
            go_wp2_with fail
            refine (spoilK _ _ _ _ _ wc HRq.out HNm.out.2).mono ?_
            rintro e wd ⟨rfl, hgd, _⟩
            have HBd : Hid (Below w0.heap.size w0 wd) := HBc.out.grown hgd.out HBc.out.size Xlo.out
            clear hgd HBc HRq y2
            go_wp2
            refine ⟨⟨k1, by have := HK1.out; omega, rfl, HBd⟩, ?_⟩
            have := HK1.out
            simp [RowKit.intOf]; omega
          · obtain rfl : k = 2 := by omega
            have HE : Hid (RtP w (.returned (.bool true)) wr) := ⟨rfl, HB.out.trans (HZ.out.mono HB.out.size)⟩
            clear hk hlt HZ HB9
            go_wp2
            go_ret
            exact HE.out
      · have HAc : Hid (Calls Tryz.prog 13 #[Ac.Av (.slice ca cs.length ck) inp (.slice oa os.length ok) f] wr fun e w' => e = .returned (.tuple #[.string ⟨#[]⟩, .int .i64 (Ac.aeC cs inp os f)]) ∧ Below wr.heap.size wr w') := Ac.Action_no f _ _ cs os inp wr (HIn.out.2.2.1.up HB5.out) (HIn.out.2.2.2.1.up HB5.out) (HIn.out.2.2.2.2.up HB5.out).1 hok
        have hne : (Ac.aeC cs inp os f != 0) = true := by rw [bne_iff_ne]; exact hok
        clear hok
        generalize Ac.aeC cs inp os f = r at hne HAc
        go_wp2_with fail
        refine HAc.out.mono ?_
        rintro e w9 ⟨rfl, hb9⟩
        have HE : Hid (RtP w (.returned (.bool true)) w9) := ⟨rfl, HB.out.trans ((HB5.out.trans (hb9.mono HB5.out.size)).mono HB.out.size)⟩
        clear hb9 HB5 HA5 p0 p1 p2 p3 HAc
        go_wp2
        go_ret
        exact HE.out

set_option maxRecDepth 100000 in
theorem rtexts_lifted (os : Os) (started : os.Started) (H : Type) (enc : TypeId × Value → H) (F : Stop.Interp) :
    ReturnsInHanded {} Tryz.checked os 3 .any ((Rows.OpenSpec.upto Rows.restTextsSpec).preRow enc Tryz.prog Tryz.f3 Rows.restTextsUptoRow.domain false Rows.restTextsUptoRow.laid) (((Rows.OpenSpec.upto Rows.restTextsSpec).at F).post enc Tryz.prog Tryz.f3 false true false false) := by
  refine returnsInHanded_of_row (C := Tryz.checked) (s := Rows.OpenSpec.upto Rows.restTextsSpec) own started (by kernel_rfl) Tryz.func3
    (witness_up (enc := enc) (C := Tryz.checked) (os := os) (World.laidAll Tryz.prog os Rows.restTextsUptoRow.laid) #[.slice none 0 0, .int .i64 0, .slice none 0 0, .agg #[.slice none 0 0, .string ByteArray.empty, .slice none 0 0, .int .i64 0]] (World.laidAll_os _ _ _)
      (World.shaped_of_ZipB (by kernel_rfl) (by kernel_rfl)) (by kernel_rfl)
      (OpenSpec.preRow_of_cond 8 (x := ([.nil, .lit (.int .i64 0), .nil, .agg [.nil, .lit (.string []), .nil, .lit (.int .i64 0)]], [], [])) (by kernel_rfl) (by kernel_rfl) (fun k hk => by cases hk; kernel_rfl) (by kernel_rfl)
        (by rw [MakeChecks.laidMetH_plain _ _ _ (by kernel_rfl)]; exact laidMet_laidAll _ (by kernel_rfl) (by kernel_rfl)))) ?_
  intro W base args ds gs before hval0 hW _ hcond hsz0 lies shape _
  have hval : ∀ (j : Nat) t v, Tryz.f3.params[j]? = some t → args[j]? = some v → Value.okWide Tryz.prog W .any base t v := hval0
  have hk := hcond _ rfl
  have hW' := hW
  obtain ⟨p, q, hA0, hV, rfl, hfz, hnd⟩ := hW
  have hA : DataW.TrodAll enc Tryz.prog W 0 (fun _ => true) true Tryz.f3.params.toList args.toList ds p := hA0
  have hsz : (DataW.weightsEach Tryz.prog (Tryz.f3.params.toList ++ Rows.restTextsSpec.plain.varTypes Tryz.prog) (ds ++ gs)).all (· ≤ reachBytes) = true := hsz0
  rw [Tryz.params3] at hA hval hsz
  obtain ⟨v0, v1, v2, v3, d0, d1, d2, d3, p0, p1, p2, p3, rfl, rfl, rfl, h0, h1, h2, h3⟩ := trodAll_four hA
  obtain ⟨rfl, rfl⟩ := trodVars_none hV
  have hu := of_decide_eq_true hk
  simp only [List.append_nil, Rows.uptoBulkAll] at hu
  obtain ⟨L, ht, ⟨lo, lc, rfl, hln⟩, htot⟩ := arg_texts_up (hval 0 22 v0 rfl rfl) h0 (by omega)
  have lt0 : ∀ x ∈ p0, x.block < W.heap.size := by obtain ⟨m, hm⟩ := h0; exact DataW.trod_lt m _ _ _ hm
  have hL := total_len L
  obtain ⟨i, rfl, rfl, rfl, w1⟩ := open_int Tryz.underlying3 (hval 1 3 v1 rfl rfl) h1
  have r2 : ∀ elems sp, d2 = .slice elems sp → elems.length ≤ 1048576 := fun elems sp he => by
    rw [he] at hu
    simp only [Rows.uptoBulk] at hu
    have := bulk_len elems
    omega
  obtain ⟨F, fo, fc, rfl, i2, _⟩ := arg_files_up (hval 2 23 v2 rfl rfl) h2 r2
  have lt2 : ∀ x ∈ p2, x.block < W.heap.size := by obtain ⟨m, hm⟩ := h2; exact DataW.trod_lt m _ _ _ hm
  obtain ⟨c, inp, o, f, cs, os', rfl, j0, j1, _⟩ := Ac.arg_action (hval 3 25 v3 rfl rfl) h3 (fun n hn => of_decide_eq_true (List.all_eq_true.1 hsz n (DataW.weights_mem_each (j := 3) rfl rfl n hn)))
  have lt3 : ∀ x ∈ p3, x.block < W.heap.size := by obtain ⟨m, hm⟩ := h3; exact DataW.trod_lt m _ _ _ hm
  obtain ⟨_, ca, ck, rfl, _⟩ := id j0
  obtain ⟨_, oa, ok, rfl, _⟩ := id j1
  clear hA0 hval0
  refine (rtexts_walk lo fo lc fc L i F ca oa ck ok cs os' inp f W ht hln (by omega) i2 j0 j1 (env_of lies shape)).mono fun e W' ⟨he, bel⟩ => ?_
  subst he
  exact ⟨_, rfl, _, _, _, [], _, [], hW', trodAll_mk1 (shut_bool Tryz.underlying4 _), trodAll_mk4 (Below.trod laidOut (by kernel_rfl) (of_decide_eq_true (by kernel_rfl)) h0 bel lt0) (shut_int Tryz.underlying3 w1) (Below.trod laidOut (by kernel_rfl) (of_decide_eq_true (by kernel_rfl)) h2 bel lt2) (Below.trod laidOut (by kernel_rfl) (of_decide_eq_true (by kernel_rfl)) h3 bel lt3), rfl, bel.frame _, fun h => by cases h⟩

theorem restTextsUpto_row : Rows.RestTextsUptoSaid :=
  OpenClaim.holds_of_cond 3 Tryz.f3 rfl rfl rfl rfl rfl rfl rfl ⟨rfl, rfl, rfl, rfl, rfl⟩ rfl rfl rfl rfl rfl (by kernel_rfl) Tryz.func3 (by kernel_rfl)
    (of_decide_eq_true (by kernel_rfl)) (by unfold Func.isWrapper; first | (rw [if_pos (by decide +kernel)]; kernel_rfl) | (rw [if_neg (by decide +kernel)]; exact ⟨rfl, rfl⟩))
    (fun os started H enc _ F => by rw [OpenClaim.pre_eq_preRow]; exact rtexts_lifted os started H enc F)

theorem restTextsUpto_holds : Rows.RestTextsUptoCardSaid :=
  Claim7.holds_tied_plain_at .later [] Rows.restTextsUptoCard.laidKinds true Rows.restTextsUptoCard.stood.harness false
    restTextsUpto_row (fun _ h => by cases h) (by kernel_rfl) (fun _ h => by cases h) restTextsUpto_row_tie rfl ⟨rfl, rfl⟩ (by kernel_rfl) rfl
    (fun f fn hf hfn => by
      obtain rfl : f = 3 := Option.some.inj ((show Tryz.prog.funcNamed Rows.restTextsUptoRow.func = some 3 by kernel_rfl).symm.trans hf) |>.symm
      obtain rfl : fn = Tryz.f3 := (Option.some.inj (Tryz.func3.symm.trans hfn)).symm
      exact ⟨by kernel_rfl, fun j t ht => by
        rw [Tryz.params3] at ht
        have hm : t ∈ [22, 3, 23, 25] := by simpa using Array.mem_of_getElem? ht
        have hall : ([22, 3, 23, 25].all fun u => !Tryz.prog.wantsStandIn u) = true := by kernel_rfl
        exact (show Tryz.prog.wantsStandIn t = false by simpa using List.all_eq_true.1 hall t hm)⟩)
    (by kernel_rfl)
#print axioms restTextsUpto_holds
end Go.Proofs.YtcdgdmhlbgbklaaGreatDoor
