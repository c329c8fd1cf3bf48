/- What the laws begin with, walked. -/
import Derived.Deep.AppendLies
import Derived.ProofKit
import Derived.OpenShut
import Derived.ShutString
import Derived.ChangeOld
import Derived.SliceStrings
import Derived.Below
import Derived.Test.YtankaiopdbcndaaGreatDoorTie
import Derived.Test.YtankaiopdbcndaaGreatDoorCards
import Derived.Lay
import Derived.HandedShaped
import Derived.SevenTiedAt
import Derived.Stop.Joined
import Derived.Shelf.Vars
import Derived.Deep.DeepHandedRow
import Derived.Test.YtankaiopdbcndaaGreatDoorTc6
namespace Go.Proofs.YtankaiopdbcndaaGreatDoor
open Go.RowKit Go.Shelf Go.Maps
theorem tx_nil (w : World) : TxIn w (.slice none 0 0) [] := ⟨⟨none, 0, 0, rfl⟩, Nat.zero_le _, none, 0, rfl, .inl rfl⟩
theorem tx_two (w : World) (x y : ByteArray) : TxIn (w.alloc (.cells #[.string x, .string y] 9)) (.slice (some ⟨w.heap.size, 0, none⟩) 2 2) [x, y] := by
  refine ⟨⟨_, _, _, rfl⟩, by simp, _, _, rfl, .inr ⟨w.heap.size, 0, rfl, by rw [World.size_alloc]; omega, fun j hj => ?_⟩⟩
  have h2 : j < 2 := hj
  rw [Lib.cell_of_heap (heap_alloc_new w _)]
  rcases (show j = 0 ∨ j = 1 by omega) with rfl | rfl <;> rfl
def W2 (w : World) : World := (w.alloc (.cells #[.string bB] 9)).alloc (.cells #[.string aB, nlS, .slice (some ⟨w.heap.size, 0, none⟩) 1 1, nlS, nlS, .string bB, nlS, nlS, nlS, nlS] 38)
theorem W2_at (w : World) : (W2 w).heap[w.heap.size + 1]? = some (.cells #[.string aB, nlS, .slice (some ⟨w.heap.size, 0, none⟩) 1 1, nlS, nlS, .string bB, nlS, nlS, nlS, nlS] 38 (0, 0)) := by
  unfold W2
  rw [← World.size_alloc w (.cells #[.string bB] 9)]
  exact heap_alloc_new _ _
theorem W2_below (w : World) : Below w.heap.size w (W2 w) := ((Below.refl _ w).alloc (Nat.le_refl _) _).alloc (by rw [World.size_alloc]; omega) _
theorem W2_size (w : World) : (W2 w).heap.size = w.heap.size + 2 := by unfold W2; rw [World.size_alloc, World.size_alloc]
theorem tg2_is (w : World) : IsTg (W2 w) (some ⟨w.heap.size + 1, 0, none⟩) (tg2 w.heap.size) := by
  have hz := W2_size w
  refine ⟨.inr ⟨_, _, rfl, by omega, fun j hj => ?_⟩, fun t ht => ?_, fun t ht => ?_⟩
  · have h2 : j < 2 := hj
    simp only [Lib.cell_of_heap (W2_at w)]
    rcases (show j = 0 ∨ j = 1 by omega) with rfl | rfl <;> exact ⟨rfl, rfl, rfl, rfl, rfl⟩
  · have hn : TxIn (W2 w) (.slice none 0 0) [] := tx_nil _
    rcases List.mem_cons.1 ht with rfl | ht
    · refine ⟨hn, ?_, hn, hn⟩
      exact (tx_one w bB).below ((Below.refl _ _).alloc (Nat.le_refl _) _) (Nat.le_refl _)
    · rw [List.mem_singleton.1 ht]
      exact ⟨hn, hn, hn, hn⟩
  · rcases List.mem_cons.1 ht with rfl | ht
    · exact (by decide : (⟨#[97]⟩ : ByteArray).size ≤ 1048576)
    · rw [List.mem_singleton.1 ht]
      exact (by decide : (⟨#[98]⟩ : ByteArray).size ≤ 1048576)
theorem tg2_sz (g : Nat) : ∀ t ∈ tg2 g, ∀ y ∈ t.ns, y.size ≤ maxLen := fun t ht y hy => by
  rcases List.mem_cons.1 ht with rfl | ht
  · rw [List.mem_singleton.1 (show y ∈ [bB] from hy)]
    decide
  · rw [List.mem_singleton.1 ht] at hy
    cases hy
theorem tg2_nm (g : Nat) : ∀ t ∈ tg2 g, (tnm t).length ≤ maxLen := fun t ht => by
  rcases List.mem_cons.1 ht with rfl | ht
  · exact (by decide : [(97 : UInt8)].length ≤ maxLen)
  · rw [List.mem_singleton.1 ht]
    exact (by decide : [(98 : UInt8)].length ≤ maxLen)
/-- Each of the four calls. -/
theorem bg_order (w w1 : World) (hb : Below (W2 w).heap.size (W2 w) w1) : Calls Tryz.prog 9 #[.slice (some ⟨w.heap.size + 1, 0, none⟩) 2 2] w1 fun e w' => ∃ v, e = .returned (.tuple #[v, .int .i64 0]) ∧ Hid (TxIn w' v [bB, aB] ∧ Below w1.heap.size w1 w') :=
  (Order_tw _ 2 (tg2 w.heap.size) w1 ((tg2_is w).below hb (Nat.le_refl _)) (by simp [tg2]) (tg2_sz _) (tg2_nm _)).mono fun e w' ⟨out, code, v, q1, q2, q3, q4⟩ => by
    obtain ⟨rfl, rfl⟩ := ls2 _ q1
    exact ⟨v, q2, row_tx q3 (by decide), q4⟩
theorem bg_users (w w1 : World) (hb : Below (W2 w).heap.size (W2 w) w1) : Calls Tryz.prog 22 #[.slice (some ⟨w.heap.size + 1, 0, none⟩) 2 2, .string bB] w1 fun e w' => ∃ v, e = .returned (.tuple #[v, .int .i64 0]) ∧ Hid (TxIn w' v [aB] ∧ Below w1.heap.size w1 w') :=
  (Users_tw _ 2 (tg2 w.heap.size) bB w1 ((tg2_is w).below hb (Nat.le_refl _)) (by simp [tg2]) (tg2_sz _) (tg2_nm _) (by decide) (by simp [tg2, tgA, tgB])).mono fun e w' ⟨out, code, v, q1, q2, q3, q4⟩ => by
    obtain ⟨rfl, rfl⟩ := us2 _ q1
    exact ⟨v, q2, row_tx q3 (by decide), q4⟩
theorem bg_depth (w w1 : World) (hb : Below (W2 w).heap.size (W2 w) w1) : Calls Tryz.prog 25 #[.slice (some ⟨w.heap.size + 1, 0, none⟩) 2 2, .string aB] w1 fun e w' => e = .returned (.tuple #[.int .i64 1, .int .i64 0]) ∧ Hid (Below w1.heap.size w1 w') :=
  (Depth_any _ 2 (tg2 w.heap.size) aB w1 ((tg2_is w).below hb (Nat.le_refl _)) (by simp [tg2]) (tg2_sz _) (tg2_nm _) (by decide)).mono fun e w' ⟨n, code, q1, q2, q4⟩ => by
    obtain ⟨rfl, rfl⟩ := dp2 _ q1
    exact ⟨q2, q4⟩
theorem bg_check (w w1 : World) (hm : MaxIs w1) (hb : Below (W2 w).heap.size (W2 w) w1) : Calls Tryz.prog 27 #[.slice (some ⟨w.heap.size + 1, 0, none⟩) 1 2, .slice none 0 0] w1 fun e w' => e = .returned (.tuple #[.string ⟨#[]⟩, .int .i64 5]) ∧ Hid (Below w1.heap.size w1 w') := by
  have h := (tg2_is w).below hb (Nat.le_refl _)
  have h1 : IsTg w1 (some ⟨w.heap.size + 1, 0, none⟩) [tgA w.heap.size] := by
    refine ⟨?_, fun t ht => h.tx t ?_, fun t ht => h.sz t ?_⟩
    · rcases h.at_ with e | ⟨g, o, e, hg, hc⟩
      · cases e
      · refine .inr ⟨g, o, e, hg, fun j hj => ?_⟩
        have e0 : j = 0 := by simp at hj; omega
        subst e0
        exact hc 0 (by simp [tg2])
    · rw [List.mem_singleton.1 ht]; exact List.mem_cons_self
    · rw [List.mem_singleton.1 ht]; exact List.mem_cons_self
  have := Check_bad (some ⟨w.heap.size + 1, 0, none⟩) 2 [tgA w.heap.size] w1 h1 (by simp) (fun t ht => tg2_sz w.heap.size t (by rw [List.mem_singleton.1 ht]; exact List.mem_cons_self)) hm (by rw [ck1]; decide)
  rw [ck1] at this
  exact this

set_option maxHeartbeats 4000000 in
set_option maxRecDepth 100000 in
theorem begun_any (w : World) (hm : MaxIs w) : Calls Tryz.prog 14 #[] w fun e w' => e = .returned (.bool true) ∧ Below w.heap.size w w' := by
  have HM : Hid (∀ w1, Below w.heap.size w w1 → MaxIs w1) := fun w1 hb => hm.up hb
  have H0 : Hid (Below w.heap.size w (W2 w)) := W2_below w
  have H1 := bg_order w
  have H2 := bg_users w
  have H3 := bg_depth w
  have H4 := fun w1 (h : Below w.heap.size w w1) => bg_check w w1 (HM.out w1 h)
  clear hm HM
  unfold bB aB at H1
  unfold bB aB at H2
  unfold aB at H3
  have HS1 : Hid (∀ w4 v, TxIn w4 v [bB, aB] → Calls Tryz.prog 32 #[v, .slice (some ⟨w4.heap.size, 0, none⟩) 2 2] (w4.alloc (.cells #[.string ⟨#[98]⟩, .string ⟨#[97]⟩] 9)) fun e w' => e = .returned (.bool true) ∧ Hid (Below w4.heap.size w4 w')) := fun w4 v h => (Same_yes v _ [bB, aB] _ (h.below ((Below.refl _ w4).alloc (Nat.le_refl _) _) (Nat.le_refl _)) (tx_two w4 bB aB)).mono fun e w' q => ⟨q.1, by
    have hA : Below w4.heap.size w4 (w4.alloc (.cells #[.string ⟨#[98]⟩, .string ⟨#[97]⟩] 9)) := (Below.refl _ w4).alloc (Nat.le_refl _) _
    exact hA.trans (q.2.out.mono hA.size)⟩
  have HS2 : Hid (∀ w4 v, TxIn w4 v [aB] → Calls Tryz.prog 32 #[v, .slice (some ⟨w4.heap.size, 0, none⟩) 1 1] (w4.alloc (.cells #[.string ⟨#[97]⟩] 9)) fun e w' => e = .returned (.bool true) ∧ Hid (Below w4.heap.size w4 w')) := fun w4 v h => (Same_yes v _ [aB] _ (h.below ((Below.refl _ w4).alloc (Nat.le_refl _) _) (Nat.le_refl _)) (tx_one w4 aB)).mono fun e w' q => ⟨q.1, by
    have hA : Below w4.heap.size w4 (w4.alloc (.cells #[.string ⟨#[97]⟩] 9)) := (Below.refl _ w4).alloc (Nat.le_refl _) _
    exact hA.trans (q.2.out.mono hA.size)⟩
  obtain ⟨U, hU⟩ : ∃ U, U = W2 w := ⟨_, rfl⟩
  have HU : Hid (Below w.heap.size w U) := by rw [hU]; exact H0
  rw [← hU] at H1 H2 H3 H4
  unfold W2 aB bB nlS at hU
  clear H0
  go_enter Tryz.func14, Tryz.ntmps14
  go_wp2_with fail
  rw [← hU]
  clear hU
  generalize w.heap.size + 1 = g at *
  refine (H1 U (Below.refl _ _)).mono ?_
  rintro e w1 ⟨v1, rfl, G1⟩
  clear H1
  go_wp2_with fail
  have B1 : Hid (Below U.heap.size U w1) := G1.out.2
  refine (H2 w1 B1.out).mono ?_
  rintro e w2 ⟨v2, rfl, G2⟩
  clear H2
  go_wp2_with fail
  have B2 : Hid (Below U.heap.size U w2) := B1.out.trans (G2.out.2.mono B1.out.size)
  refine (H3 w2 B2.out).mono ?_
  rintro e w3 ⟨rfl, G3⟩
  clear H3
  go_wp2_with fail
  have B3 : Hid (Below U.heap.size U w3) := B2.out.trans (G3.out.mono B2.out.size)
  refine (H4 w3 (HU.out.trans (B3.out.mono HU.out.size)) B3.out).mono ?_
  rintro e w4 ⟨rfl, G4⟩
  clear H4
  have T1 : TxIn w4 v1 [bB, aB] := ((G1.out.1.below G2.out.2 (Nat.le_refl _)).below G3.out (Nat.le_refl _)).below G4.out (Nat.le_refl _)
  have HC1 := HS1.out w4 v1 T1
  have HT2 : Hid (TxIn w4 v2 [aB]) := (G2.out.1.below G3.out (Nat.le_refl _)).below G4.out (Nat.le_refl _)
  have B4 : Hid (Below w.heap.size w w4) := (HU.out.trans (B3.out.mono HU.out.size)).trans (G4.out.mono (Nat.le_trans HU.out.size B3.out.size))
  clear T1 G1 G2 G3 G4 HS1 HU B1 B2 B3
  go_wp2_with fail
  refine HC1.mono ?_
  rintro e w5 ⟨rfl, G5⟩
  have HC2 := HS2.out w5 v2 (HT2.out.below G5.out (Nat.le_refl _))
  clear HC1 HS2
  go_wp2_with fail
  refine HC2.mono ?_
  rintro e w6 ⟨rfl, G6⟩
  have B5 := B4.out.trans (G5.out.mono B4.out.size)
  have B6 : Hid (Below w.heap.size w w6) := B5.trans (G6.out.mono B5.size)
  clear HC2 HT2 B4 B5 G5 G6
  go_wp2
  go_ret
  exact ⟨rfl, B6.out⟩
end Go.Proofs.YtankaiopdbcndaaGreatDoor

/- Targets turned round: all is told as it was. -/
namespace Go.Proofs.YtankaiopdbcndaaGreatDoor
open Go.RowKit Go.Shelf Go.Maps
theorem any_perm {α : Type} {a b : List α} (h : a.Perm b) (p : α → Bool) : a.any p = b.any p := by
  rw [Bool.eq_iff_iff, List.any_eq_true, List.any_eq_true]
  exact ⟨fun ⟨x, h1, h2⟩ => ⟨x, h.mem_iff.1 h1, h2⟩, fun ⟨x, h1, h2⟩ => ⟨x, h.mem_iff.2 h1, h2⟩⟩
theorem has_perm {L M : List Tg} (h : L.Perm M) (k : List UInt8) : Maps.has (ndD L) (.string k) = Maps.has (ndD M) (.string k) := by
  rw [Bool.eq_iff_iff, has_mem, has_mem]
  exact (h.map tnm).mem_iff
theorem ckN_perm {L M : List Tg} (h : L.Perm M) : ckN L = ckN M := by
  have e : (fun t : Tg => lckB (ndD L) t.ns) = fun t => lckB (ndD M) t.ns := by
    funext t
    unfold lckB
    congr 1
    funext y
    rw [has_perm h]
  unfold ckN
  rw [h.length_eq, any_perm h, e, any_perm h fun t => lckB (ndD M) t.ns]
  by_cases hn : (L.map tnm).Nodup
  · rw [if_pos hn, if_pos ((h.map tnm).nodup_iff.1 hn)]
  · rw [if_neg hn, if_neg fun h2 => hn ((h.map tnm).nodup_iff.2 h2)]
theorem ckW_perm {L M : List Tg} (h : L.Perm M) (x : ByteArray) : ckW L x = ckW M x := by
  unfold ckW
  rw [ckN_perm h, has_perm h]
theorem nfL_perm {L M : List Tg} (h : L.Perm M) (hn : (L.map tnm).Nodup) : nfL L = nfL M := by
  funext k
  by_cases hk : k ∈ L.map tnm
  · obtain ⟨t, ht, rfl⟩ := List.mem_map.1 hk
    rw [nfL_of hn ht, nfL_of ((h.map tnm).nodup_iff.1 hn) (h.mem_iff.1 ht)]
  · have h1 : Maps.has (ndD L) (.string k) = false := Bool.eq_false_iff.2 fun e => hk (has_mem.1 e)
    have h2 : Maps.has (ndD M) (.string k) = false := by rw [← has_perm h]; exact h1
    rw [nfL, nfL, tgF_none h1, tgF_none h2]
theorem ls_perm {L M : List Tg} (h : L.Perm M) {o o2 : List ByteArray} {c c2 : Int} (h1 : LsA (ckN L) (nfL L) (fun k => k ∈ L.map tnm) o c) (h2 : LsA (ckN M) (nfL M) (fun k => k ∈ M.map tnm) o2 c2) : o = o2 ∧ c = c2 := by
  rw [← ckN_perm h] at h2
  exact h1.uniq h2 (fun _ k => (h.map tnm).mem_iff) fun h0 k _ => by rw [nfL_perm h (ckN_ok.1 h0).nod]
theorem cn_perm {L M : List Tg} (h : L.Perm M) {x : ByteArray} {o o2 : List ByteArray} {c c2 : Int} (h1 : LsA (ckW L x) (nfL L) (CnS L x) o c) (h2 : LsA (ckW M x) (nfL M) (CnS M x) o2 c2) : o = o2 ∧ c = c2 := by
  rw [← ckW_perm h] at h2
  exact h1.uniq h2 (fun h0 k => by unfold CnS; rw [nfL_perm h (ckW_ok.1 h0).1.nod]) fun h0 k _ => by rw [nfL_perm h (ckW_ok.1 h0).1.nod]
theorem dp_perm {L M : List Tg} (h : L.Perm M) {x : ByteArray} {n n2 c c2 : Int} (h1 : DpA (ckW L x) (nfL L) (CnS L x) (tl x) n c) (h2 : DpA (ckW M x) (nfL M) (CnS M x) (tl x) n2 c2) : n = n2 ∧ c = c2 := by
  rw [← ckW_perm h] at h2
  exact h1.uniq h2 (fun h0 k => by unfold CnS; rw [nfL_perm h (ckW_ok.1 h0).1.nod]) fun h0 k _ => by rw [nfL_perm h (ckW_ok.1 h0).1.nod]
theorem us_perm {L M : List Tg} (h : L.Perm M) {x : ByteArray} {o o2 : List ByteArray} {c c2 : Int} (h1 : UsA (ckW L x) (UsT L x) o c) (h2 : UsA (ckW M x) (UsT M x) o2 c2) : o = o2 ∧ c = c2 := by
  rw [← ckW_perm h] at h2
  exact h1.uniq h2 fun h0 k => by unfold UsT; rw [nfL_perm h (ckW_ok.1 h0).1.nod, (h.map tnm).mem_iff]
/-- Targets, turned: those from k on, then the others. -/
def rotL (L : List Tg) (k : Nat) : List Tg := L.drop k ++ L.take k
theorem rotL_perm (L : List Tg) (k : Nat) : (rotL L k).Perm L := by
  unfold rotL
  exact List.perm_append_comm.trans (by rw [List.take_append_drop])
theorem out_len {L : List Tg} {c : Int} {S : List UInt8 → Prop} {o : List ByteArray} {e : Int} (h : LsA c (nfL L) S o e) (hs : c = 0 → ∀ k, S k → k ∈ L.map tnm) (hl : L.length ≤ 1048576) : o.length ≤ 1048576 := by
  rcases h with ⟨_, rfl, _⟩ | ⟨h0, ks, q, hq, ⟨_, rfl, _⟩ | ⟨h2, rfl, _⟩⟩
  · exact Nat.zero_le _
  · exact Nat.zero_le _
  · rw [h2]
    refine Nat.le_trans (hq.nod.length_le_of_subset (l₂ := L.map tnm) fun k hk => hs h0 k ((hq.mem k).1 hk)) ?_
    rw [List.length_map]
    exact hl
theorem us_len {L : List Tg} {x : ByteArray} {o : List ByteArray} {e : Int} (h : UsA (ckW L x) (UsT L x) o e) (hl : L.length ≤ 1048576) : o.length ≤ 1048576 := by
  rcases h with ⟨_, rfl, _⟩ | ⟨h0, _, q, hq⟩
  · exact Nat.zero_le _
  · have := (lt_nodup q).length_le_of_subset (l₂ := L.map tnm) fun k hk => ((hq k).1 hk).1
    rw [List.length_map, List.length_map] at this
    omega
theorem cn_in {L : List Tg} {x : ByteArray} (h : ckW L x = 0) : ∀ k, CnS L x k → k ∈ L.map tnm := fun k hk => by
  obtain ⟨hN, hx⟩ := ckW_ok.1 h
  refine hk (fun k => k ∈ L.map tnm) (fun j hj => by rw [hj]; exact hx) fun a ha y hy => ?_
  obtain ⟨z, hz, rfl⟩ := List.mem_map.1 hy
  exact hN.cl a ha z hz
end Go.Proofs.YtankaiopdbcndaaGreatDoor

/- Targets turned round, in memory: both appends. -/
namespace Go.Proofs.YtankaiopdbcndaaGreatDoor
open Go.RowKit Go.Shelf Go.Maps
attribute [local go_sem ↓] appG_eq2
def tgCells (L : List Tg) : List Value := L.flatMap tgC
theorem tgCells_app (A C : List Tg) : tgCells (A ++ C) = tgCells A ++ tgCells C := by simp [tgCells]
theorem tgCells_len (A : List Tg) : (tgCells A).length = A.length * 5 := by
  induction A with
  | nil => rfl
  | cons f l ih =>
    have e : tgCells (f :: l) = tgC f ++ tgCells l := rfl
    rw [e, List.length_append, ih, List.length_cons]
    simp [tgC]
    omega
theorem tgCells_get (L : List Tg) (j : Nat) (hj : j < L.length) (i : Nat) (hi : i < 5) : (tgCells L)[j * 5 + i]? = (tgC L[j])[i]? := by
  induction L generalizing j with
  | nil => simp at hj
  | cons f l ih =>
    have e : tgCells (f :: l) = tgC f ++ tgCells l := rfl
    rw [e]
    cases j with
    | zero => rw [Nat.zero_mul, Nat.zero_add, List.getElem?_append_left (by simpa [tgC] using hi)]; rfl
    | succ j =>
      have h5 : (tgC f).length = 5 := rfl
      rw [List.getElem?_append_right (by rw [h5]; omega), h5, show (j + 1) * 5 + i - 5 = j * 5 + i by omega]
      exact ih j (by simpa using hj)
theorem tgAt_cells {w : World} {g o : Nat} {F : List Tg} (h : TgAt g o F w) : ∀ j u, (tgCells F)[j]? = some u → w.cell? ⟨g, o + j, none⟩ = some u := fun j u hu => by
  have hj : j < (tgCells F).length := (List.getElem?_eq_some_iff.1 hu).1
  rw [tgCells_len] at hj
  have hq : j / 5 < F.length := by omega
  obtain ⟨h0, h1, h2, h3, h4⟩ := h (j / 5) hq
  have e2 : j = j / 5 * 5 + j % 5 := by omega
  have hm : j % 5 < 5 := by omega
  rw [e2, tgCells_get F (j / 5) hq (j % 5) hm] at hu
  rw [e2]
  generalize j % 5 = i at *
  rcases (show i = 0 ∨ i = 1 ∨ i = 2 ∨ i = 3 ∨ i = 4 by omega) with rfl | rfl | rfl | rfl | rfl
  · rw [← hu]; exact h0
  · rw [← hu, ← Nat.add_assoc]; exact h1
  · rw [← hu, ← Nat.add_assoc]; exact h2
  · rw [← hu, ← Nat.add_assoc]; exact h3
  · rw [← hu, ← Nat.add_assoc]; exact h4
theorem cells_tgAt {w : World} {g o : Nat} {F : List Tg} (h : ∀ j u, (tgCells F)[j]? = some u → w.cell? ⟨g, o + j, none⟩ = some u) : TgAt g o F w := fun j hj => by
  have k : ∀ i (hi : i < 5) u, (tgC F[j])[i]? = some u → w.cell? ⟨g, o + j * 5 + i, none⟩ = some u := fun i hi u hu => by
    rw [Nat.add_assoc]
    exact h _ u ((tgCells_get F j hj i hi).trans hu)
  exact ⟨k 0 (by omega) _ rfl, k 1 (by omega) _ rfl, k 2 (by omega) _ rfl, k 3 (by omega) _ rfl, k 4 (by omega) _ rfl⟩
theorem tgAt_drop {w : World} {g o : Nat} {F : List Tg} (h : TgAt g o F w) (k : Nat) : TgAt g (o + k * 5) (F.drop k) w := fun j hj => by
  have hj2 : k + j < F.length := by rw [List.length_drop] at hj; omega
  have e : o + k * 5 + j * 5 = o + (k + j) * 5 := by omega
  rw [e, List.getElem_drop]
  exact h (k + j) hj2
theorem tgAt_take {w : World} {g o : Nat} {F : List Tg} (h : TgAt g o F w) (k : Nat) : TgAt g o (F.take k) w := fun j hj => by
  have hj2 : j < F.length := by rw [List.length_take] at hj; omega
  rw [List.getElem_take]
  exact h j hj2
/-- Each list of a target is a slice. -/
def Sls (L : List Tg) : Prop := ∀ t ∈ L, IsSl t.vs ∧ IsSl t.vn ∧ IsSl t.vo ∧ IsSl t.vc
theorem sl_one {v : Value} (h : IsSl v) : v.oneCell' = true := by
  obtain ⟨ao, n, c, rfl⟩ := h
  rfl
theorem tgCells_one {L : List Tg} (h : Sls L) : ∀ u ∈ tgCells L, u.oneCell' = true := fun u hu => by
  obtain ⟨t, ht, hf⟩ := List.mem_flatMap.1 hu
  obtain ⟨h1, h2, h3, h4⟩ := h t ht
  simp [tgC] at hf
  rcases hf with rfl | rfl | rfl | rfl | rfl
  · rfl
  · exact sl_one h1
  · exact sl_one h2
  · exact sl_one h3
  · exact sl_one h4
theorem infTg : (Tryz.prog.info? 38).map (fun i => (i.zero, i.size, i.bytes)) = some (some (.agg #[.string ⟨#[]⟩, .slice none 0 0, .slice none 0 0, .slice none 0 0, .slice none 0 0]), 5, 112) := by kernel_rfl
theorem rot_ap {g o cap : Nat} {L : List Tg} {X Y : World} (hF : TgAt g o L X) (hg : g < X.heap.size) (hS : Sls L) (hY : Below X.heap.size X Y) (hE : Y.heap[X.heap.size]? = some (.cells #[] 38 (0, 0))) (hn : L.length ≤ 1048576) (k : Nat) (hk : k < L.length) :
    ∃ (v1 : Value) (rg rc : Nat) (w1 w2 : World), (appG #[22, 22] 22 #[.slice (some ⟨X.heap.size, 0, none⟩) 0 0, .slice (some ⟨g, o + k * 5, none⟩) (L.length - k) (cap - k)]).run Tryz.prog Y = .ok v1 w1 ∧
      (appG #[22, 22] 22 #[v1, .slice (some ⟨g, o, none⟩) k cap]).run Tryz.prog w1 = .ok (.slice (some ⟨rg, 0, none⟩) L.length rc) w2 ∧
      TgAt rg 0 (rotL L k) w2 ∧ rg < w2.heap.size ∧ Below X.heap.size X w2 := by
  obtain ⟨i0, hi, hz0, hz1, hz2⟩ := infoG infTg
  have hlt : X.heap.size < Y.heap.size := (Array.getElem?_eq_some_iff.1 hE).1
  have hFY : TgAt g o L Y := hF.below hY hg
  have hown0 : Y.ownsRow X.heap.size 38 5 (.slice (some ⟨X.heap.size, 0, none⟩) 0 0) 0 [] := ⟨rfl, .inr ⟨X.heap.size, 0, #[], rfl, Nat.le_refl _, hE, Nat.le_refl _, by decide, rfl, rfl⟩⟩
  obtain ⟨v1, w1, hr1, ho1, hg1', _⟩ := run_append_own (P := Tryz.prog) Y X.heap.size 22 22 38 i0 (.agg #[.string ⟨#[]⟩, .slice none 0 0, .slice none 0 0, .slice none 0 0, .slice none 0 0]) 5 112 Tryz.underlying22 hi hz0 hz1 hz2 rfl (by decide) (.slice (some ⟨X.heap.size, 0, none⟩) 0 0) 0 [] hown0 ⟨g, o + k * 5, none⟩ (L.length - k) (cap - k) (tgCells (L.drop k)) (by rw [tgCells_len, List.length_drop]) (fun j u hu => by rw [addr_add]; exact tgAt_cells (tgAt_drop hFY k) j u hu) (tgCells_one fun t ht => hS t (List.mem_of_mem_drop ht)) (by unfold maxLen; omega) (by omega) (by omega)
  have hw1 : Below X.heap.size X w1 := ⟨hg1'.os.trans hY.os, hg1'.tape.trans hY.tape, hg1'.output.trans hY.output, by have := hg1'.size; have := hY.size; omega, fun x hx => (hg1'.block x (by omega) (fun e => by simp [Value.ownBlock] at e; omega)).trans (hY.block x hx)⟩
  have hF1 : TgAt g o L w1 := hF.below hw1 hg
  have hs1 := hw1.size
  obtain ⟨v2, w2, hr2, ho2, hg2', _⟩ := run_append_own (P := Tryz.prog) w1 X.heap.size 22 22 38 i0 (.agg #[.string ⟨#[]⟩, .slice none 0 0, .slice none 0 0, .slice none 0 0, .slice none 0 0]) 5 112 Tryz.underlying22 hi hz0 hz1 hz2 rfl (by decide) v1 _ _ ho1 ⟨g, o, none⟩ k cap (tgCells (L.take k)) (by rw [tgCells_len, List.length_take]; omega) (fun j u hu => by rw [addr_add]; exact tgAt_cells (tgAt_take hF1 k) j u hu) (tgCells_one fun t ht => hS t (List.mem_of_mem_take ht)) (by unfold maxLen; omega) (by omega) (by omega)
  have el : 0 + (L.length - k) + k = L.length := by omega
  have ec : [] ++ tgCells (L.drop k) ++ tgCells (L.take k) = tgCells (rotL L k) := by rw [List.nil_append, ← tgCells_app]; rfl
  rw [el, ec] at ho2
  obtain ⟨rg, rc, hv2, hrg, hrg2⟩ := ho2.form (by omega)
  subst hv2
  refine ⟨v1, rg, rc, w1, w2, hr1, hr2, cells_tgAt fun j u hu => ?_, hrg2, hw1.grown hg2' hw1.size (fun x hx => (ho1.lt x hx).1)⟩
  have := ho2.cells rfl j u hu
  rwa [addr_add] at this
theorem rot_is {w w2 : World} {ao : Option Addr} {L : List Tg} {rg k : Nat} (h : IsTg w ao L) (hb : Below w.heap.size w w2) (hc : TgAt rg 0 (rotL L k) w2) (hg : rg < w2.heap.size) : IsTg w2 (some ⟨rg, 0, none⟩) (rotL L k) := by
  have h2 := h.below hb (Nat.le_refl _)
  exact ⟨.inr ⟨rg, 0, rfl, hg, hc⟩, fun t ht => h2.tx t ((rotL_perm L k).mem_iff.1 ht), fun t ht => h2.sz t ((rotL_perm L k).mem_iff.1 ht)⟩
theorem sls_of {w : World} {ao : Option Addr} {L : List Tg} (h : IsTg w ao L) : Sls L := fun t ht => ⟨(h.tx t ht).1.1, (h.tx t ht).2.1.1, (h.tx t ht).2.2.1.1, (h.tx t ht).2.2.2.1⟩
theorem appTN (g : Nat) (c : Nat) (W : World) (ao : Option Addr) : (appG #[22, 22] 22 #[.slice (some ⟨g, 0, none⟩) 0 0, .slice ao 0 c]).run Tryz.prog W = .ok (.slice (some ⟨g, 0, none⟩) 0 0) W := by
  obtain ⟨i0, hi, hz0, hz1, hz2⟩ := infoG infTg
  show (Builtin.append_ #[22, 22] 22 #[.slice (some ⟨g, 0, none⟩) 0 0, .slice ao 0 c]).run Tryz.prog W = _
  cases ao <;> simp [Builtin.append_, run_underlying Tryz.underlying22, sizeOf, typeInfo, hi, Builtin.lenOf, Builtin.firstCells, storeCells, loadCells, loadCellsFrom]
end Go.Proofs.YtankaiopdbcndaaGreatDoor

/- Targets turned round: the law's walk. -/
namespace Go.Proofs.YtankaiopdbcndaaGreatDoor
open Go.RowKit Go.Shelf Go.Maps
attribute [local go_sem ↓] appG_eq2
theorem Fine.rot {w w2 : World} {ao : Option Addr} {L : List Tg} {rg k : Nat} (h : Fine w ao L) (hb : Below w.heap.size w w2) (hc : TgAt rg 0 (rotL L k) w2) (hg : rg < w2.heap.size) : Fine w2 (some ⟨rg, 0, none⟩) (rotL L k) := by
  have hp := rotL_perm L k
  refine ⟨rot_is h.is hb hc hg, by rw [hp.length_eq]; exact h.len, fun t ht => h.sz t (hp.mem_iff.1 ht), fun t ht => h.nm t (hp.mem_iff.1 ht), ?_⟩
  rw [(hp.map fun t => t.ns.length).sum_nat]
  exact h.sum
theorem Fine.order {w : World} {ao : Option Addr} {L : List Tg} (h : Fine w ao L) (n cap : Nat) (hn : n = L.length) (W : World) (hb : Below w.heap.size w W) : Calls Tryz.prog 9 #[.slice ao n cap] W fun e w' => ∃ v code, e = .returned (.tuple #[v, .int .i64 code]) ∧ Hid (∃ out, LsA (ckN L) (nfL L) (fun k => k ∈ L.map tnm) out code ∧ TxIn w' v out ∧ Below W.heap.size W w') := by
  subst hn
  refine (Order_tw ao cap L W (h.below hb).is h.len h.sz h.nm).mono fun e w' ⟨out, code, v, q1, q2, q3, q4⟩ => ⟨v, code, q2, out, q1, row_tx q3 (out_len q1 (fun _ k hk => hk) h.len), q4⟩
theorem Fine.cone {w : World} {ao : Option Addr} {L : List Tg} (h : Fine w ao L) (n cap : Nat) (hn : n = L.length) (x : ByteArray) (hx : x.size ≤ maxLen) (W : World) (hb : Below w.heap.size w W) : Calls Tryz.prog 19 #[.slice ao n cap, .string x] W fun e w' => ∃ v code, e = .returned (.tuple #[v, .int .i64 code]) ∧ Hid (∃ out, LsA (ckW L x) (nfL L) (CnS L x) out code ∧ TxIn w' v out ∧ Below W.heap.size W w') := by
  subst hn
  refine (Cone_tw ao cap L x W (h.below hb).is h.len h.sz h.nm hx).mono fun e w' ⟨out, code, v, q1, q2, q3, q4⟩ => ⟨v, code, q2, out, q1, row_tx q3 (out_len q1 (fun h0 => cn_in h0) h.len), q4⟩
theorem Fine.users {w : World} {ao : Option Addr} {L : List Tg} (h : Fine w ao L) (n cap : Nat) (hn : n = L.length) (x : ByteArray) (hx : x.size ≤ maxLen) (W : World) (hb : Below w.heap.size w W) : Calls Tryz.prog 22 #[.slice ao n cap, .string x] W fun e w' => ∃ v code, e = .returned (.tuple #[v, .int .i64 code]) ∧ Hid (∃ out, UsA (ckW L x) (UsT L x) out code ∧ TxIn w' v out ∧ Below W.heap.size W w') := by
  subst hn
  refine (Users_tw ao cap L x W (h.below hb).is h.len h.sz h.nm hx h.sum).mono fun e w' ⟨out, code, v, q1, q2, q3, q4⟩ => ⟨v, code, q2, out, q1, row_tx q3 (us_len q1 h.len), q4⟩
theorem Fine.depth {w : World} {ao : Option Addr} {L : List Tg} (h : Fine w ao L) (n cap : Nat) (hn : n = L.length) (x : ByteArray) (hx : x.size ≤ maxLen) (W : World) (hb : Below w.heap.size w W) : Calls Tryz.prog 25 #[.slice ao n cap, .string x] W fun e w' => ∃ d code, e = .returned (.tuple #[.int .i64 d, .int .i64 code]) ∧ Hid (DpA (ckW L x) (nfL L) (CnS L x) (tl x) d code ∧ Below W.heap.size W w') := by
  subst hn
  refine (Depth_any ao cap L x W (h.below hb).is h.len h.sz h.nm hx).mono fun e w' ⟨d, code, q1, q2, q3⟩ => ⟨d, code, q2, q1, q3⟩
end Go.Proofs.YtankaiopdbcndaaGreatDoor

/- A slice of texts that came in as an argument. -/
namespace Go.Proofs.YtankaiopdbcndaaGreatDoor
open Go.ChangeShapes Go.WideShapes Go.ChangeAt Go.RowKit Go.Shelf
open Go.ChangeMaps (open_string shut_string)

theorem own : ownKnob Tryz.prog.godebug = none := by kernel_rfl
theorem laidOut : laidOutB Tryz.prog = true := by kernel_rfl
theorem bytesS : Tryz.prog.bytesOf 9 = 16 := by kernel_rfl
set_option maxRecDepth 100000 in
/-- A slice of texts that came in. -/
theorem arg_texts {H : Type} {enc : TypeId × Value → H} {W : World} {v : Value} {d : DataW H} {p : List MemPlace} {base : Nat}
    (hv : Value.okWide Tryz.prog W .any base 23 v) (h : DataW.Trod enc Tryz.prog W 0 (fun _ => true) true 23 v d p) (hr : ∀ elems sp, d = .slice elems sp → elems.length ≤ 4611686018427387904) : ∃ ss, IsTexts W v ss := by
  obtain ⟨a, len, cap, rfl⟩ := okWide_slice Tryz.underlying23 hv
  obtain ⟨fuel, hf⟩ := h
  rcases open_strings Tryz.underlying23 Tryz.underlying9 (by kernel_rfl) hf with ⟨hcs, _⟩ | ⟨x, l, c, ss, hcs, _, hl, hm, hz, hx, hcell, hws⟩
  · simp [Value.cells] at hcs
    obtain ⟨rfl, rfl, rfl⟩ := hcs
    exact ⟨[], by decide, none, 0, rfl, Or.inl rfl⟩
  · simp [Value.cells] at hcs
    obtain ⟨rfl, rfl, rfl⟩ := hcs
    have hz' : ss.length = cap := by simpa using hz
    have hlen : (ss.take len).length = len := by rw [List.length_take]; omega
    have hb : len ≤ 4611686018427387904 := by
      have := hr _ _ (congrArg Prod.fst hx)
      simp [Go.ChangeShapes.strs] at this
      omega
    refine ⟨ss.take len, by rw [hlen]; exact hb, some x, cap, by rw [hlen], ?_⟩
    by_cases h0 : len = 0
    · exact Or.inl (by rw [h0]; rfl)
    · obtain ⟨b, off, spot⟩ := x
      have hspot : spot = none := by simpa [Addr.add] using World.cell?_spot (hcell 0 (by omega))
      subst hspot
      refine Or.inr ⟨b, off, rfl, fun j hj => ?_⟩
      rw [hlen] at hj
      rw [← Go.WideShapes.add_plain, hcell j (by omega)]
      simp [List.getD, List.getElem?_eq_getElem (show j < ss.length by omega)]

theorem arg_len {H : Type} {ts : List TypeId} {ds : List (DataW H)} (hsz : (DataW.weightsEach Tryz.prog ts ds).all (· ≤ reachBytes) = true) (j : Nat) (d : DataW H) (ht : ts[j]? = some 23) (hd : ds[j]? = some d) :
    ∀ elems sp, d = .slice elems sp → elems.length ≤ 4611686018427387904 := fun elems sp he => by
  have h1 := sized_slice hsz (j := j) (t := 23) ht (by rw [hd, he]) Tryz.underlying23
  have h2 := reachBytes_lt
  rw [bytesS] at h1
  omega
end Go.Proofs.YtankaiopdbcndaaGreatDoor

/- A law whose row lists variables of the program: its wrap, the world's shape kept. -/
namespace Go.Proofs.YtankaiopdbcndaaGreatDoor
open Go.ChangeShapes Go.WideShapes Go.ChangeAt Go.RowKit Go.Shelf

/-- What is asked of a call in a world that can be met. -/
def Meets {H : Type} (enc : TypeId × Value → H) (f : FuncId) (fn : Func) (s : ChangeSpec) (laid : List (String × DataW Unit)) : Prop :=
  ∀ (W : World) (base : Nat) (args : Array Value) (ds gs : List (DataW H)) (before : List MemPlace),
    (∀ (j : Nat) t v, fn.params[j]? = some t → args[j]? = some v → Value.okWide Tryz.prog W .any base t v) →
    DataW.Whole enc Tryz.prog fn.params.toList s.vars false W args.toList ds gs before →
    (DataW.weightsEach Tryz.prog (fn.params.toList ++ s.plain.varTypes Tryz.prog) (ds ++ gs)).all (· ≤ reachBytes) = true →
    laidMetH Tryz.prog laid W → W.ShapedOpen Tryz.prog →
    Calls Tryz.prog f args W fun e W' => ∃ v, e = .returned v ∧ s.post enc Tryz.prog fn false true false false W args v W'

set_option maxRecDepth 100000 in
theorem returns_laid {H : Type} {enc : TypeId × Value → H} {os : Os} {f : FuncId} {fn : Func} {s : ChangeSpec} {conds : List PathCond} {laid : List (String × DataW Unit)}
    (own : ownKnob Tryz.prog.godebug = none) (started : os.Started) (noInit : Tryz.checked.prog.inits.idxOf? f = none) (hfn : Tryz.checked.prog.funcs[f]? = some fn)
    (start : ∃ (w : World) (tape : Tape) (i : Input), w.os = os ∧ (w.forCall tape i).Shaped Tryz.checked.prog ∧ i.vars = [] ∧ Input.okWide Tryz.checked.prog (w.forCall tape i) .any w.heap.size f i ∧
      ((s.pre enc Tryz.checked.prog fn conds false (w.forCall tape i).memory i.args ∧ laidMetH Tryz.prog laid (w.forCall tape i).memory) ∧ sizedMet enc Tryz.checked.prog fn (OpenSpec.ofChange s) false (w.forCall tape i).memory i.args) ∧ Assume.holds {} Tryz.checked.prog (lone (Frame.enter Tryz.checked.prog f i.args .normal) [] (w.forCall tape i)))
    (meets : Meets enc f fn s laid) :
    ReturnsInHanded {} Tryz.checked os f .any (fun w args => (s.pre enc Tryz.prog fn conds false w args ∧ laidMetH Tryz.prog laid w) ∧ sizedMet enc Tryz.prog fn (OpenSpec.ofChange s) false w args) (s.post enc Tryz.prog fn false true false false) := by
  refine returnsInHanded_of_calls own started noInit start fun w tape i _ shape _ wide met _ => ?_
  obtain ⟨_, _, _, fn', h, _, _, _, _, vals⟩ := wide
  cases Option.some.inj (h.symm.trans hfn)
  obtain ⟨⟨⟨ds, gs, before, whole, _⟩, lies⟩, sized⟩ := met
  refine (meets (w.forCall tape i) w.heap.size i.args ds gs before vals (DataW.Whole.of_heap (w' := w.forCall tape i) (by rfl) whole) (sized.weights whole) (laidMetH.of_heap (by rfl) lies) shape).mono ?_
  rintro e W' ⟨v, rfl, post⟩
  exact ChangeSpec.post_blind post

set_option maxRecDepth 100000 in
theorem max_of_shaped {W : World} (h : W.ShapedOpen Tryz.prog) : MaxIs W :=
  cell_of_shapedOpen_int (t := 3) (zero := #[.int .i64 0]) h (by decide +kernel) (by kernel_rfl) rfl (by kernel_rfl) (by kernel_rfl) Tryz.underlying3
end Go.Proofs.YtankaiopdbcndaaGreatDoor

/- The second form of a row that lists variables, the world's shape kept: its witness. -/
namespace Go.Proofs.YtankaiopdbcndaaGreatDoor
open Go.ChangeShapes Go.WideShapes Go.ChangeAt Go.RowKit Go.Shelf

theorem witness_up {H : Type} {enc : TypeId × Value → H} {C : Checked} {os : Os} {f : FuncId} {fn : Func} {s : OpenSpec} {conds : List PathCond} {apart : Bool} {laid : List (String × DataW Unit)} (w0 : World) (args : Array Value) (hos : w0.os = os)
    (hsh : (w0.forCall (fun _ _ => 0) ⟨#[], args, []⟩).Shaped C.prog)
    (hok : Input.okWideB C.prog (w0.forCall (fun _ _ => 0) ⟨#[], args, []⟩) f ⟨#[], args, []⟩ = true)
    (hrow : s.preRow enc C.prog fn conds apart laid (w0.forCall (fun _ _ => 0) ⟨#[], args, []⟩).memory args) :
    ∃ (w : World) (tape : Tape) (i : Input), w.os = os ∧ (w.forCall tape i).Shaped C.prog ∧ i.vars = [] ∧ Input.okWide C.prog (w.forCall tape i) .any w.heap.size f i ∧
      s.preRow enc C.prog fn conds apart laid (w.forCall tape i).memory i.args ∧ ({} : Assume).holds C.prog (lone (Frame.enter C.prog f i.args .normal) [] (w.forCall tape i)) :=
  ⟨w0, fun _ _ => 0, ⟨#[], args, []⟩, hos, hsh, (Input.okWide_of_okWideB (base := 0) hok).1, (Input.okWide_of_okWideB hok).2, hrow, by
    simp only [Assume.holds]
    exact ⟨by simp, by simp, fun _ => Modest.zero, by simp, by simp⟩⟩
end Go.Proofs.YtankaiopdbcndaaGreatDoor
