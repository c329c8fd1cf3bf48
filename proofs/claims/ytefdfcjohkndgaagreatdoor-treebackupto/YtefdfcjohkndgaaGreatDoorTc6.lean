/- Flat: of a tree's texts. -/
import Derived.Deep.QuietTactic
import Derived.BigQuiet
import Derived.BigRegion
import Derived.ProofKit
import Derived.OpenShut
import Derived.ShutString
import Derived.ChangeOld
import Derived.SliceStrings
import Derived.Below
import Derived.Lib.SmallJoins
import Derived.Defers
import Derived.Recover
import Derived.Laws.Pointers
import Derived.Test.YtefdfcjohkndgaaGreatDoorTc5
namespace Go.Proofs.YtefdfcjohkndgaaGreatDoor
open Go.RowKit Go.Shelf Go.Maps Go.WideMaps Go.Sort Go.Lib
attribute [local go_sem ↓] appS_eq

set_option maxHeartbeats 2000000 in
set_option maxRecDepth 100000 in
theorem comparePaths_w (a b : Fl) (w : World) :
    Calls Tryz.prog 31 #[.agg #[.string a.pa, .string a.tx, .bool a.rn], .agg #[.string b.pa, .string b.tx, .bool b.rn]] w fun e w' => e = .returned (.int .i64 (cmpB a.pa b.pa)) ∧ w' = (w.alloc (.cells #[.string a.pa, .string a.tx, .bool a.rn] 44)).alloc (.cells #[.string b.pa, .string b.tx, .bool b.rn] 44) := by
  obtain ⟨p, t, r⟩ := a
  obtain ⟨p2, t2, r2⟩ := b
  have HC : Hid (∀ W, Calls Tryz.prog 63 #[.string p, .string p2] W fun e w' => e = .returned (.int .i64 (cmpB p p2)) ∧ w' = W) := Compare_s p p2
  simp only
  generalize cmpB p p2 = r9 at *
  go_enter Tryz.func31, Tryz.ntmps31
  go_wp2_with (first | (go_at_call 63; refine (HC.out _).mono ?_; rintro e w1 ⟨rfl, hw⟩; subst w1) | go_in)
  go_ret
  exact ⟨rfl, rfl⟩

def encT (x : ByteArray × ByteArray × Bool) : List Value := [.string x.1, .string x.2.1, .bool x.2.2]
def tri (f : Fl) : ByteArray × ByteArray × Bool := (f.pa, f.tx, f.rn)
def ofT (x : ByteArray × ByteArray × Bool) : Fl := ⟨x.1, x.2.1, x.2.2⟩
theorem flT (F : List Fl) : flCells F = (F.map tri).flatMap encT := by
  unfold flCells
  rw [List.flatMap_map]
  rfl
theorem encT_one (x : ByteArray × ByteArray × Bool) : ∀ v ∈ encT x, v.oneCell' = true := by
  intro v hv
  simp [encT] at hv
  rcases hv with rfl | rfl | rfl <;> rfl
theorem ltT (x y : ByteArray × ByteArray × Bool) : ltOf (fun x y : ByteArray × ByteArray × Bool => cmpB x.1 y.1) x y = decide (x.1.data.toList < y.1.data.toList) := cmpB_neg x.1 y.1
theorem swoT : SWO (ltOf fun x y : ByteArray × ByteArray × Bool => cmpB x.1 y.1) where
  irrefl x := by rw [ltT]; simp [List.lt_irrefl]
  trans x y z h1 h2 := by
    rw [ltT, decide_eq_true_eq] at *
    exact List.lt_trans h1 h2
  ntrans x y z h1 h2 := by
    rw [ltT, decide_eq_false_iff_not] at *
    exact fun h3 => h2 (by
      rcases Decidable.em (y.1.data.toList < z.1.data.toList) with h | h
      · exact h
      · exfalso
        exact h1 (by
          rcases Decidable.em (x.1.data.toList < y.1.data.toList) with h4 | h4
          · exact h4
          · exact absurd h3 (List.not_lt.2 (List.le_trans (List.not_lt.1 h) (List.not_lt.1 h4)))))
theorem sort_files_uniq {L d : List Fl} (hL : L.Pairwise fun f g => pth f < pth g) (hp : d.Perm L) (hs : d.Pairwise fun f g => pth f ≤ pth g) : d = L := by
  refine List.Perm.eq_of_pairwise (le := fun f g => pth f ≤ pth g) (fun a b ha hb h1 h2 => ?_) hs (hL.imp fun h => List.le_of_lt h) hp
  have e := List.le_antisymm h1 h2
  obtain ⟨i, hi, rfl⟩ := List.getElem_of_mem (hp.mem_iff.1 ha)
  obtain ⟨j, hj, rfl⟩ := List.getElem_of_mem hb
  have hq := List.pairwise_iff_getElem.1 hL
  rcases Nat.lt_trichotomy i j with hij | hij | hij
  · have := hq i j hi hj hij; rw [e] at this; exact absurd this (List.lt_irrefl _)
  · subst hij; rfl
  · have := hq j i hj hi hij; rw [e] at this; exact absurd this (List.lt_irrefl _)

/-- Files that are a tree's, sorted, are as they were. -/
theorem sortFiles {B : Nat} {F L : List Fl} {v : Value} {w : World} (h : w.ownsRow B 44 3 v F.length (flCells F)) (hL : L.Pairwise fun f g => pth f < pth g) (hp : F.Perm L) (hl : F.length ≤ 1000000) :
    Calls Tryz.prog 30 #[v, .func (.func 31) #[] #[]] w fun e w' => e = .returned (.tuple #[]) ∧ w'.ownsRow B 44 3 v L.length (flCells L) ∧ w.grownBy w' v.ownBlock := by
  have hh := h
  rcases h.2 with ⟨rfl, h0⟩ | ⟨g, cap, cur, rfl, hbase, hb, _⟩
  · have e : F = [] := List.length_eq_zero_iff.1 h0
    subst e
    have e2 : L = [] := List.Perm.eq_nil hp.symm
    subst e2
    refine (sortFF_none none 0 _ w).mono ?_
    rintro e w' ⟨rfl, rfl⟩
    exact ⟨rfl, hh, ⟨rfl, rfl, rfl, Nat.le_refl _, fun _ _ _ => rfl⟩⟩
  · rw [flT] at hh
    have hlen : F.length = (F.map tri).length := by simp
    have hH : HoldsK encT 3 w g 0 (F.map tri).toArray := holdsK_row encT (fun x => .string x.1) (fun x => .string x.2.1) (fun x => .bool x.2.2) (fun _ => rfl) (F.map tri) hlen hh
    have hc : CmpLays Tryz.prog 31 #[] encT 3 (fun x y : ByteArray × ByteArray × Bool => cmpB x.1 y.1) g 0 (F.map tri).toArray.size w := fun m os dk _ x y => by
      refine (comparePaths_w (ofT x) (ofT y) _).mono ?_
      rintro e w' ⟨rfl, rfl⟩
      exact ⟨rfl, 0, _, by rw [alloc_eq_grow, alloc_eq_grow, grow_grow]; rfl⟩
    have := sortFF_any encT (fun _ => rfl) encT_one (fun x y : ByteArray × ByteArray × Bool => cmpB x.1 y.1) swoT 31 #[] g 0 cap (F.map tri).toArray w (enters_of Tryz.func31 (by kernel_rfl) rfl) hc hH (Array.getElem?_eq_some_iff.1 hb).1 (by simp; omega)
    rw [show (F.map tri).toArray.size = F.length from by simp] at this
    refine this.mono ?_
    rintro e w' ⟨rfl, d', m, os, hpp, hs, rfl⟩
    have e1 : d'.size = F.length := by rw [hpp.1]; simp
    have hp2 : d'.toList.Perm (F.map tri) := by
      have := hpp.2.2
      have e2 : List.take F.length d'.toList = d'.toList := List.take_of_length_le (by rw [Array.length_toList]; omega)
      have e3 : List.take F.length (F.map tri) = F.map tri := List.take_of_length_le (by simp)
      simpa [hpp.1, e2, e3] using this
    have hs2 : (d'.toList.map ofT).Pairwise fun a b => pth a ≤ pth b := by
      rw [List.pairwise_map, List.pairwise_iff_getElem]
      intro i j hi hj hij
      have hi' : i < d'.size := by simpa using hi
      have hj' : j < d'.size := by simpa using hj
      have h1 := hs i j (Nat.zero_le _) hij (by omega)
      rw [ltT, decide_eq_false_iff_not, getElem!_pos d' i hi', getElem!_pos d' j hj'] at h1
      show d'.toList[i].1.data.toList ≤ d'.toList[j].1.data.toList
      rw [Array.getElem_toList, Array.getElem_toList]
      exact List.not_lt.1 h1
    have hot : ∀ l : List Fl, (l.map tri).map ofT = l := fun l => by rw [List.map_map]; exact List.map_id' l
    have hto : ∀ l : List (ByteArray × ByteArray × Bool), (l.map ofT).map tri = l := fun l => by rw [List.map_map]; exact List.map_id' l
    have e : d'.toList.map ofT = L := sort_files_uniq hL (by
      have := hp2.map ofT
      rw [hot] at this
      exact this.trans hp) hs2
    have e4 : d'.toList = L.map tri := by rw [← e, hto]
    have hput := rowK_put (m := m) (os := os) encT (fun x => .string x.1) (fun x => .string x.2.1) (fun x => .bool x.2.2) (fun _ => rfl) (F.map tri) (L.map tri) hlen (by simp [hp.length_eq]) hh
    rw [← e4, Array.toArray_toList] at hput
    refine ⟨rfl, ?_, hput.2⟩
    rw [flT, ← hp.length_eq, ← e4]
    exact hput.1

set_option maxHeartbeats 2000000 in
set_option maxRecDepth 100000 in
theorem idxL_any (ao : Option Addr) (cap : Nat) (bs : List ByteArray) (w : World) (hn : bs.length ≤ 4611686018427387904) (hl : IsTxs w ao bs) :
    Calls Tryz.prog 58 #[.slice ao bs.length cap, .func (.func 26) #[] #[]] w (IdxP (bs.any fun b => decide (100000 < b.size)) w) := by
  have HL : Hid (IsTxs w ao bs) := hl
  have hn1 : (bs.length : Int) ≤ 4611686018427387904 := by omega
  clear hl
  go_enter Tryz.func58, Tryz.ntmps58
  go_wp2
  go_loopw [8] (fun i wr => ∃ k : Nat, k ≤ bs.length ∧ i = .int .i64 k ∧ (∀ j, (hj : j < bs.length) → j < k → ¬ 100000 < bs[j].size) ∧ wr = w) (fun i _ => bs.length - (intOf i).toNat)
  case atStart => exact ⟨0, by omega, rfl, by omega, rfl⟩
  case round =>
    obtain ⟨k, hk, rfl, hlo, rfl⟩ := hrel
    have HN : Hid (∀ j, (hj : j < bs.length) → j < k → ¬ 100000 < bs[j].size) := hlo
    clear hlo
    by_cases hlt : k < bs.length
    · rcases HL.out with h | ⟨g, o, rfl, hg, hc⟩
      · exfalso; rw [h] at hlt; exact absurd hlt (by simp)
      have c0 := hc k hlt
      have HP : Hid (100000 < bs[k].size → (bs.any fun b => decide (100000 < b.size)) = true) := fun h => List.any_eq_true.2 ⟨bs[k], List.getElem_mem hlt, decide_eq_true h⟩
      generalize hx : bs[k] = x at c0 HP
      have HX : Hid (bs[k] = x) := hx
      have HT : Hid (∀ W, Calls Tryz.prog 26 #[.string x] W fun e w' => e = .returned (.bool (decide (100000 < x.size))) ∧ w' = W) := tisTooLong_any x
      clear hx hc
      by_cases hb : 100000 < x.size
      · have HB : Hid (100000 < x.size) := hb
        rw [decide_eq_true hb] at HT
        clear hb
        go_wp2_with (first | (go_at_call 26; refine (HT.out _).mono ?_; rintro e w1 ⟨rfl, rfl⟩) | go_in)
        go_ret
        refine ⟨k, rfl, ?_, Below.refl _ _⟩
        rw [HP.out HB.out]
        simp
      · have HB : Hid (¬ 100000 < x.size) := hb
        rw [decide_eq_false hb] at HT
        clear hb
        go_wp2_with (first | (go_at_call 26; refine (HT.out _).mono ?_; rintro e w1 ⟨rfl, rfl⟩) | go_in)
        refine ⟨⟨k + 1, by omega, by go_num, fun j hj hjk => ?_, trivial⟩, by simp [intOf]; omega⟩
        by_cases h : j < k
        · exact HN.out j hj h
        · obtain rfl : j = k := by omega
          rw [HX.out]
          exact HB.out
    · have hki : ¬ (k : Int) < (bs.length : Int) := by omega
      go_wp2
      go_ret
      refine ⟨-1, rfl, ?_, Below.refl _ _⟩
      rw [show (bs.any fun b => decide (100000 < b.size)) = false from List.any_eq_false.2 fun b hb => by
        obtain ⟨j, hj, rfl⟩ := List.getElem_of_mem hb
        simpa using HN.out j hj (by omega)]
      rfl
set_option maxHeartbeats 2000000 in
set_option maxRecDepth 100000 in
theorem cfL_any (ao : Option Addr) (cap : Nat) (bs : List ByteArray) (w : World) (hn : bs.length ≤ 4611686018427387904) (hl : IsTxs w ao bs) :
    Calls Tryz.prog 25 #[.slice ao bs.length cap, .func (.func 26) #[] #[]] w fun e w' => e = .returned (.bool (bs.any fun b => decide (100000 < b.size))) ∧ Below w.heap.size w w' := by
  have HI : Hid (Calls Tryz.prog 58 #[.slice ao bs.length cap, .func (.func 26) #[] #[]] w (IdxP (bs.any fun b => decide (100000 < b.size)) w)) := idxL_any ao cap bs w hn hl
  clear hl
  generalize (bs.any fun b => decide (100000 < b.size)) = b at *
  generalize bs.length = ln at *
  go_enter Tryz.func25, Tryz.ntmps25
  go_wp2_with fail
  refine HI.out.mono ?_
  rintro e w1 ⟨r, rfl, hr, hb1⟩
  have HB1 : Hid (Below w.heap.size w w1) := hb1
  have HR : Hid (decide (0 ≤ r) = b) := hr
  clear hb1 hr
  go_wp2
  go_ret
  exact ⟨by rw [← HR.out]; rfl, HB1.out⟩
end Go.Proofs.YtefdfcjohkndgaaGreatDoor

/- Flat, of a tree's texts, whatever others there are; what a text of a tree is. -/
namespace Go.Proofs.YtefdfcjohkndgaaGreatDoor
open Go.RowKit Go.Shelf Go.Maps Go.WideMaps Go.Sort Go.Lib

/-- How flattening ends: as the tree was. -/
def FtP (L : List Fl) (w : World) (e : Ending) (w' : World) : Prop := ∃ v, e = .returned (.tuple #[v, .int .i64 0]) ∧ w'.ownsRow w.heap.size 44 3 v L.length (flCells L) ∧ Below w.heap.size w w'

set_option maxHeartbeats 4000000 in
set_option maxRecDepth 100000 in
theorem Flat_ok (L : List Fl) (ba : Option Addr) (bc : Nat) (bs : List ByteArray) (w : World) (hok : okT L) (hn : bs.length ≤ 2000) (ht : IsTxs w ba bs) (hs : ∀ b ∈ bs, b.size ≤ 100000) (he : Env w) (hin : ∀ t ∈ (pkT1 L).2, t ∈ bs) (hcl : ∀ t ∈ (pkT1 L).2, ∀ b ∈ bs, smD b = smD t → b = t) :
    Calls Tryz.prog 10 #[.string (smD (pkT1 L).1), .slice ba bs.length bc] w (FtP L w) := by
  have hany : (bs.any fun b => decide (100000 < b.size)) = false := List.any_eq_false.2 fun b hb => by have := hs b hb; simp; omega
  have hC := cfL_any ba bc bs w (by omega) ht
  rw [hany] at hC
  have HC : Hid (Calls Tryz.prog 25 #[.slice ba bs.length bc, .func (.func 26) #[] #[]] w fun e w' => e = .returned (.bool false) ∧ Below w.heap.size w w') := hC
  have HI : Hid (∀ W, Calls Tryz.prog 27 #[.string (smD (pkT1 L).1)] W fun e w' => e = .returned (.bool true) ∧ w' = W) := fun W => by
    have := Is_any (smD (pkT1 L).1) W
    rw [smD_dig] at this
    exact this
  have HW : Hid (∀ W, Below w.heap.size w W → Calls Tryz.prog 28 #[.slice ba bs.length bc] W (NwP ba bc bs W)) := fun W hW => newWalk_any ba bc bs W (by omega) (ht.below hW (Nat.le_refl _)) hs (he.up hW)
  have HO : Hid (∀ B P M W, WS B P M (ixD bs bs.length) ba bc bs [] (.slice none 0 0) W → Calls Tryz.prog 29 #[.pointer (some ⟨P, 0, none⟩), .string (smD (pkT1 L).1)] W (StP B P M (ixD bs bs.length) ba bc bs [] (.slice none 0 0) W L)) := fun B P M W hW => whole_ok L hok hW (by have := hok.1; simpa using this) fun t h => finds_of (hin t h) (hcl t h)
  have hn2 : (bs.length : Int) ≤ 2000 := by omega
  have HK : Hid (okT L) := hok
  clear hany hC ht hs he hin hcl hok
  generalize smD (pkT1 L).1 = rt at *
  go_enter Tryz.func10, Tryz.ntmps10
  go_wp2_with fail
  refine HC.out.mono ?_
  rintro e w1 ⟨rfl, hb1⟩
  go_wp2_with fail
  refine (HI.out _).mono ?_
  rintro e wb ⟨rfl, rfl⟩
  go_wp2_with fail
  refine (HW.out _ hb1).mono ?_
  rintro e w2 ⟨P, M, rfl, hws, hb2⟩
  have HB2 : Hid (Below w.heap.size w w2) := hb1.trans (hb2.mono hb1.size)
  have HO2 : Hid (Calls Tryz.prog 29 #[.pointer (some ⟨P, 0, none⟩), .string rt] w2 (StP wb.heap.size P M (ixD bs bs.length) ba bc bs [] (.slice none 0 0) w2 L)) := HO.out _ _ _ _ hws
  have hsz := hb1.size
  clear hws hb1 hb2 HW HC HI HO
  go_wp2_with fail
  refine HO2.out.mono ?_
  rintro e w3 ⟨fv, Y, rfl, hY, hws, hfr⟩
  rw [List.nil_append] at hws
  have c2 := hws.c2
  have HB3 : Hid (Below w.heap.size w w3) := by
    have h0 := HB2.out
    refine ⟨hfr.os.trans h0.os, hfr.tape.trans h0.tape, hfr.output.trans h0.output, Nat.le_trans h0.size hfr.size, fun b hb => ?_⟩
    refine (hfr.blk b (Nat.lt_of_lt_of_le hb h0.size) (fun e => ?_) (by simp [Value.ownBlock])).trans (h0.block b hb)
    have := hws.loP
    omega
  have HS : Hid (Calls Tryz.prog 30 #[fv, .func (.func 31) #[] #[]] w3 fun e w' => e = .returned (.tuple #[]) ∧ w'.ownsRow wb.heap.size 44 3 fv L.length (flCells L) ∧ w3.grownBy w' fv.ownBlock) :=
    sortFiles hws.files (HK.out.2.2.imp fun hh => hh.1) hY (by have := hY.length_eq; have := HK.out.1; omega)
  have HWS : Hid (WS wb.heap.size P M (ixD bs bs.length) ba bc bs Y fv w3) := hws
  clear hY hws hfr HO2
  go_wp2_with fail
  refine HS.out.mono ?_
  rintro e w4 ⟨rfl, hrow, hg⟩
  have d2 : w4.cell? ⟨P, 2, none⟩ = some fv := (World.cell?_of_block (w := w3) (a := ⟨P, 2, none⟩) (hg.block P HWS.out.lt (fun e => HWS.out.fP e.symm))).trans c2
  have HF : Hid (w4.ownsRow w.heap.size 44 3 fv L.length (flCells L) ∧ Below w.heap.size w w4) := ⟨own_mono hrow hsz, HB3.out.grown hg HB3.out.size fun k hk => Nat.le_trans hsz (HWS.out.files.lt k hk).1⟩
  clear hrow hg HS c2
  go_wp2
  refine bodyPost_ret (v := .tuple #[fv, .int .i64 0]) (by simp [results, Tryz.results10, go_sem]) rfl ?_
  exact ⟨fv, rfl, HF.out⟩
end Go.Proofs.YtefdfcjohkndgaaGreatDoor

/- The sums of three texts (laid by wip/src/mksh.py). -/
namespace Go.Proofs.YtefdfcjohkndgaaGreatDoor
open Go.RowKit

theorem mix_of (q : S8) (B : ByteArray) (W : List Int) (r : S8) (hl : W.length = 64) (hok : ((List.range 64).all fun i => wnext B (W.take i) i == W.getD i 0) = true) (h : (⟨(q.a + (goF (cuL.zip W) q).a) % 4294967296, (q.b + (goF (cuL.zip W) q).b) % 4294967296, (q.c + (goF (cuL.zip W) q).c) % 4294967296, (q.d + (goF (cuL.zip W) q).d) % 4294967296, (q.e + (goF (cuL.zip W) q).e) % 4294967296, (q.f + (goF (cuL.zip W) q).f) % 4294967296, (q.g + (goF (cuL.zip W) q).g) % 4294967296, (q.h + (goF (cuL.zip W) q).h) % 4294967296⟩ : S8) = r) : mixS q B cuL = r := by
  have hw : ws B 64 = W := by
    have h1 := ws_of B W 64 (by omega) fun i hi => by simpa using List.all_eq_true.1 hok i (List.mem_range.2 hi)
    rw [h1, List.take_of_length_le (by omega)]
  have hr : rounds8 W cuL 64 q = goF (cuL.zip W) q := by
    rw [rounds8_fold _ _ _ _ (by omega) (by rw [cuL_len]; decide), List.take_of_length_le (by rw [List.length_zip, hl, cuL_len]; decide), ← goF_eq]
  unfold mixS
  rw [hw, hr]
  exact h

def sxT : ByteArray := ⟨#[120]⟩
def sx1B : ByteArray := ⟨#[120, 128, 0, 0, 0, 0, 0, 0, 0, 0, 0, 0, 0, 0, 0, 0, 0, 0, 0, 0, 0, 0, 0, 0, 0, 0, 0, 0, 0, 0, 0, 0, 0, 0, 0, 0, 0, 0, 0, 0, 0, 0, 0, 0, 0, 0, 0, 0, 0, 0, 0, 0, 0, 0, 0, 0, 0, 0, 0, 0, 0, 0, 0, 8]⟩
def sx1W : List Int := [2021654528, 0, 0, 0, 0, 0, 0, 0, 0, 0, 0, 0, 0, 0, 0, 8, 2021654528, 327680, 1971024, 536871234, 3418490760, 8475648, 1124568096, 4177534981, 931784704, 341448440, 3910008977, 359146923, 3236027942, 1500331568, 3723075617, 2150859516, 2969464858, 3203193819, 2344153889, 1621682451, 3793127511, 4094548217, 1965560327, 2113633090, 2029180404, 834715653, 3623783194, 2443265322, 1843327394, 2293781290, 211574689, 3698406187, 490561120, 3311074907, 853938067, 15903757, 3428712410, 150987924, 3880940780, 4238751076, 4017808925, 3462345068, 524655193, 3518015180, 1175202895, 200890185, 2650706160, 3779152477]
def sx1H : S8 := ⟨762385986, 3072766020, 23231657, 4222366453, 3360886705, 2419901659, 36013847, 2451196033⟩
theorem sx1_ok : ((List.range 64).all fun i => wnext sx1B (sx1W.take i) i == sx1W.getD i 0) = true := by kernel_rfl
theorem sx1_mix : mixS sq8 sx1B cuL = sx1H := mix_of sq8 sx1B sx1W sx1H (by kernel_rfl) sx1_ok (by kernel_rfl)
def sxD : ByteArray := ⟨#[50, 100, 55, 49, 49, 54, 52, 50, 98, 55, 50, 54, 98, 48, 52, 52, 48, 49, 54, 50, 55, 99, 97, 57, 102, 98, 97, 99, 51, 50, 102, 53, 99, 56, 53, 51, 48, 102, 98, 49, 57, 48, 51, 99, 99, 52, 100, 98, 48, 50, 50, 53, 56, 55, 49, 55, 57, 50, 49, 97, 52, 56, 56, 49]⟩
theorem sx_sum : sumB sxT sq8 cuL = sxD := by
  have e1 : sxT.size / 64 = 0 := by kernel_rfl
  have e2 : (tailOf sxT).size / 64 = 1 := by kernel_rfl
  have xsx1 : (tailOf sxT).extract (64 * 0) (64 * 0 + 64) = sx1B := by kernel_rfl
  have b0 : blocks sxT cuL sq8 0 = sq8 := by
    rfl
  have b1 : blocks (tailOf sxT) cuL sq8 1 = sx1H := by
    unfold blocks
    rw [xsx1]
    exact sx1_mix
  show (⟨(dgs (blocks (tailOf sxT) cuL (blocks sxT cuL sq8 (sxT.size / 64)) ((tailOf sxT).size / 64)).l).toArray⟩ : ByteArray) = sxD
  rw [e1, e2, b0, b1]
  show (⟨(dgs sx1H.l).toArray⟩ : ByteArray) = sxD
  kernel_rfl

def sbT : ByteArray := ⟨#[1, 1, 98, 1, 64, 50, 100, 55, 49, 49, 54, 52, 50, 98, 55, 50, 54, 98, 48, 52, 52, 48, 49, 54, 50, 55, 99, 97, 57, 102, 98, 97, 99, 51, 50, 102, 53, 99, 56, 53, 51, 48, 102, 98, 49, 57, 48, 51, 99, 99, 52, 100, 98, 48, 50, 50, 53, 56, 55, 49, 55, 57, 50, 49, 97, 52, 56, 56, 49]⟩
def sb1B : ByteArray := ⟨#[1, 1, 98, 1, 64, 50, 100, 55, 49, 49, 54, 52, 50, 98, 55, 50, 54, 98, 48, 52, 52, 48, 49, 54, 50, 55, 99, 97, 57, 102, 98, 97, 99, 51, 50, 102, 53, 99, 56, 53, 51, 48, 102, 98, 49, 57, 48, 51, 99, 99, 52, 100, 98, 48, 50, 50, 53, 56, 55, 49, 55, 57, 50, 49]⟩
def sb1W : List Int := [16867841, 1077044279, 825308724, 845297458, 912404532, 875573558, 842490721, 963011169, 1664299622, 895694901, 858809954, 825831475, 1667445860, 1647325746, 892876593, 926495281, 1399096494, 1451198134, 623161206, 2886433189, 3247631563, 1513134056, 4077117603, 4062456430, 3908562019, 3328636627, 386739405, 2718029692, 1436398886, 2410582992, 3145990811, 868526431, 583688567, 4064843820, 3295961435, 2505845818, 201420197, 1260548262, 2338923373, 2904266935, 2486113742, 507426809, 2915040799, 1717076287, 3049660185, 2354767803, 3341486518, 1765699754, 2290895305, 1303601763, 1163678055, 964844409, 348523182, 4224445108, 1434729713, 146279551, 3621537229, 1085849592, 3824515151, 1699132669, 2753955029, 635304769, 1486597638, 340749099]
def sb1H : S8 := ⟨3636586827, 4063557508, 2594577271, 2682798449, 4238592339, 3890565741, 1482465807, 2433056932⟩
theorem sb1_ok : ((List.range 64).all fun i => wnext sb1B (sb1W.take i) i == sb1W.getD i 0) = true := by kernel_rfl
theorem sb1_mix : mixS sq8 sb1B cuL = sb1H := mix_of sq8 sb1B sb1W sb1H (by kernel_rfl) sb1_ok (by kernel_rfl)
def sb2B : ByteArray := ⟨#[97, 52, 56, 56, 49, 128, 0, 0, 0, 0, 0, 0, 0, 0, 0, 0, 0, 0, 0, 0, 0, 0, 0, 0, 0, 0, 0, 0, 0, 0, 0, 0, 0, 0, 0, 0, 0, 0, 0, 0, 0, 0, 0, 0, 0, 0, 0, 0, 0, 0, 0, 0, 0, 0, 0, 0, 0, 0, 0, 0, 0, 0, 2, 40]⟩
def sb2W : List Int := [1630812216, 830472192, 0, 0, 0, 0, 0, 0, 0, 0, 0, 0, 0, 0, 0, 552, 1736918168, 852557824, 1254547170, 2685184882, 3032472972, 3237938989, 358278503, 3402279993, 1626029759, 1315982713, 2560430617, 3821006961, 3966295878, 459868091, 2412076552, 4046550394, 18728978, 3658629580, 1731132269, 3992757944, 4114688231, 2387387853, 2040619408, 1339605921, 3220084464, 2482749261, 600860033, 686886929, 3991075520, 2523920633, 3090949541, 176910659, 1038566829, 1029622117, 542548737, 887908939, 3040883146, 1989018620, 514533596, 2728017772, 1431005960, 740534894, 2499333312, 2709176111, 70101761, 311701250, 382519666, 2129212325]
def sb2H : S8 := ⟨3636251484, 2886615582, 2766240801, 569608003, 167460413, 33901062, 250798081, 3361365004⟩
theorem sb2_ok : ((List.range 64).all fun i => wnext sb2B (sb2W.take i) i == sb2W.getD i 0) = true := by kernel_rfl
theorem sb2_mix : mixS sb1H sb2B cuL = sb2H := mix_of sb1H sb2B sb2W sb2H (by kernel_rfl) sb2_ok (by kernel_rfl)
def sbD : ByteArray := ⟨#[100, 56, 98, 99, 99, 98, 53, 99, 97, 99, 48, 101, 52, 50, 49, 101, 97, 52, 101, 49, 55, 99, 50, 49, 50, 49, 102, 51, 56, 55, 52, 51, 48, 57, 102, 98, 51, 101, 51, 100, 48, 50, 48, 53, 52, 97, 48, 54, 48, 101, 102, 50, 101, 48, 48, 49, 99, 56, 53, 97, 53, 99, 48, 99]⟩
theorem sb_sum : sumB sbT sq8 cuL = sbD := by
  have e1 : sbT.size / 64 = 1 := by kernel_rfl
  have e2 : (tailOf sbT).size / 64 = 1 := by kernel_rfl
  have xsb1 : (sbT).extract (64 * 0) (64 * 0 + 64) = sb1B := by kernel_rfl
  have xsb2 : (tailOf sbT).extract (64 * 0) (64 * 0 + 64) = sb2B := by kernel_rfl
  have b0 : blocks sbT cuL sq8 1 = sb1H := by
    unfold blocks
    rw [xsb1]
    exact sb1_mix
  have b1 : blocks (tailOf sbT) cuL sb1H 1 = sb2H := by
    unfold blocks
    rw [xsb2]
    exact sb2_mix
  show (⟨(dgs (blocks (tailOf sbT) cuL (blocks sbT cuL sq8 (sbT.size / 64)) ((tailOf sbT).size / 64)).l).toArray⟩ : ByteArray) = sbD
  rw [e1, e2, b0, b1]
  show (⟨(dgs sb2H.l).toArray⟩ : ByteArray) = sbD
  kernel_rfl

def saT : ByteArray := ⟨#[1, 1, 97, 3, 64, 100, 56, 98, 99, 99, 98, 53, 99, 97, 99, 48, 101, 52, 50, 49, 101, 97, 52, 101, 49, 55, 99, 50, 49, 50, 49, 102, 51, 56, 55, 52, 51, 48, 57, 102, 98, 51, 101, 51, 100, 48, 50, 48, 53, 52, 97, 48, 54, 48, 101, 102, 50, 101, 48, 48, 49, 99, 56, 53, 97, 53, 99, 48, 99]⟩
def sa1B : ByteArray := ⟨#[1, 1, 97, 3, 64, 100, 56, 98, 99, 99, 98, 53, 99, 97, 99, 48, 101, 52, 50, 49, 101, 97, 52, 101, 49, 55, 99, 50, 49, 50, 49, 102, 51, 56, 55, 52, 51, 48, 57, 102, 98, 51, 101, 51, 100, 48, 50, 48, 53, 52, 97, 48, 54, 48, 101, 102, 50, 101, 48, 48, 49, 99, 56, 53]⟩
def sa1W : List Int := [16867587, 1080309858, 1667457589, 1667326768, 1697919537, 1700869221, 825713458, 825373030, 859322164, 858798438, 1647535411, 1680880176, 892625200, 909141350, 845492272, 828586037, 886636544, 1540355650, 2617750932, 24514866, 1396978113, 487428243, 1199873071, 1144281583, 820364061, 719456612, 508361905, 2072606281, 134157181, 1036833660, 2226017297, 2635760883, 2999310994, 1690029402, 1311348866, 760401778, 3524483172, 1368143792, 1813957442, 3773740631, 2714016827, 1706957737, 3915842791, 1518673489, 2273159237, 2105064724, 474888564, 3450907840, 1059072890, 4251441457, 196656757, 3528559064, 92918, 2672416797, 4030671865, 1001358042, 3900908907, 3061276716, 2689415086, 2830436603, 1810043210, 4176269674, 4122051652, 2719921531]
def sa1H : S8 := ⟨3273503112, 1168772759, 2130173675, 3688719627, 2842344253, 3028729528, 2692299053, 3972283351⟩
theorem sa1_ok : ((List.range 64).all fun i => wnext sa1B (sa1W.take i) i == sa1W.getD i 0) = true := by kernel_rfl
theorem sa1_mix : mixS sq8 sa1B cuL = sa1H := mix_of sq8 sa1B sa1W sa1H (by kernel_rfl) sa1_ok (by kernel_rfl)
def sa2B : ByteArray := ⟨#[97, 53, 99, 48, 99, 128, 0, 0, 0, 0, 0, 0, 0, 0, 0, 0, 0, 0, 0, 0, 0, 0, 0, 0, 0, 0, 0, 0, 0, 0, 0, 0, 0, 0, 0, 0, 0, 0, 0, 0, 0, 0, 0, 0, 0, 0, 0, 0, 0, 0, 0, 0, 0, 0, 0, 0, 0, 0, 0, 0, 0, 0, 2, 40]⟩
def sa2W : List Int := [1630888752, 1669332992, 0, 0, 0, 0, 0, 0, 0, 0, 0, 0, 0, 0, 0, 552, 1844214800, 1691418624, 2979086420, 2685995698, 2282531498, 2754019917, 3223459925, 3476220775, 3017887891, 3665695513, 579887754, 1407579294, 3779326799, 82457416, 2813544477, 1175443232, 1642247770, 2282434987, 1197798551, 4007322572, 3240048537, 2937068970, 4024654412, 2745199737, 2927484403, 1714665887, 3000264031, 1076101447, 1791180375, 1931949353, 30773845, 2250514220, 3455211521, 3799611517, 733113271, 3538918955, 4106522945, 1081765585, 1290442005, 1915029181, 2241877385, 1709476929, 753776158, 2024977659, 2865662388, 2612732731, 1472526080, 2378605027]
def sa2H : S8 := ⟨108285545, 4021650928, 637779520, 2676746045, 641017731, 796157738, 932929102, 2129732299⟩
theorem sa2_ok : ((List.range 64).all fun i => wnext sa2B (sa2W.take i) i == sa2W.getD i 0) = true := by kernel_rfl
theorem sa2_mix : mixS sa1H sa2B cuL = sa2H := mix_of sa1H sa2B sa2W sa2H (by kernel_rfl) sa2_ok (by kernel_rfl)
def saD : ByteArray := ⟨#[48, 54, 55, 52, 52, 101, 54, 57, 101, 102, 98, 53, 56, 53, 102, 48, 50, 54, 48, 51, 98, 101, 52, 48, 57, 102, 56, 98, 101, 55, 51, 100, 50, 54, 51, 53, 50, 55, 56, 51, 50, 102, 55, 52, 54, 55, 50, 97, 51, 55, 57, 98, 53, 101, 52, 101, 55, 101, 102, 49, 50, 50, 99, 98]⟩
theorem sa_sum : sumB saT sq8 cuL = saD := by
  have e1 : saT.size / 64 = 1 := by kernel_rfl
  have e2 : (tailOf saT).size / 64 = 1 := by kernel_rfl
  have xsa1 : (saT).extract (64 * 0) (64 * 0 + 64) = sa1B := by kernel_rfl
  have xsa2 : (tailOf saT).extract (64 * 0) (64 * 0 + 64) = sa2B := by kernel_rfl
  have b0 : blocks saT cuL sq8 1 = sa1H := by
    unfold blocks
    rw [xsa1]
    exact sa1_mix
  have b1 : blocks (tailOf saT) cuL sa1H 1 = sa2H := by
    unfold blocks
    rw [xsa2]
    exact sa2_mix
  show (⟨(dgs (blocks (tailOf saT) cuL (blocks saT cuL sq8 (saT.size / 64)) ((tailOf saT).size / 64)).l).toArray⟩ : ByteArray) = saD
  rw [e1, e2, b0, b1]
  show (⟨(dgs sa2H.l).toArray⟩ : ByteArray) = saD
  kernel_rfl
end Go.Proofs.YtefdfcjohkndgaaGreatDoor

/- Files that are the same. -/
namespace Go.Proofs.YtefdfcjohkndgaaGreatDoor
open Go.RowKit Go.Shelf

theorem toL_inj {a b : ByteArray} (h : a.toList = b.toList) : a = b := by
  rw [Lib.toList_data, Lib.toList_data] at h
  obtain ⟨x⟩ := a
  obtain ⟨y⟩ := b
  exact congrArg ByteArray.mk (Array.toList_inj.1 h)
/-- How the look ends. -/
def SmP (A C : List Fl) (w : World) (e : Ending) (w' : World) : Prop := ∃ b, e = .returned (.bool b) ∧ (b = true ↔ A = C) ∧ ∃ n, w' = w.drewN n

set_option maxHeartbeats 4000000 in
set_option maxRecDepth 100000 in
theorem SameFiles_any (ao co : Option Addr) (ac cc : Nat) (A C : List Fl) (w : World) (hn : A.length ≤ 4611686018427387904) (ha : IsFl w ao A) (hc : IsFl w co C) :
    Calls Tryz.prog 12 #[.slice ao A.length ac, .slice co C.length cc] w (SmP A C w) := by
  by_cases hl : A.length = C.length
  · rw [← hl]
    have HA : Hid (IsFl w ao A) := ha
    have HC : Hid (IsFl w co C) := hc
    have HL : Hid (A.length = C.length) := hl
    have hn1 : (A.length : Int) ≤ 4611686018427387904 := by omega
    clear ha hc hl
    go_enter Tryz.func12, Tryz.ntmps12
    go_wp2
    go_loopw [5] (fun i wr => ∃ k m : Nat, k ≤ A.length ∧ i = .int .i64 k ∧ A.take k = C.take k ∧ wr = w.drewN m) (fun i _ => A.length - (intOf i).toNat)
    case atStart => exact ⟨0, 0, Nat.zero_le _, rfl, rfl, rfl⟩
    case round =>
      obtain ⟨k, m, hk, rfl, ht, rfl⟩ := hrel
      have HK : Hid (A.take k = C.take k) := ht
      clear ht
      by_cases hlt : k < A.length
      · have hlt' : k < C.length := by rw [← HL.out]; exact hlt
        rcases HA.out with h | ⟨g, o, rfl, _, hca⟩
        · exfalso; rw [h] at hlt; exact absurd hlt (by simp)
        rcases HC.out with h | ⟨g', o', rfl, _, hcc⟩
        · exfalso; rw [h] at hlt'; exact absurd hlt' (by simp)
        obtain ⟨a0, a1, a2⟩ := hca k hlt
        obtain ⟨b0, b1, b2⟩ := hcc k hlt'
        have HN : Hid (A[k] ≠ C[k] → A ≠ C) := fun h e => h (by simp only [e])
        have HY : Hid (A[k] = C[k] → A.take (k + 1) = C.take (k + 1)) := fun h => by rw [List.take_succ_eq_append_getElem hlt, List.take_succ_eq_append_getElem hlt', HK.out, h]
        generalize A[k] = x at *
        generalize C[k] = y at *
        obtain ⟨xp, xt, xr⟩ := x
        obtain ⟨yp, yt, yr⟩ := y
        simp only at a0 a1 a2 b0 b1 b2
        have i2 : (k : Int) < A.length := by omega
        clear hca hcc
        by_cases h1 : xp.toList = yp.toList
        · obtain rfl := toL_inj h1
          by_cases h2 : xt.toList = yt.toList
          · obtain rfl := toL_inj h2
            by_cases h3 : xr = yr
            · subst h3
              have HZ : Hid (A.take (k + 1) = C.take (k + 1)) := HY.out rfl
              clear h1 h2 HN HY
              go_wp2
              go_region
              all_goals go_wp2
              all_goals exact ⟨⟨k + 1, m + 1, by omega, by go_num, HZ.out, rfl⟩, by simp [intOf]; omega⟩
            · have HZ : Hid (A ≠ C) := HN.out (by intro e; injection e with _ _ e; exact h3 e)
              have h3' : (xr == yr) = false := by simpa using h3
              clear h1 h2 HN HY
              go_wp2
              go_region
              all_goals go_wp2
              all_goals
                go_ret
                exact ⟨false, rfl, ⟨fun h => absurd h (by decide), fun h => absurd h HZ.out⟩, m + 1, rfl⟩
          · have HZ : Hid (A ≠ C) := HN.out (by intro e; injection e with _ e _; rw [e] at h2; exact h2 rfl)
            clear h1 HN HY
            go_wp2
            go_region
            all_goals go_wp2
            all_goals
              go_ret
              exact ⟨false, rfl, ⟨fun h => absurd h (by decide), fun h => absurd h HZ.out⟩, m + 1, rfl⟩
        · have HZ : Hid (A ≠ C) := HN.out (by intro e; injection e with e _ _; rw [e] at h1; exact h1 rfl)
          clear HN HY
          go_wp2
          go_region
          all_goals go_wp2
          all_goals
            go_ret
            exact ⟨false, rfl, ⟨fun h => absurd h (by decide), fun h => absurd h HZ.out⟩, m + 1, rfl⟩
      · have hki : ¬ (k : Int) < (A.length : Int) := by omega
        have HZ : Hid (A = C) := by
          have := HK.out
          have hL := HL.out
          rwa [List.take_of_length_le (by omega), List.take_of_length_le (by omega)] at this
        go_wp2
        go_ret
        exact ⟨true, rfl, ⟨fun _ => HZ.out, fun _ => rfl⟩, m, rfl⟩
  · have hne : ¬ (A.length : Int) = C.length := by omega
    have HZ : Hid (A ≠ C) := fun e => hl (by rw [e])
    clear hl ha hc
    go_enter Tryz.func12, Tryz.ntmps12
    go_wp2
    go_ret
    exact ⟨false, rfl, ⟨fun h => absurd h (by decide), fun h => absurd h HZ.out⟩, 0, rfl⟩
end Go.Proofs.YtefdfcjohkndgaaGreatDoor

/- What the statements of trees begin with. -/
namespace Go.Proofs.YtefdfcjohkndgaaGreatDoor
open Go.RowKit Go.Shelf Go.Maps Go.WideMaps Go.Sort Go.Lib

theorem mem_compact {α : Type} [Inhabited α] [DecidableEq α] (l : List α) (x : α) : x ∈ Lib.compact l ↔ x ∈ l := by
  have h1 : ∀ m, m ≤ l.length → ∀ j, j < m → l.toArray[j]! ∈ Lib.compactUpTo l.toArray m := by
    intro m
    induction m with
    | zero => intro _ j hj; omega
    | succ m ih =>
      intro hm j hj
      rw [Lib.compactUpTo_succ, List.mem_append]
      by_cases h : j < m
      · exact .inl (ih (by omega) j h)
      · obtain rfl : j = m := by omega
        by_cases hk : Lib.keeps l.toArray j = true
        · exact .inr (by rw [if_pos hk]; simp)
        · have hk2 : ¬ (j = 0 ∨ l.toArray[j]! ≠ l.toArray[j - 1]!) := by
            unfold Lib.keeps at hk
            simpa using hk
          have hj0 : j ≠ 0 := fun e => hk2 (.inl e)
          have he : l.toArray[j]! = l.toArray[j - 1]! := Decidable.byContradiction fun e => hk2 (.inr e)
          rw [he]
          exact .inl (ih (by omega) (j - 1) (by omega))
  constructor
  · intro h
    unfold Lib.compact Lib.compactUpTo at h
    obtain ⟨j, hj, rfl⟩ := List.mem_map.1 h
    have hj2 : j < l.length := List.mem_range.1 (List.mem_filter.1 hj).1
    rw [getElem!_pos l.toArray j (by simpa using hj2)]
    simp
  · intro h
    obtain ⟨j, hj, rfl⟩ := List.getElem_of_mem h
    have := h1 l.length (Nat.le_refl _) j hj
    rw [getElem!_pos l.toArray j (by simpa using hj)] at this
    simpa [Lib.compact] using this

/-- A tree's texts, as Blobs answers them. -/
def blB (L : List Fl) : List ByteArray := (blF L).map fun s => ⟨s.toArray⟩
theorem blB_mem (L : List Fl) (t : ByteArray) : t ∈ blB L ↔ t ∈ (pkT1 L).2 := by
  unfold blB blF
  rw [List.mem_map]
  constructor
  · rintro ⟨s, hs, rfl⟩
    rw [mem_compact, List.mem_mergeSort, List.mem_map] at hs
    obtain ⟨b, hb, rfl⟩ := hs
    rw [Array.toArray_toList]
    exact hb
  · intro h
    refine ⟨t.data.toList, ?_, by rw [Array.toArray_toList]⟩
    rw [mem_compact, List.mem_mergeSort, List.mem_map]
    exact ⟨t, h, rfl⟩
theorem blB_len (L : List Fl) : (blB L).length = (blF L).length := by unfold blB; simp
theorem bl_txs {w : World} {base : Nat} {ao : Option Addr} {cap : Nat} {L : List Fl} (h : w.ownsRow base 9 1 (.slice ao (blF L).length cap) (blF L).length ((blF L).map encStr)) : IsTxs w ao (blB L) := by
  rcases h.2 with ⟨_, h0⟩ | ⟨g, cap2, cur, hv, _, hh, _⟩
  · exact .inl (List.length_eq_zero_iff.1 (by rw [blB_len]; exact h0))
  · injection hv with hv _ _
    subst hv
    refine .inr ⟨g, 0, rfl, (Array.getElem?_eq_some_iff.1 hh).1, fun j hj => ?_⟩
    have hj2 : j < (blF L).length := by rw [← blB_len]; exact hj
    have h1 := h.cells (show (Value.slice (some ⟨g, 0, none⟩) (blF L).length cap).ownBlock = some g from rfl) j (encStr (blF L)[j]) (by simp [hj2])
    rw [add0] at h1
    have e : (blB L)[j] = ⟨((blF L)[j]'hj2).toArray⟩ := by simp [blB]
    rw [Nat.zero_add, h1, e]

def f0 : Fl := ⟨⟨#[97, 47, 98]⟩, ⟨#[120]⟩, false⟩
def f1 : Fl := ⟨⟨#[98]⟩, ⟨#[120]⟩, false⟩
theorem nm_a : nameOk ⟨#[97]⟩ = true := by
  unfold nameOk
  rw [Lib.toList_data]
  decide
theorem nm_b : nameOk ⟨#[98]⟩ = true := by
  unfold nameOk
  rw [Lib.toList_data]
  decide
theorem pa0 : pathOk f0.pa = true := by
  unfold pathOk
  have e : piecesB f0.pa = [⟨#[97]⟩, ⟨#[98]⟩] := by rfl
  rw [e, List.all_cons, List.all_cons, nm_a, nm_b]
  rfl
theorem ok0 : okT [f0] := by
  refine ⟨by decide, fun f hf => ?_, List.pairwise_singleton _ _⟩
  rw [List.mem_singleton.1 hf]
  unfold flE
  rw [if_neg (by rw [pa0]; decide), if_neg (by decide)]
theorem ch0 : chF [f0] = 0 := by
  unfold chF
  have h : flEs [f0] = 0 := flEs_yes _ fun j hj => ok0.2.1 _ (List.getElem_mem hj)
  rw [if_neg (by decide), if_pos h, if_pos ((fit_iff _).1 ok0.2.2)]
theorem sort1 (x : Nd) : sortN [x] = [x] := by unfold sortN; simp
theorem sx_s : smD ⟨#[120]⟩ = sxD := sx_sum
theorem sb_s : smD sbT = sbD := sb_sum
theorem sa_s : smD saT = saD := sa_sum
theorem tx_of (x : Nd) : txN [x] = ⟨(pk 1 ++ (pkT x.1 ++ (pk x.2.1.toNat ++ pkT x.2.2) ++ [])).toArray⟩ := by
  unfold txN
  rw [sort1]
  rfl
theorem dir1 (n : Nat) : dirF smD (n + 1) [f1] = (sbT, [⟨#[120]⟩, sbT]) := by
  rw [dirF_succ]
  have e1 : tops [f1] = [f1] := by rfl
  have e2 : names [f1] = [] := by rfl
  have e3 : nsF smD n [f1] = [(⟨#[98]⟩, 1, sxD)] := by
    unfold nsF
    rw [e1, e2]
    show [ndF smD f1] = _
    unfold ndF
    rw [show smD f1.tx = sxD from sx_s]
    rfl
  have e4 : txN [(⟨#[98]⟩, 1, sxD)] = sbT := by rw [tx_of]; rfl
  rw [e3, e4, e1, e2]
  rfl
theorem pk0 : pkT1 [f0] = (saT, [⟨#[120]⟩, sbT, saT]) := by
  unfold pkT1
  rw [show (101 : Nat) = 100 + 1 from rfl, dirF_succ]
  have e1 : tops [f0] = [] := by rfl
  have e2 : names [f0] = [[97]] := by rfl
  have e3 : sub [97] [f0] = [f1] := by rfl
  have e4 : dirF smD 100 [f1] = (sbT, [⟨#[120]⟩, sbT]) := dir1 99
  have e5 : nsF smD 100 [f0] = [(⟨#[97]⟩, 3, sbD)] := by
    unfold nsF
    rw [e1, e2]
    show [ndM smD [97] (dirF smD 100 (sub [97] [f0])).1] = _
    rw [e3, e4]
    unfold ndM
    rw [sb_s]
  have e6 : txN [(⟨#[97]⟩, 3, sbD)] = saT := by rw [tx_of]; rfl
  rw [e5, e6, e1, e2]
  show (saT, [] ++ ((dirF smD 100 (sub [97] [f0])).2 ++ []) ++ [saT]) = _
  rw [e3, e4]
  rfl
theorem cl0 : ∀ t ∈ (pkT1 [f0]).2, ∀ b ∈ blB [f0], smD b = smD t → b = t := by
  intro t ht b hb
  rw [blB_mem] at hb
  rw [pk0] at ht hb
  have hxb : sxD ≠ sbD := fun e => absurd (congrArg (fun b => b.data.toList) e) (by decide)
  have hxa : sxD ≠ saD := fun e => absurd (congrArg (fun b => b.data.toList) e) (by decide)
  have hba : sbD ≠ saD := fun e => absurd (congrArg (fun b => b.data.toList) e) (by decide)
  simp only [List.mem_cons, List.not_mem_nil, or_false] at ht hb
  rcases ht with rfl | rfl | rfl <;> rcases hb with rfl | rfl | rfl <;> intro e <;> first | rfl | (simp only [sx_s, sb_s, sa_s] at e; first | exact absurd e hxb | exact absurd e hxa | exact absurd e hba | exact absurd e.symm hxb | exact absurd e.symm hxa | exact absurd e.symm hba)
theorem len0 : (blB [f0]).length ≤ 2000 := by
  rw [blB_len]
  unfold blF
  refine Nat.le_trans (compact_len _) ?_
  rw [(List.mergeSort_perm _ _).length_eq, List.length_map, pk0]
  decide
theorem siz0 : ∀ b ∈ blB [f0], b.size ≤ 100000 := by
  intro b hb
  rw [blB_mem, pk0] at hb
  simp only [List.mem_cons, List.not_mem_nil, or_false] at hb
  rcases hb with rfl | rfl | rfl <;> decide

set_option maxHeartbeats 4000000 in
set_option maxRecDepth 100000 in
theorem treeBegun_any (w : World) (he : Env w) :
    Calls Tryz.prog 7 #[] w fun e w' => e = .returned (.bool true) ∧ Below w.heap.size w w' := by
  have hA : Below w.heap.size w (w.alloc (.cells #[.string ⟨#[97, 47, 98]⟩, .string ⟨#[120]⟩, .bool false] 44)) := (Below.refl _ w).alloc (Nat.le_refl _) _
  have hfl : IsFl (w.alloc (.cells #[.string ⟨#[97, 47, 98]⟩, .string ⟨#[120]⟩, .bool false] 44)) (some ⟨w.heap.size, 0, none⟩) [f0] := by
    refine .inr ⟨w.heap.size, 0, rfl, by rw [World.size_alloc]; omega, fun j hj => ?_⟩
    have hj0 : j = 0 := by simpa using hj
    subst hj0
    have hx := heap_alloc_new w (.cells #[.string ⟨#[97, 47, 98]⟩, .string ⟨#[120]⟩, .bool false] 44)
    exact ⟨Lib.cell_of_heap hx 0, Lib.cell_of_heap hx 1, Lib.cell_of_heap hx 2⟩
  have HB : Hid (Calls Tryz.prog 9 #[.slice (some ⟨w.heap.size, 0, none⟩) 1 1] (w.alloc (.cells #[.string ⟨#[97, 47, 98]⟩, .string ⟨#[120]⟩, .bool false] 44)) (BlP [f0] (w.alloc (.cells #[.string ⟨#[97, 47, 98]⟩, .string ⟨#[120]⟩, .bool false] 44)))) := Blobs_any _ 1 [f0] _ hfl (he.up hA)
  have HR : Hid (∀ W, Below w.heap.size w W → IsFl W (some ⟨w.heap.size, 0, none⟩) [f0] → Calls Tryz.prog 8 #[.slice (some ⟨w.heap.size, 0, none⟩) 1 1] W fun e w' => e = .returned (.tuple #[.string (smD (pkT1 [f0]).1), .int .i64 0]) ∧ Below W.heap.size W w') := fun W hW hf => by
    have := Root_any _ 1 [f0] W hf (he.up hW)
    rw [if_pos ch0, ch0] at this
    exact this
  have HF : Hid (∀ W ba bc, Below w.heap.size w W → IsTxs W ba (blB [f0]) → Calls Tryz.prog 10 #[.string (smD (pkT1 [f0]).1), .slice ba (blF [f0]).length bc] W (FtP [f0] W)) := fun W ba bc hW ht => by
    have := Flat_ok [f0] ba bc (blB [f0]) W ok0 len0 ht siz0 (he.up hW) (fun t h => (blB_mem _ _).2 h) cl0
    rw [blB_len] at this
    exact this
  have HFl : Hid (∀ W, Below (w.alloc (.cells #[.string ⟨#[97, 47, 98]⟩, .string ⟨#[120]⟩, .bool false] 44)).heap.size (w.alloc (.cells #[.string ⟨#[97, 47, 98]⟩, .string ⟨#[120]⟩, .bool false] 44)) W → IsFl W (some ⟨w.heap.size, 0, none⟩) [f0]) := fun W hW => hfl.below hW (Nat.le_refl _)
  have HA : Hid (Below w.heap.size w (w.alloc (.cells #[.string ⟨#[97, 47, 98]⟩, .string ⟨#[120]⟩, .bool false] 44))) := hA
  clear hA hfl he
  generalize smD (pkT1 [f0]).1 = rt at *
  go_enter Tryz.func7, Tryz.ntmps7
  go_wp2_with fail
  refine HB.out.mono ?_
  rintro e w1 ⟨v, rfl, hrow, _, hb1⟩
  have hrow1 := hrow ch0
  obtain ⟨ba, bc, rfl⟩ := own_shape hrow1
  rw [ch0]
  have hB1 : Below w.heap.size w w1 := HA.out.trans (hb1.mono HA.out.size)
  have HR1 : Hid (Calls Tryz.prog 8 #[.slice (some ⟨w.heap.size, 0, none⟩) 1 1] w1 fun e w' => e = .returned (.tuple #[.string rt, .int .i64 0]) ∧ Below w1.heap.size w1 w') := HR.out w1 hB1 (HFl.out w1 hb1)
  have HT1 : Hid (IsTxs w1 ba (blB [f0])) := bl_txs hrow1
  have HF1 : Hid (IsFl w1 (some ⟨w.heap.size, 0, none⟩) [f0]) := HFl.out w1 hb1
  have HB1 : Hid (Below w.heap.size w w1) := hB1
  clear hrow hrow1 hb1 hB1 HR HFl
  generalize (blF [f0]).length = bl at *
  go_wp2_with fail
  refine HR1.out.mono ?_
  rintro e w2 ⟨rfl, hb2⟩
  have hB2 : Below w.heap.size w w2 := HB1.out.trans (hb2.mono HB1.out.size)
  have HF2 : Hid (Calls Tryz.prog 10 #[.string rt, .slice ba bl bc] w2 (FtP [f0] w2)) := HF.out w2 ba bc hB2 (HT1.out.below hb2 (Nat.le_refl _))
  have HFl2 : Hid (IsFl w2 (some ⟨w.heap.size, 0, none⟩) [f0]) := HF1.out.below hb2 (Nat.le_refl _)
  have HB2 : Hid (Below w.heap.size w w2) := hB2
  clear hb2 hB2 HF
  go_wp2_with fail
  refine HF2.out.mono ?_
  rintro e w3 ⟨v, rfl, hrow3, hb3⟩
  obtain ⟨fa, fc, rfl⟩ := own_shape hrow3
  have HS : Hid (Calls Tryz.prog 12 #[.slice (some ⟨w.heap.size, 0, none⟩) 1 1, .slice fa 1 fc] w3 (SmP [f0] [f0] w3)) := SameFiles_any _ fa 1 fc [f0] [f0] w3 (by decide) (HFl2.out.below hb3 (Nat.le_refl _)) (own_files hrow3 rfl)
  have HB3 : Hid (Below w.heap.size w w3) := HB2.out.trans (hb3.mono HB2.out.size)
  rw [show [f0].length = 1 from rfl]
  clear hrow3 hb3
  go_wp2_with fail
  refine HS.out.mono ?_
  rintro e w4 ⟨b, rfl, hb, n, rfl⟩
  rw [hb.2 rfl]
  have HB4 : Hid (Below w.heap.size w (w3.drewN n)) := below_drewN HB3.out n
  clear hb
  go_wp2
  go_ret
  exact ⟨rfl, HB4.out⟩
end Go.Proofs.YtefdfcjohkndgaaGreatDoor

/- What the row of a tree's statement lays: the digest's numbers; the world's shape. -/
namespace Go.Proofs.YtefdfcjohkndgaaGreatDoor
open Go.ChangeShapes Go.WideShapes Go.ChangeAt Go.RowKit Go.Shelf

theorem own : ownKnob Tryz.prog.godebug = none := by kernel_rfl
theorem laid_ints {W : World} {name : String} {l : List Int} {rest : List (String × DataW Unit)} {ps : List MemPlace} {g0 T n : Nat} (h : DataW.LaidVars Tryz.prog W ((name, .agg (l.map fun n => .lit (.int .u32 n))) :: rest) ps)
    (hg0 : Tryz.prog.globalNamed name = some g0) (ht0 : (Tryz.prog.globals[g0]?).map (·.type) = some T) (hT : Tryz.prog.underlying T = some (.array n 87)) (hn : l.length = n) : LaidAt g0 W l ∧ ∃ q, DataW.LaidVars Tryz.prog W rest q := by
  obtain ⟨g, t, cs, fuel, p, q, hg, ht, hv, hd, hrest, _⟩ := h
  obtain rfl := Option.some.inj (hg0.symm.trans hg)
  obtain rfl := Option.some.inj (ht0.symm.trans ht)
  refine ⟨fun r hr => ?_, q, hrest⟩
  obtain ⟨xs, m, _, ex, _, hl, hel⟩ := DataW.trod_array hT hd
  have c5 : Tryz.prog.cellsOf 87 = 1 := by kernel_rfl
  have e3 : (xs.map (·.1)) = l.map fun n => .lit (.int .u32 n) := (DataW.agg.inj (Prod.mk.inj ex).1).symm
  have hxl : xs.length = l.length := by have := congrArg List.length e3; simpa using this
  have hE := hel r (by omega)
  rw [c5, Nat.mul_one, List.getElem?_eq_getElem (by omega)] at hE
  obtain ⟨z, e1, e2, _⟩ := DataW.trod_int Tryz.underlying87 hE
  have e4 : (xs.map (·.1))[r]? = (l.map fun n => (DataW.lit (.int .u32 n) : DataW Unit))[r]? := by rw [e3]
  rw [List.getElem?_map, List.getElem?_map, List.getElem?_eq_getElem (by omega : r < xs.length), List.getElem?_eq_getElem hr, e2] at e4
  have hz : z = l[r] := by
    simpa only [Option.map_some, Option.some.injEq, DataW.lit.injEq, Lit.int.injEq, true_and] using e4
  rw [World.var?_cell hg hv r, ← hz]
  have : cs.toList[r]? = some (.int .u32 z) := by
    have h0 : ((cs.toList.drop r).take 1)[0]? = some (.int .u32 z) := by rw [e1]; rfl
    simpa using h0
  simpa using this


theorem env_of {W : World} (h : laidMetH Tryz.prog [("unicode/utf8.acceptRanges", Rows.laid_unicode_utf8_acceptRanges), ("foundry/digest.squareRoots", Rows.laid_foundry_digest_squareRoots), ("foundry/digest.cubeRoots", Rows.laid_foundry_digest_cubeRoots), ("unicode/utf8.first", Rows.laid_unicode_utf8_first)] W) (hs : W.ShapedOpen Tryz.prog) : Env W := by
  refine ⟨max_of_shaped hs, ?_⟩
  rw [MakeChecks.laidMetH_plain _ _ _ (by kernel_rfl)] at h
  obtain ⟨ps, hv, _, _⟩ := h
  obtain ⟨_, _, _, _, _, q0, _, _, _, _, hv0, _⟩ := hv
  rw [sqL_eq, cuL_eq] at hv0
  obtain ⟨h1, q, hq⟩ := laid_ints (T := 88) hv0 (g0 := 0) (by kernel_rfl) (by kernel_rfl) Tryz.underlying88 sqL_len
  obtain ⟨h2, _⟩ := laid_ints (T := 121) hq (g0 := 1) (by kernel_rfl) (by kernel_rfl) Tryz.underlying121 cuL_len
  exact ⟨by rw [sq8_l]; exact h1, h2⟩
end Go.Proofs.YtefdfcjohkndgaaGreatDoor

/- Files that came in as an argument. -/
namespace Go.Proofs.YtefdfcjohkndgaaGreatDoor
open Go.ChangeShapes Go.WideShapes Go.ChangeAt Go.RowKit Go.Shelf Go.Joins
open Go.Deep (trod_struct3)

theorem bytesFl : Tryz.prog.bytesOf 44 = 40 := by kernel_rfl
theorem addr_addF (b off j : Nat) : (⟨b, off, none⟩ : Addr).add j = ⟨b, off + j, none⟩ := by
  unfold Addr.add
  split <;> simp_all
theorem cellsFl : Tryz.prog.cellsOf 44 = 3 := by kernel_rfl

set_option maxRecDepth 100000 in
theorem arg_file {H : Type} {enc : TypeId × Value → H} {W : World} {cs : List Value} {n : Nat} {y : DataW H × List MemPlace} (hl : cs.length = 3)
    (h : DataW.trod enc Tryz.prog W 0 (fun _ => true) true n 44 cs = some y) : ∃ nd : Fl, cs = [.string nd.pa, .string nd.tx, .bool nd.rn] ∧ nd.pa.size ≤ maxLen ∧ nd.tx.size ≤ maxLen := by
  match cs, hl with
  | [c0, c1, c2], _ =>
    obtain ⟨y0, y1, y2, m, hx, _, h0, h1, h2⟩ := trod_struct3 Tryz.underlying44 h
    have k1 : Tryz.prog.cellsOf 9 = 1 := by kernel_rfl
    have k2 : Tryz.prog.cellsOf 4 = 1 := by kernel_rfl
    simp [k1, k2] at h0 h1 h2
    obtain ⟨s, e0, _, z0⟩ := DataW.trod_string Tryz.underlying9 h0
    obtain ⟨t, e1, _, z2⟩ := DataW.trod_string Tryz.underlying9 h1
    obtain ⟨a, e2, _⟩ := DataW.trod_bool Tryz.underlying4 h2
    simp at e0 e1 e2
    subst e0 e1 e2
    exact ⟨⟨s, t, a⟩, rfl, z0, z2⟩

set_option maxRecDepth 100000 in
/-- A slice of nodes that came in. -/
theorem arg_files {H : Type} {enc : TypeId × Value → H} {W : World} {v : Value} {d : DataW H} {p : List MemPlace} {base : Nat}
    (hv : Value.okWide Tryz.prog W .any base 22 v) (h : DataW.Trod enc Tryz.prog W 0 (fun _ => true) true 22 v d p) (hr : ∀ elems sp, d = .slice elems sp → elems.length ≤ 4611686018427387904) : ∃ (L : List Fl) (ao : Option Addr) (cap : Nat), v = .slice ao L.length cap ∧ IsFl W ao L ∧ L.length ≤ 4611686018427387904 := by
  obtain ⟨a, len, cap, rfl⟩ := okWide_slice Tryz.underlying22 hv
  obtain ⟨fuel, hf⟩ := h
  rcases DataW.trod_slice Tryz.underlying22 hf with ⟨hcs, _⟩ | ⟨x, l, c, elems, rest, n, _, hcs, hx, _, _, _, hlen, hel, _, _⟩
  · simp [Value.cells] at hcs
    obtain ⟨rfl, rfl, rfl⟩ := hcs
    exact ⟨[], none, 0, rfl, Or.inl rfl, by decide⟩
  · simp [Value.cells] at hcs
    obtain ⟨rfl, rfl, rfl⟩ := hcs
    have hb : len ≤ 4611686018427387904 := by
      have := hr _ _ (congrArg Prod.fst hx)
      simp at this
      omega
    have each : ∀ i : Fin len, ∃ nd : Fl, (nd.pa.size ≤ maxLen ∧ nd.tx.size ≤ maxLen) ∧ W.cell? (x.add (i.val * 3)) = some (.string nd.pa) ∧ W.cell? ((x.add (i.val * 3)).add 1) = some (.string nd.tx) ∧ W.cell? ((x.add (i.val * 3)).add 2) = some (.bool nd.rn) := by
      intro i
      have h1 := hel i.val i.isLt
      rw [cellsFl, List.getElem?_eq_getElem (by omega : i.val < elems.length), Option.bind_eq_some_iff] at h1
      obtain ⟨cs', hc, hy⟩ := h1
      have hs := World.cells?_some hc
      obtain ⟨nd, rfl, z⟩ := arg_file (by simpa using hs.2.1) hy
      refine ⟨nd, z, ?_, ?_, ?_⟩
      · have := hs.2.2 0 (by omega); simpa [Addr.add] using this
      · have := hs.2.2 1 (by omega); simpa using this
      · have := hs.2.2 2 (by omega); simpa using this
    obtain ⟨f, hf2⟩ := Classical.axiomOfChoice each
    have hlen2 : (List.ofFn f).length = len := by simp
    refine ⟨List.ofFn f, some x, cap, by rw [hlen2], ?_, by rw [hlen2]; exact hb⟩
    by_cases h0 : len = 0
    · exact Or.inl (List.length_eq_zero_iff.1 (hlen2.trans h0))
    · obtain ⟨b, off, spot⟩ := x
      have c0 := (hf2 ⟨0, by omega⟩).2.1
      have hspot : spot = none := by simpa [Addr.add] using World.cell?_spot c0
      subst hspot
      refine Or.inr ⟨b, off, rfl, by simpa [Addr.add] using World.block_lt_of_cell? W _ c0, fun j hj => ?_⟩
      rw [hlen2] at hj
      rw [List.getElem_ofFn]
      have k := (hf2 ⟨j, hj⟩).2
      rw [addr_addF, addr_addF, addr_addF] at k
      exact k
end Go.Proofs.YtefdfcjohkndgaaGreatDoor

/- What numberSize and ReadNumber answer where no packed number stands at the text's beginning. -/
namespace Go.Proofs.YtefdfcjohkndgaaGreatDoor
open Go.RowKit Go.Shelf

set_option maxHeartbeats 400000 in
set_option maxRecDepth 100000 in
theorem numberSize_no (s : ByteArray) (w : World) (hs : s.size ≤ maxLen) (hlo : ∀ j : Nat, (hj : j < s.size) → 128 ≤ s[j].toNat) :
    Calls Tryz.prog 182 #[.string s] w fun e w' => e = .returned (.tuple #[.int .i64 s.size, .bool false]) ∧ w' = w := by
  unfold maxLen at hs
  have HL : Hid _ := hlo
  clear hlo
  go_enter Tryz.func182, Tryz.ntmps182
  go_wp2
  go_loop [7] (fun i => ∃ m : Nat, m ≤ s.size ∧ i = .int .i64 m) (fun i => s.size - (intOf i).toNat)
  case atStart => exact ⟨0, Nat.zero_le _, rfl⟩
  case round =>
    obtain ⟨m, hm, rfl⟩ := hrel
    by_cases hlt : m < s.size
    · have h1 : 128 ≤ (s[m].toNat : Int) := by have := HL.out m hlt; omega
      go_wp2
      exact ⟨⟨m + 1, by omega, by go_num⟩, by simp [intOf]; omega⟩
    · go_wp2
      go_ret2
      exact ⟨rfl, rfl⟩

/-- Either no byte is below 128, or there is a first one. -/
theorem first_low (s : ByteArray) : (∀ j : Nat, (hj : j < s.size) → 128 ≤ s[j].toNat) ∨ ∃ k, ∃ hk : k < s.size, (∀ j : Nat, (hj : j < k) → 128 ≤ s[j].toNat) ∧ s[k].toNat < 128 := by
  by_cases h : ∃ k, ∃ hk : k < s.size, s[k].toNat < 128
  · refine Or.inr ?_
    obtain ⟨k0, h0⟩ := h
    have : ∀ n k, k ≤ n → (∃ hk : k < s.size, s[k].toNat < 128) → ∃ k, ∃ hk : k < s.size, (∀ j : Nat, (hj : j < k) → 128 ≤ s[j].toNat) ∧ s[k].toNat < 128 := by
      intro n
      induction n with
      | zero =>
        rintro k hk ⟨hks, hlow⟩
        obtain rfl : k = 0 := by omega
        exact ⟨0, hks, by omega, hlow⟩
      | succ n ih =>
        rintro k hk ⟨hks, hlow⟩
        by_cases h1 : ∃ j, ∃ hj : j < k, s[j].toNat < 128
        · obtain ⟨j, hj, hjl⟩ := h1
          exact ih j (by omega) ⟨by omega, hjl⟩
        · refine ⟨k, hks, fun j hj => ?_, hlow⟩
          rcases Nat.lt_or_ge s[j].toNat 128 with h2 | h2
          · exact absurd ⟨j, hj, h2⟩ h1
          · exact h2
    exact this k0 k0 (Nat.le_refl _) h0
  · refine Or.inl fun j hj => ?_
    rcases Nat.lt_or_ge s[j].toNat 128 with h2 | h2
    · exact absurd ⟨j, hj, h2⟩ h
    · exact h2

/-- Bytes of a number's form are what the number that they say is packed as. -/
theorem pk_val : ∀ (d : List UInt8) (c : UInt8), (∀ x ∈ d, 128 ≤ x.toNat) → c.toNat < 128 → (d = [] ∨ c.toNat ≠ 0) → pk (val (d ++ [c])) = d ++ [c] ∧ (c.toNat ≠ 0 → 0 < val (d ++ [c])) := by
  intro d
  induction d with
  | nil =>
    intro c _ hc _
    have e : val [c] = c.toNat := by simp [val]; omega
    refine ⟨?_, fun h => by rw [List.nil_append, e]; omega⟩
    rw [List.nil_append, e, pk_small _ hc]
    simp
  | cons x d ih =>
    intro c hx hc hz
    have hc0 : c.toNat ≠ 0 := by
      rcases hz with h | h
      · cases h
      · exact h
    obtain ⟨e1, e2⟩ := ih c (fun y hy => hx y (List.mem_cons_of_mem _ hy)) hc (Or.inr hc0)
    have h1 := e2 hc0
    have h2 := hx x (List.mem_cons_self ..)
    have h3 := x.toNat_lt
    simp only [List.cons_append, val]
    have hv : 128 ≤ x.toNat % 128 + 128 * val (d ++ [c]) := by omega
    refine ⟨?_, fun _ => by omega⟩
    rw [pk_more _ hv, show (x.toNat % 128 + 128 * val (d ++ [c])) / 128 = val (d ++ [c]) from by omega, e1, show (x.toNat % 128 + 128 * val (d ++ [c])) % 128 + 128 = x.toNat from by omega]
    simp

theorem data_cut (s : ByteArray) (k : Nat) (hk : k < s.size) : s.data.toList = (s.data.toList.take k ++ [s[k]]) ++ s.data.toList.drop (k + 1) := by
  rw [← take_snoc s k hk, List.take_append_drop]
theorem mem_take (s : ByteArray) (k : Nat) (hk : k < s.size) (p : UInt8 → Prop) (h : ∀ j : Nat, (hj : j < k) → p s[j]) : ∀ x ∈ s.data.toList.take k, p x := by
  intro x hx
  obtain ⟨j, hj, rfl⟩ := List.getElem_of_mem hx
  have hj' : j < k := by rw [List.length_take] at hj; omega
  rw [List.getElem_take]
  exact h j hj'

/-- No packed number stands at the beginning. -/
def NoNum (s : ByteArray) : Prop := ¬ ∃ (n : Nat) (r : List UInt8), n ≤ 9007199254740991 ∧ s.data.toList = pk n ++ r

set_option maxHeartbeats 2000000 in
set_option maxRecDepth 100000 in
theorem ReadNumber_big (s : ByteArray) (w : World) (hs : s.size ≤ maxLen) (k : Nat) (hk : k < s.size) (hk8 : k < 8) (hlo : ∀ j : Nat, (hj : j < k) → 128 ≤ s[j].toNat) (hhi : s[k].toNat < 128)
    (hz : k = 0 ∨ s[k].toNat ≠ 0) (hv : 9007199254740991 < val (s.data.toList.take (k + 1))) :
    Calls Tryz.prog 178 #[.string s] w fun e w' => e = .returned (.tuple #[.int .i64 0, .int .i64 0, .int .i64 3]) ∧ w' = w := by
  have hb : (decide (((val (s.data.toList.take (k + 1)) : Nat) : Int) < 0) || decide (9007199254740991 < ((val (s.data.toList.take (k + 1)) : Nat) : Int))) = true := by simp; omega
  have HB : Hid _ := hb
  have hk0 : (k : Int) < 8 := by omega
  clear hb
  have hsz : (s.size : Int) ≤ 9223372036854775807 := by unfold maxLen at hs; omega
  have hz2 : (k : Int) = 0 ∨ (1 ≤ (k : Int) ∧ ((s[k].toNat : Int) == 0) = false) := by
    rcases Nat.eq_zero_or_pos k with h | h
    · exact Or.inl (by omega)
    · exact Or.inr ⟨by omega, by simp; omega⟩
  have HL : Hid (∀ j : Nat, (hj : j < k) → 128 ≤ s[j].toNat) := hlo
  have HH : Hid (s[k].toNat < 128) := hhi
  clear hz hv hlo hhi
  rcases hz2 with hz2 | ⟨hz2, hz3⟩
  all_goals
    go_enter Tryz.func178, Tryz.ntmps178
    go_wp2_with (go_at_call 182; refine (numberSize_yes s _ hs k hk HL.out HH.out).mono ?_; rintro e w' ⟨rfl, rfl⟩)
    go_loop [7, 38] (fun n i => ∃ m : Nat, m ≤ k + 1 ∧ i = .int .i64 m ∧ n = .int .i64 (val (s.data.toList.take m))) (fun _ i => k + 1 - (intOf i).toNat)
    case atStart => exact ⟨0, Nat.zero_le _, rfl, rfl⟩
    case round =>
      obtain ⟨m, hm, rfl, rfl⟩ := hrel
      by_cases hlt : m < k + 1
      · have h2 : m < s.size := by omega
        have hm8 : (m : Int) < 8 := by omega
        have HO : Hid _ := (or_step m (val (s.data.toList.take m)) s[m].toNat (by omega) (by have := val_lt (s.data.toList.take m); simpa [Nat.min_eq_left (Nat.le_of_lt h2)] using this))
        have HT : Hid _ := take_snoc s m h2
        go_wp2
        refine ⟨⟨m + 1, by omega, by go_num, ?_⟩, by simp [intOf]; omega⟩
        rw [HO.out, HT.out, val_snoc]
        congr 4
        simp [Nat.min_eq_left (Nat.le_of_lt h2)]
      · obtain rfl : m = k + 1 := by omega
        go_wp2_with (go_at_call 183; refine (isNoNumber_any _ _).mono ?_; rintro e w' ⟨rfl, rfl⟩; rw [HB.out])
        go_ret3
        exact ⟨rfl, rfl⟩

set_option maxHeartbeats 2000000 in
set_option maxRecDepth 100000 in
theorem ReadNumber_no (s : ByteArray) (w : World) (hs : s.size ≤ maxLen) (hno : NoNum s) :
    Calls Tryz.prog 178 #[.string s] w fun e w' => (∃ k : Int, (k != 0) = true ∧ e = .returned (.tuple #[.int .i64 0, .int .i64 0, .int .i64 k])) ∧ w' = w := by
  have hsz : (s.size : Int) ≤ 9223372036854775807 := by unfold maxLen at hs; omega
  rcases first_low s with hall | ⟨k, hk, hlo, hhi⟩
  · have HA : Hid (∀ j : Nat, (hj : j < s.size) → 128 ≤ s[j].toNat) := hall
    clear hall hno
    by_cases h8 : s.size ≤ 8
    · have h8' : (s.size : Int) ≤ 8 := by omega
      clear h8
      go_enter Tryz.func178, Tryz.ntmps178
      go_wp2_with (go_at_call 182; refine (numberSize_no s _ hs HA.out).mono ?_; rintro e w' ⟨rfl, rfl⟩)
      go_ret3
      exact ⟨⟨1, by decide, rfl⟩, rfl⟩
    · have h8' : decide ((s.size : Int) ≤ 8) = false := by simp; omega
      have h9 : (8 : Int) < s.size := by omega
      clear h8
      go_enter Tryz.func178, Tryz.ntmps178
      go_wp2_with (go_at_call 182; refine (numberSize_no s _ hs HA.out).mono ?_; rintro e w' ⟨rfl, rfl⟩)
      go_ret3
      exact ⟨⟨3, by decide, rfl⟩, rfl⟩
  · by_cases hz : k = 0 ∨ s[k].toNat ≠ 0
    · by_cases hk8 : k < 8
      · rcases Nat.lt_or_ge 9007199254740991 (val (s.data.toList.take (k + 1))) with hv | hv
        · refine (ReadNumber_big s w hs k hk hk8 hlo hhi hz hv).mono ?_
          rintro e w' ⟨rfl, rfl⟩
          exact ⟨⟨3, by decide, rfl⟩, rfl⟩
        · exfalso
          have hd := pk_val (s.data.toList.take k) s[k] (mem_take s k hk (fun x => 128 ≤ x.toNat) hlo) hhi (by
            rcases hz with h | h
            · exact Or.inl (by rw [h]; rfl)
            · exact Or.inr h)
          refine hno ⟨val (s.data.toList.take k ++ [s[k]]), s.data.toList.drop (k + 1), by rw [← take_snoc s k hk]; exact hv, ?_⟩
          rw [hd.1]
          exact data_cut s k hk
      · have hz2 : (1 : Int) ≤ (k : Int) := by omega
        have hk9 : (8 : Int) ≤ (k : Int) := by omega
        have hz3 : ((s[k].toNat : Int) == 0) = false := by
          rcases hz with h | h
          · omega
          · simp; omega
        have HL : Hid (∀ j : Nat, (hj : j < k) → 128 ≤ s[j].toNat) := hlo
        have HH : Hid (s[k].toNat < 128) := hhi
        have hks : (k : Int) < s.size := by omega
        clear hlo hhi hz hno hk8
        go_enter Tryz.func178, Tryz.ntmps178
        go_wp2_with (go_at_call 182; refine (numberSize_yes s _ hs k hk HL.out HH.out).mono ?_; rintro e w' ⟨rfl, rfl⟩)
        go_ret3
        exact ⟨⟨3, by decide, rfl⟩, rfl⟩
    · have hz2 : (1 : Int) ≤ (k : Int) := by omega
      have hz3 : ((s[k].toNat : Int) == 0) = true := by simp; omega
      have HL : Hid (∀ j : Nat, (hj : j < k) → 128 ≤ s[j].toNat) := hlo
      have HH : Hid (s[k].toNat < 128) := hhi
      have hks : (k : Int) < s.size := by omega
      clear hlo hhi hz hno
      go_enter Tryz.func178, Tryz.ntmps178
      go_wp2_with (go_at_call 182; refine (numberSize_yes s _ hs k hk HL.out HH.out).mono ?_; rintro e w' ⟨rfl, rfl⟩)
      go_ret3
      exact ⟨⟨1, by decide, rfl⟩, rfl⟩
end Go.Proofs.YtefdfcjohkndgaaGreatDoor

/- What wire's reader does where the text does not go on as it must: it gives up by a panic. -/
namespace Go.Proofs.YtefdfcjohkndgaaGreatDoor
open Go.RowKit Go.Shelf

abbrev PE : Ending := .panicked [{ v := .iface 25 (.int .i64 1), recovered := false }]

theorem giveUp_any (w : World) : Calls Tryz.prog 160 #[] w fun e w' => e = PE ∧ w' = w := by
  go_enter Tryz.func160, Tryz.ntmps160
  go_wp2
  exact ⟨rfl, rfl, rfl⟩

set_option maxHeartbeats 1000000 in
set_option maxRecDepth 100000 in
theorem rd_number_no (b : Nat) (s : ByteArray) (w : World) (hs : s.size ≤ maxLen) (hno : NoNum s) (hc : w.cell? ⟨b, 0, none⟩ = some (.string s)) :
    Calls Tryz.prog 172 #[.pointer (some ⟨b, 0, none⟩)] w fun e w' => e = PE ∧ w' = w := by
  have HN : Hid (NoNum s) := hno
  clear hno
  go_enter Tryz.func172, Tryz.ntmps172
  go_wp2_with fail
  refine (ReadNumber_no s w hs HN.out).mono ?_
  rintro e w1 ⟨⟨k, hk, rfl⟩, rfl⟩
  go_wp2_with fail
  refine (giveUp_any w1).mono ?_
  rintro e w2 ⟨rfl, rfl⟩
  go_wp2
  exact ⟨rfl, rfl, rfl⟩

/-- No packed text stands at the beginning. -/
def NoText (s : ByteArray) : Prop := ¬ ∃ (t r : List UInt8), t.length ≤ 9007199254740991 ∧ s.data.toList = pk t.length ++ (t ++ r)

set_option maxHeartbeats 1000000 in
set_option maxRecDepth 100000 in
theorem rd_text_no (b : Nat) (s : ByteArray) (w : World) (hs : s.size ≤ maxLen) (hno : NoText s) (hc : w.cell? ⟨b, 0, none⟩ = some (.string s)) (hf : w.frozen? ⟨b, 0, none⟩ = false) :
    Calls Tryz.prog 173 #[.pointer (some ⟨b, 0, none⟩)] w fun e w' => e = PE ∧ w.grownBy w' (some b) := by
  by_cases hn : NoNum s
  · go_enter Tryz.func173, Tryz.ntmps173
    go_wp2_with fail
    refine (rd_number_no b s w hs hn hc).mono ?_
    rintro e w1 ⟨rfl, rfl⟩
    go_wp2
    exact ⟨rfl, rfl, grownBy_refl _ _⟩
  · obtain ⟨n, r, hn1, hr⟩ := Classical.not_not.1 hn
    have hlt : r.length < n := by
      rcases Nat.lt_or_ge r.length n with h | h
      · exact h
      · exact absurd ⟨r.take n, r.drop n, by rw [List.length_take]; omega, by rw [List.length_take, Nat.min_eq_left h, List.take_append_drop]; exact hr⟩ hno
    have HR : Hid _ := hr
    clear hn hno hr
    go_enter Tryz.func173, Tryz.ntmps173
    go_wp2_with fail
    refine (rd_number b s w n r hs hn1 HR.out hc hf).mono ?_
    rintro e w1 ⟨rfl, s1, hs1, _, rfl⟩
    have hz : (s1.size : Int) < (n : Int) := by rw [size_of hs1]; omega
    go_wp2_with fail
    refine (giveUp_any _).mono ?_
    rintro e w2 ⟨rfl, rfl⟩
    go_wp2
    exact ⟨rfl, rfl, grownBy_set w b 0 _⟩

/-- No packed list of so many texts at most stands at the beginning. -/
def NoList (s : ByteArray) : Prop := ¬ ∃ (l : List (List UInt8)) (r : List UInt8), l.length ≤ 2000 ∧ s.data.toList = pk l.length ++ (pkAll l ++ r)

theorem pkAll_snoc (l : List (List UInt8)) (t : List UInt8) : pkAll (l ++ [t]) = pkAll l ++ (pk t.length ++ t) := by
  induction l with
  | nil => simp [pkAll]
  | cons x l ih => simp only [List.cons_append, pkAll, ih, List.append_assoc]
end Go.Proofs.YtefdfcjohkndgaaGreatDoor

/- What ReadNodes answers where the text is of no such nodes. -/
namespace Go.Proofs.YtefdfcjohkndgaaGreatDoor
open Go.RowKit Go.Shelf

/-- No packed node (whatever its texts) stands at the beginning. -/
def NoNode (s : ByteArray) : Prop := ¬ ∃ (a d : ByteArray) (k : Nat) (r : List UInt8), k ≤ 9007199254740991 ∧ s.data.toList = pkD (a, (k : Int), d) ++ r

set_option maxHeartbeats 2000000 in
set_option maxRecDepth 100000 in
theorem rd_node_no (b : Nat) (s : ByteArray) (w : World) (hs : s.size ≤ 140737488355328) (hno : NoNode s) (hc : w.cell? ⟨b, 0, none⟩ = some (.string s)) (hf : w.frozen? ⟨b, 0, none⟩ = false) :
    Calls Tryz.prog 162 #[.pointer (some ⟨b, 0, none⟩)] w fun e w' => e = PE ∧ w.grownBy w' (some b) := by
  have hsm : s.size ≤ maxLen := by unfold maxLen; omega
  have hbl : b < w.heap.size := World.block_lt_of_cell? w ⟨b, 0, none⟩ hc
  have C0 : Hid ((w.alloc (.cells #[.string ⟨#[]⟩, .int .i64 0, .string ⟨#[]⟩] 79)).cell? ⟨b, 0, none⟩ = some (.string s)) := by show _ = _; rw [World.cell?_alloc_past _ _ _ hbl]; exact hc
  have F0 : Hid ((w.alloc (.cells #[.string ⟨#[]⟩, .int .i64 0, .string ⟨#[]⟩] 79)).frozen? ⟨b, 0, none⟩ = false) := by
    show _ = _
    rw [World.frozen?_of_block (w := w) (Below.heap_alloc w _ b hbl)]; exact hf
  have G0 : Hid (w.grownBy (w.alloc (.cells #[.string ⟨#[]⟩, .int .i64 0, .string ⟨#[]⟩] 79)) (some b)) := World.grownBy_alloc w _ _
  clear hc hf
  by_cases hn : NoText s
  · have HN : Hid (NoText s) := hn
    clear hn hno
    go_enter Tryz.func162, Tryz.ntmps162
    go_wp2_with fail
    refine (rd_text_no b s _ hsm HN.out C0.out F0.out).mono ?_
    rintro e w1 ⟨rfl, hg1⟩
    have G1 : Hid (w.grownBy w1 (some b)) := grownBy_trans G0.out hg1
    clear hg1
    go_wp2
    exact ⟨rfl, rfl, G1.out⟩
  obtain ⟨ta, r1, hc1, hr1⟩ := Classical.not_not.1 hn
  have R1 : Hid _ := hr1
  clear hn
  have hle1 : ta.length ≤ 281474976710656 := by
    have h2 := size_of hr1
    simp only [List.length_append] at h2
    omega
  have hs1 : ∀ s1 : ByteArray, s1.data.toList = r1 → s1.size ≤ 140737488355328 := fun s1 h => by
    have e1 := size_of hr1
    have e2 := size_of h
    simp only [List.length_append] at e1
    omega
  have S1 : Hid _ := hs1
  have HNO : Hid (NoNode s) := hno
  clear hr1 hs1 hno
  by_cases hnt : NoNum ⟨r1.toArray⟩
  · have HT : Hid (∀ s1 : ByteArray, s1.data.toList = r1 → NoNum s1) := fun s1 h => by rw [bytes_eq h]; exact hnt
    clear hnt
    go_enter Tryz.func162, Tryz.ntmps162
    go_wp2_with fail
    refine (rd_text b s _ ta r1 hsm hle1 R1.out C0.out F0.out).mono ?_
    rintro e w1 ⟨rfl, ⟨s1, hs1, hz1, hc1'⟩, hf1, hg1⟩
    have G1 : Hid (w.grownBy w1 (some b)) := grownBy_trans G0.out hg1
    have E1 : Hid _ := hs1
    clear hg1 hs1
    go_wp2_with fail
    refine (rd_number_no b s1 w1 hz1 (HT.out s1 E1.out) hc1').mono ?_
    rintro e w2 ⟨rfl, rfl⟩
    go_wp2
    exact ⟨rfl, rfl, G1.out⟩
  obtain ⟨k, r2, ht1, ht2⟩ := Classical.not_not.1 hnt
  have T2 : Hid (r1 = pk k ++ r2) := ht2
  have S2 : Hid (r2.length ≤ 140737488355328) := by
    have h1 := S1.out ⟨r1.toArray⟩ rfl
    have h2 := size_of ht2
    simp only [List.length_append] at h2
    show _ ≤ _
    omega
  clear hnt ht2
  by_cases hn2 : NoText ⟨r2.toArray⟩
  · have HN2 : Hid (∀ s2 : ByteArray, s2.data.toList = r2 → NoText s2) := fun s2 h => by rw [bytes_eq h]; exact hn2
    clear hn2
    go_enter Tryz.func162, Tryz.ntmps162
    go_wp2_with fail
    refine (rd_text b s _ ta r1 hsm hle1 R1.out C0.out F0.out).mono ?_
    rintro e w1 ⟨rfl, ⟨s1, hs1, hz1, hc1'⟩, hf1, hg1⟩
    have G1 : Hid (w.grownBy w1 (some b)) := grownBy_trans G0.out hg1
    have E1 : Hid (s1.data.toList = pk k ++ r2) := by show _ = _; rw [hs1, T2.out]
    clear hg1 hs1
    go_wp2_with fail
    refine (rd_number2 b s1 w1 k r2 hz1 ht1 E1.out hc1' hf1).mono ?_
    rintro e w2 ⟨rfl, ⟨s2, hs2, hz2, hc2⟩, hf2, hg2⟩
    have G2 : Hid (w.grownBy w2 (some b)) := grownBy_trans G1.out hg2
    have E2 : Hid _ := hs2
    clear hg2 hs2
    go_wp2_with fail
    refine (rd_text_no b s2 w2 hz2 (HN2.out s2 E2.out) hc2 hf2).mono ?_
    rintro e w3 ⟨rfl, hg3⟩
    have G3 : Hid (w.grownBy w3 (some b)) := grownBy_trans G2.out hg3
    clear hg3
    go_wp2
    exact ⟨rfl, rfl, G3.out⟩
  obtain ⟨td, r3, hd1, hd2⟩ := Classical.not_not.1 hn2
  exfalso
  refine HNO.out ⟨⟨ta.toArray⟩, ⟨td.toArray⟩, k, r3, ht1, ?_⟩
  have hd2' : r2 = pk td.length ++ (td ++ r3) := hd2
  rw [R1.out, T2.out, hd2']
  unfold pkD pkT
  rw [show (⟨ta.toArray⟩ : ByteArray).size = ta.length from size_of rfl, show (⟨td.toArray⟩ : ByteArray).size = td.length from size_of rfl]
  simp only [List.append_assoc, Int.toNat_natCast]

/-- No packed list of so many nodes at most stands at the beginning. -/
def NoDList (s : ByteArray) : Prop := ¬ ∃ (l : List Nd) (r : List UInt8), l.length ≤ 60 ∧ (∀ n ∈ l, 0 ≤ n.2.1 ∧ n.2.1 ≤ 9007199254740991) ∧ s.data.toList = pk l.length ++ (pkDD l ++ r)

theorem pkDD_snoc (l : List Nd) (n : Nd) : pkDD (l ++ [n]) = pkDD l ++ pkD n := by rw [pkDD_append]; simp [pkDD]
theorem pkD_mem (n : Nd) : n.1.size ≤ (pkD n).length ∧ n.2.2.size ≤ (pkD n).length := by
  have h1 := size_of (s := n.1) rfl
  have h2 := size_of (s := n.2.2) rfl
  simp only [pkD, pkT, List.length_append]
  omega
theorem pkDD_mem (l : List Nd) : ∀ n ∈ l, n.1.size ≤ (pkDD l).length ∧ n.2.2.size ≤ (pkDD l).length := by
  induction l with
  | nil => intro n hn; cases hn
  | cons x l ih =>
    intro n hn
    simp only [pkDD, List.length_append]
    rcases List.mem_cons.1 hn with rfl | hn
    · have := pkD_mem n
      omega
    · have := ih n hn
      omega

set_option maxHeartbeats 4000000 in
set_option maxRecDepth 100000 in
theorem rd_dlist_no (b : Nat) (s : ByteArray) (w : World) (hs : s.size ≤ 140737488355328) (hno : NoDList s) (hc : w.cell? ⟨b, 0, none⟩ = some (.string s)) (hf : w.frozen? ⟨b, 0, none⟩ = false) :
    Calls Tryz.prog 161 #[.pointer (some ⟨b, 0, none⟩), .int .i64 60, .func (.func 162) #[] #[]] w fun e w' => e = PE ∧ w.grownBy w' (some b) := by
  have hsm : s.size ≤ maxLen := by unfold maxLen; omega
  by_cases hn : NoNum s
  · go_enter Tryz.func161, Tryz.ntmps161
    go_wp2_with fail
    refine (rd_number_no b s w hsm hn hc).mono ?_
    rintro e w1 ⟨rfl, rfl⟩
    go_wp2
    exact ⟨rfl, rfl, grownBy_refl _ _⟩
  obtain ⟨n, r, hn1, hr⟩ := Classical.not_not.1 hn
  have HR : Hid (s.data.toList = pk n ++ r) := hr
  have HN : Hid (NoDList s) := hno
  clear hn hno hr
  by_cases hn2 : 60 < n
  · have hn3 : (60 : Int) < (n : Int) := by omega
    go_enter Tryz.func161, Tryz.ntmps161
    go_wp2_with fail
    refine (rd_number b s w n r hsm hn1 HR.out hc hf).mono ?_
    rintro e w1 ⟨rfl, s1, hs1, _, rfl⟩
    go_wp2_with fail
    refine (giveUp_any _).mono ?_
    rintro e w2 ⟨rfl, rfl⟩
    go_wp2
    exact ⟨rfl, rfl, grownBy_set w b 0 _⟩
  obtain ⟨i0, hi, hz0, hz1, hz2⟩ := info_parts infD
  have hbl : b < w.heap.size := World.block_lt_of_cell? w ⟨b, 0, none⟩ hc
  have hnl : n ≤ 60 := Nat.le_of_not_lt hn2
  have hle : (n : Int) ≤ 60 := by omega
  clear hn2
  go_enter Tryz.func161, Tryz.ntmps161
  go_wp2_with fail
  refine (rd_number b s w n r hsm hn1 HR.out hc hf).mono ?_
  rintro e w1 ⟨rfl, s1, h1, hs1, rfl⟩
  have H1 : Hid _ := h1
  have HC : Hid _ := hc
  clear h1 hc
  go_wp2_with (at_make; refine wpList_make_own _ rfl _ _ 73 rfl w.heap.size 79 i0 (.agg #[.string ⟨#[]⟩, .int .i64 0, .string ⟨#[]⟩]) 3 Tryz.underlying73 hi hz0 hz1 _ _ _ n rfl rfl ?m1 ?m2 ?m3 ?m4 ?_)
  case m1 => rfl
  case m2 => rw [hz2]; omega
  case m3 => unfold maxLen; omega
  case m4 => simp
  intro w2 hown hg2
  have hc2 : w2.cell? ⟨b, 0, none⟩ = some (.string s1) := hg2.cell (World.cell?_setCell_same' _ _ _ (by rw [HC.out]; rfl)) (by simp)
  have hf2 : w2.frozen? ⟨b, 0, none⟩ = false := by
    rw [World.frozen?_of_block (w := w.setCell ⟨b, 0, none⟩ (.string s1)) (hg2.block b (by simp; exact hbl) (by simp))]
    simpa using hf
  have hgr : w.grownBy w2 (some b) := grownBy_trans (grownBy_set w b 0 _) ⟨hg2.os, hg2.tape, hg2.output, hg2.size, fun k hk _ => hg2.block k hk (by simp)⟩
  clear hg2 hf
  go_wp2
  go_loopw [8, 18] (fun v i wr => ∃ (k : Nat) (l : List Nd), k ≤ n ∧ i = .int .i64 k ∧ l.length = k ∧ (∀ n ∈ l, 0 ≤ n.2.1 ∧ n.2.1 ≤ 9007199254740991) ∧ wr.ownsRow w.heap.size 79 3 v k (ndCells l) ∧ (∃ s' : ByteArray, s.data.toList = pk n ++ (pkDD l ++ s'.data.toList) ∧ s'.size ≤ 140737488355328 ∧ wr.cell? ⟨b, 0, none⟩ = some (.string s')) ∧ wr.frozen? ⟨b, 0, none⟩ = false ∧ w.grownBy wr (some b)) (fun _ i _ => n - (intOf i).toNat)
  case atStart =>
    refine ⟨0, [], Nat.zero_le _, rfl, rfl, (by intro n hn; cases hn), by simpa [ndCells] using hown, ⟨s1, by rw [HR.out, H1.out]; simp [pkDD], ?_, hc2⟩, hf2, hgr⟩
    have e1 := size_of HR.out
    have e2 := size_of H1.out
    rw [List.length_append] at e1
    omega
  case round =>
    obtain ⟨k, l, hk, rfl, hlk, hkd, hok, ⟨s2, h2, hs2, hck⟩, hfk, hgk⟩ := hrel
    clear hown hc2 hf2 hgr
    have H2 : Hid _ := h2
    have hsz := hgk.size
    have HLK : Hid _ := hlk
    have HKD : Hid _ := hkd
    have hs2m : s2.size ≤ maxLen := by unfold maxLen; omega
    clear h2 hlk hkd
    by_cases hlt : k < n
    · by_cases hnt : NoNode s2
      · have HT : Hid (NoNode s2) := hnt
        clear hnt
        go_wp2_with fail
        refine (rd_node_no b s2 _ hs2 HT.out hck hfk).mono ?_
        rintro e w3 ⟨rfl, hg3⟩
        have HG3 : Hid (w.grownBy w3 (some b)) := grownBy_trans hgk hg3
        clear hg3 hgk
        go_wp2
        exact ⟨rfl, rfl, HG3.out⟩
      · obtain ⟨ta, td, tn, r3, ht1, ht2⟩ := Classical.not_not.1 hnt
        have hle1 : ta.size ≤ 281474976710656 ∧ td.size ≤ 281474976710656 := by
          have := size_of ht2
          have := pkD_mem (ta, (tn : Int), td)
          simp only [List.length_append] at *
          omega
        have H4 : Hid (s2.data.toList = pkD (ta, (tn : Int), td) ++ r3) := ht2
        have HL1 : Hid _ := hle1
        clear hnt ht2 hle1
        go_wp2_with fail
        refine (rd_node b tn s2 ta td _ r3 hs2m ht1 HL1.out.1 HL1.out.2 H4.out hck hfk).mono ?_
        rintro e w3 ⟨rfl, ⟨s3, h3, hs3, hc3⟩, hf3, hg3⟩
        have hok3 := hok.kept hg3 (Or.inr (fun e => by have := hok.lt b e; omega))
        have HG3 : Hid _ := grownBy_trans hgk hg3
        have H3 : Hid _ := h3
        have hsz3 := hg3.size
        clear hok hg3 h3 hck hfk hgk
        go_wp2_with (at_builtin; refine wpList_append_own _ rfl _ _ 73 rfl w.heap.size 79 i0 (.agg #[.string ⟨#[]⟩, .int .i64 0, .string ⟨#[]⟩]) 3 40 Tryz.underlying73 hi hz0 hz1 hz2 rfl (by decide) _ _ _ rfl (hok3.alloc _) ⟨w3.heap.size, 0, none⟩ 1 1 [.string ta, .int .i64 tn, .string td] rfl rfl ?c1 ?c2 ?c3 ?c4 ?c5 ?_)
        case c1 =>
          intro j u hj
          match j, hj with
          | 0, hj => simp at hj; subst hj; simp [Addr.add]
          | 1, hj => simp at hj; subst hj; simp [Addr.add]
          | 2, hj => simp at hj; subst hj; simp [Addr.add]
        case c2 => intro u hu; simp at hu; rcases hu with rfl | rfl | rfl <;> rfl
        case c3 => unfold maxLen; omega
        case c4 => omega
        case c5 => simp; omega
        intro v' w4 hown4 hg4 _
        have hrow : ∀ j, u8.ownBlock = some j → w.heap.size ≤ j := fun j hj => (hok3.lt j hj).1
        have hnb : some b ≠ u8.ownBlock := fun e => by have := hrow b e.symm; omega
        have hlt3 : b < w3.heap.size := by omega
        have hc4 : w4.cell? ⟨b, 0, none⟩ = some (.string s3) := by
          rw [World.cell?_of_block (w := w3) ((hg4.block b (by simp; omega) hnb).trans (Below.heap_alloc w3 _ b hlt3))]
          exact hc3
        have hf4 : w4.frozen? ⟨b, 0, none⟩ = false := by
          rw [World.frozen?_of_block (w := w3) ((hg4.block b (by simp; omega) hnb).trans (Below.heap_alloc w3 _ b hlt3))]
          exact hf3
        have HG4 : Hid (w.grownBy w4 (some b)) := by
          have g1 := HG3.out
          have hs4 := hg4.size
          refine ⟨hg4.os.trans g1.os, hg4.tape.trans g1.tape, hg4.output.trans g1.output, by simp at hs4; omega, fun j hj hr => ?_⟩
          rw [hg4.block j (by simp; omega) (fun e => by have := hrow j e.symm; omega), Below.heap_alloc w3 _ j (by omega)]
          exact g1.block j hj hr
        have HO : Hid _ := hown4
        clear hown4 hg4 hok3 hrow hnb hc3 hf3
        go_wp2
        refine ⟨⟨k + 1, l ++ [(ta, (tn : Int), td)], by omega, by go_num, by rw [List.length_append, HLK.out]; rfl, ?_, ?_, ⟨s3, ?_, ?_, hc4⟩, hf4, HG4.out⟩, by simp [intOf]; omega⟩
        · intro n hn
          rcases List.mem_append.1 hn with h | h
          · exact HKD.out n h
          · obtain rfl := List.mem_singleton.1 h
            exact ⟨by show (0 : Int) ≤ (tn : Int); omega, by show (tn : Int) ≤ 9007199254740991; omega⟩
        · rw [show ndCells (l ++ [(ta, (tn : Int), td)]) = ndCells l ++ [.string ta, .int .i64 tn, .string td] from by simp [ndCells]]
          exact HO.out
        · rw [H2.out, H4.out, pkDD_snoc, H3.out]
          simp only [List.append_assoc]
        · have e1 := size_of H4.out
          have e2 := size_of H3.out
          simp only [List.length_append] at e1
          omega
    · exfalso
      obtain rfl : k = n := by omega
      exact HN.out ⟨l, s2.data.toList, by rw [HLK.out]; exact hnl, HKD.out, by rw [HLK.out]; exact H2.out⟩

set_option maxHeartbeats 1000000 in
theorem rd_nodes_no (b : Nat) (s : ByteArray) (w : World) (hs : s.size ≤ 140737488355328) (hno : NoDList s) (hc : w.cell? ⟨b, 0, none⟩ = some (.string s)) (hf : w.frozen? ⟨b, 0, none⟩ = false) :
    Calls Tryz.prog 142 #[.pointer (some ⟨b, 0, none⟩)] w fun e w' => e = PE ∧ w.grownBy w' (some b) := by
  have HN : Hid (NoDList s) := hno
  clear hno
  go_enter Tryz.func142, Tryz.ntmps142
  go_wp2_with fail
  refine (rd_dlist_no b s w hs HN.out hc hf).mono ?_
  rintro e w1 ⟨rfl, hg⟩
  go_wp2
  exact ⟨rfl, rfl, hg⟩

set_option maxHeartbeats 1000000 in
theorem catch_pan_d (p q : Addr) (x y : Value) (u : TypeId) (pv : Value) (older : List PanicEntry) (w : World) (hp : w.cell? p = some x) (hpf : w.frozen? p = false) (hq : w.cell? q = some y) (hqf : w.frozen? q = false) (hpq : ¬ p.block = q.block) :
    CallsD Tryz.prog 159 #[.pointer (some p), .pointer (some q)] (.panicking ({ v := .iface u pv, recovered := false } :: older)) w fun e u' w' =>
      e = .returned (.tuple #[]) ∧ u' = .panicking ({ v := .iface u pv, recovered := true } :: older) ∧ w' = (w.setCell p (.slice none 0 0)).setCell q (.int .i64 1) := by
  have hq2 : (w.setCell p (.slice none 0 0)).cell? q = some y := by
    rw [World.cell?_of_block (w := w) (Below.heap_setCell w p _ q.block (fun e => hpq e.symm))]
    exact hq
  refine callsD_of_wpS Tryz.func159 rfl fun c₀ cs hu => ?_
  apply wpS_seq
  apply wpS_region
  simp [wpOpsS, go_sem, recoverD, hu, Tryz.ntmps159, Exit.thenS]
  refine wpS_cond (t := true) (by simp [Act.eval, Array.replicate]) ?_
  simp only [if_true]
  apply wpS_seq
  apply wpS_region
  simp [wpOpsS, go_sem, Exit.thenS]
  apply wpS_region
  simp [wpOpsS, go_sem, hp, hpf, hqf, hq2, bodyPostS, results, Tryz.results159]

/-- The door behind a panic: the closure recovers, and nil and ErrForm are answered. -/
theorem door_pan_d (w w1 : World) (tmps : Array Value) (hb : Below w.heap.size w w1) (ht6 : tmps[6]?.getD undef = .pointer (some ⟨w.heap.size, 0, none⟩)) (ht7 : tmps[7]?.getD undef = .pointer (some ⟨w.heap.size + 1, 0, none⟩)) (x y : Value)
    (hp : w1.cell? ⟨w.heap.size, 0, none⟩ = some x) (hpf : w1.frozen? ⟨w.heap.size, 0, none⟩ = false) (hq : w1.cell? ⟨w.heap.size + 1, 0, none⟩ = some y) (hqf : w1.frozen? ⟨w.heap.size + 1, 0, none⟩ = false) :
    bodyPostD Tryz.prog Tryz.f141 (fun e w' => e = .returned (.tuple #[.slice none 0 0, .int .i64 1]) ∧ Below w.heap.size w w') (Exit.panic [{ v := .iface 25 (.int .i64 1), recovered := false }])
      { tmps := tmps, defers := [{ target := Target.fn (Fn.func 159) #[.pointer (some ⟨w.heap.size, 0, none⟩), .pointer (some ⟨w.heap.size + 1, 0, none⟩)], args := #[] }] } w1 := by
  refine leaves_cons (f := 159) (args := #[.pointer (some ⟨w.heap.size, 0, none⟩), .pointer (some ⟨w.heap.size + 1, 0, none⟩)]) (by simp) (by simp [go_sem]) ?_
  refine (catch_pan_d ⟨w.heap.size, 0, none⟩ ⟨w.heap.size + 1, 0, none⟩ x y 25 (.int .i64 1) [] _ hp hpf hq hqf (by simp)).mono ?_
  rintro e u' w'' ⟨rfl, rfl, rfl⟩
  have q0 : (w1.setCell ⟨w.heap.size, 0, none⟩ (.slice none 0 0)).cell? ⟨w.heap.size, 0, none⟩ = some (.slice none 0 0) := World.cell?_setCell_same' _ _ _ (by rw [hp]; rfl)
  have q1 : ((w1.setCell ⟨w.heap.size, 0, none⟩ (.slice none 0 0)).setCell ⟨w.heap.size + 1, 0, none⟩ (.int .i64 1)).cell? ⟨w.heap.size + 1, 0, none⟩ = some (.int .i64 1) := World.cell?_setCell_same' _ _ _ (by simp [go_sem, hq])
  simp [Leaves, settle, results, Tryz.results141, go_sem, q0, q1, ht6, ht7]
  exact (hb.setCell (p := ⟨w.heap.size, 0, none⟩) (Nat.le_refl _) _).setCell (p := ⟨w.heap.size + 1, 0, none⟩) (Nat.le_succ _) _

def NoNodes (s : ByteArray) : Prop := ¬ ∃ l : List Nd, neC l = 0 ∧ s.data.toList = pk l.length ++ pkDD l

set_option maxHeartbeats 4000000 in
set_option maxRecDepth 100000 in
theorem whole_nodes_no (s : ByteArray) (w : World) (hs : s.size ≤ 140737488355328) (hno : NoNodes s) :
    Calls Tryz.prog 141 #[.string s, .func (.func 142) #[] #[], .func (.func 82) #[] #[]] w fun e w' => e = .returned (.tuple #[.slice none 0 0, .int .i64 1]) ∧ Below w.heap.size w w' := by
  have hmf : ∀ (fn : Fn) (first cap : Array Value) (w : World), (Instr.makeFunc fn first cap).run Tryz.prog w = .ok (.func fn first cap) w := fun _ _ _ _ => rfl
  by_cases hl : NoDList s
  · have HL : Hid (NoDList s) := hl
    clear hl hno
    go_enter_defers Tryz.func141, Tryz.ntmps141
    go_wp2_with fail
    refine (rd_nodes_no (w.heap.size + 1 + 1) s _ hs HL.out (by simp [go_sem]) (by simp [go_sem])).mono ?_
    rintro e w1 ⟨rfl, hg1⟩
    have hcv : w1.cell? ⟨w.heap.size, 0, none⟩ = some (.slice none 0 0) := hg1.cell (by simp [go_sem]) (by simp; omega)
    have hce : w1.cell? ⟨w.heap.size + 1, 0, none⟩ = some (.int .i64 0) := hg1.cell (by simp [go_sem]) (by simp)
    have hfv : w1.frozen? ⟨w.heap.size, 0, none⟩ = false := by
      rw [World.frozen?_of_block (hg1.block w.heap.size (by simp; omega) (by simp; omega))]; simp [go_sem]
    have hfe : w1.frozen? ⟨w.heap.size + 1, 0, none⟩ = false := by
      rw [World.frozen?_of_block (hg1.block (w.heap.size + 1) (by simp) (by simp))]; simp [go_sem]
    have HB : Hid (Below w.heap.size w w1) := ((((Below.refl _ _).alloc (Nat.le_refl _) _).alloc (by simp) _).alloc (by simp; omega) _).grown hg1 (by simp; omega) (by intro k hk; cases hk; omega)
    clear hg1
    go_wp2
    exact door_pan_d w w1 _ HB.out rfl rfl _ _ hcv hfv hce hfe
  · obtain ⟨l, r, hl2, hkd, hr⟩ := Classical.not_not.1 hl
    have hsm : s.size ≤ maxLen := by unfold maxLen; omega
    have HR : Hid (s.data.toList = pk l.length ++ (pkDD l ++ r)) := hr
    have HT : Hid (∀ t ∈ l, okW t) := fun t ht => by
      have h1 := pkDD_mem l t ht
      have h2 := size_of hr
      have h3 := hkd t ht
      simp only [List.length_append] at h2
      exact ⟨by omega, h3.1, h3.2, by omega⟩
    have HC : Hid (r = [] → neC l ≠ 0) := fun h0 hok => hno ⟨l, hok, by rw [hr, h0]; simp⟩
    clear hl hno hr
    go_enter_defers Tryz.func141, Tryz.ntmps141
    go_wp2_with fail
    refine (rd_nodes (w.heap.size + 1 + 1) s _ l r hsm hl2 HT.out HR.out (by simp [go_sem]) (by simp [go_sem])).mono ?_
    rintro e w1 ⟨v, rfl, hown, ⟨s1, hs1, _, hc1⟩, hf1, hg1⟩
    have hcv : w1.cell? ⟨w.heap.size, 0, none⟩ = some (.slice none 0 0) := hg1.cell (by simp [go_sem]) (by simp; omega)
    have hce : w1.cell? ⟨w.heap.size + 1, 0, none⟩ = some (.int .i64 0) := hg1.cell (by simp [go_sem]) (by simp)
    have hfv : w1.frozen? ⟨w.heap.size, 0, none⟩ = false := by
      rw [World.frozen?_of_block (hg1.block w.heap.size (by simp; omega) (by simp; omega))]; simp [go_sem]
    have hfe : w1.frozen? ⟨w.heap.size + 1, 0, none⟩ = false := by
      rw [World.frozen?_of_block (hg1.block (w.heap.size + 1) (by simp) (by simp))]; simp [go_sem]
    obtain ⟨a, cap, rfl⟩ := own_shape hown
    have hown' : w1.ownsRow (w.heap.size + 1 + 1 + 1) 79 3 (.slice a l.length cap) l.length (ndCells l) := by simpa using hown
    have HO : Hid (∀ u1 : Value, (w1.setCell ⟨w.heap.size, 0, none⟩ u1).ownsRow (w.heap.size + 1 + 1 + 1) 79 3 (.slice a l.length cap) l.length (ndCells l)) := fun u1 =>
      ownsRow_setCell_below hown' (a := ⟨w.heap.size, 0, none⟩) (by show w.heap.size < _; omega) u1
    have HB : Hid (Below w.heap.size w w1) := ((((Below.refl _ _).alloc (Nat.le_refl _) _).alloc (by simp) _).alloc (by simp; omega) _).grown hg1 (by simp; omega) (by intro k hk; cases hk; omega)
    have HB2 : Hid (∀ u : Value, Below w.heap.size w (w1.setCell ⟨w.heap.size, 0, none⟩ u)) := fun u => HB.out.setCell (p := ⟨w.heap.size, 0, none⟩) (Nat.le_refl _) _
    have HQ : Hid (∀ u : Value, (w1.setCell ⟨w.heap.size, 0, none⟩ u).cell? ⟨w.heap.size, 0, none⟩ = some u ∧ (w1.setCell ⟨w.heap.size, 0, none⟩ u).frozen? ⟨w.heap.size, 0, none⟩ = false ∧ (w1.setCell ⟨w.heap.size, 0, none⟩ u).cell? ⟨w.heap.size + 1, 0, none⟩ = some (.int .i64 0) ∧ (w1.setCell ⟨w.heap.size, 0, none⟩ u).frozen? ⟨w.heap.size + 1, 0, none⟩ = false) := fun u =>
      ⟨World.cell?_setCell_same' _ _ _ (by rw [hcv]; rfl), by rw [World.frozen?_setCell]; exact hfv, by rw [World.cell?_of_block (w := w1) (Below.heap_setCell w1 ⟨w.heap.size, 0, none⟩ u (w.heap.size + 1) (by show ¬ w.heap.size + 1 = w.heap.size; omega))]; exact hce, by rw [World.frozen?_setCell]; exact hfe⟩
    clear hown hown' hg1 hf1
    by_cases h0 : r = []
    · subst h0
      have HC2 : Hid (neC l ≠ 0) := HC.out rfl
      have hne := (bne_iff_ne (a := neC l) (b := 0)).2 (HC.out rfl)
      clear HC
      obtain rfl : s1 = ⟨#[]⟩ := bytes_eq hs1
      clear hs1
      go_wp2_with fail
      refine (ne_any _ l _ (own_nodes (HO.out _) hl2 HT.out)).mono ?_
      rintro e w2 ⟨rfl, hb2⟩
      obtain ⟨k1, k2, k3, k4⟩ := HQ.out (.slice a l.length cap)
      have hsz1 : w.heap.size + 1 < w1.heap.size := World.block_lt_of_cell? w1 ⟨w.heap.size + 1, 0, none⟩ hce
      have k1' := (hb2.cell (p := ⟨w.heap.size, 0, none⟩) (by simp; omega)).trans k1
      have k2' := (hb2.frozen (p := ⟨w.heap.size, 0, none⟩) (by simp; omega)).trans k2
      have k3' := (hb2.cell (p := ⟨w.heap.size + 1, 0, none⟩) (by simp; omega)).trans k3
      have k4' := (hb2.frozen (p := ⟨w.heap.size + 1, 0, none⟩) (by simp; omega)).trans k4
      have HB3 : Hid (Below w.heap.size w w2) := (HB2.out _).trans (hb2.mono (by simp; omega))
      clear hb2 k1 k2 k3 k4 hcv hce hfv hfe
      generalize neC l = rc at hne ⊢
      go_wp2_with fail
      refine (giveUp_any _).mono ?_
      rintro e w3 ⟨rfl, rfl⟩
      go_wp2
      exact door_pan_d w _ _ HB3.out rfl rfl _ _ k1' k2' k3' k4'
    · have hne : (s1.toList == []) = false := by
        rw [beq_eq_false_iff_ne, Lib.toList_data, hs1]
        exact h0
      have hne2 : s1.toList.isEmpty = false := by
        rw [Lib.toList_data, hs1]
        cases r
        · exact absurd rfl h0
        · rfl
      clear hs1 h0
      go_wp2_with fail
      refine (giveUp_any _).mono ?_
      rintro e w2 ⟨rfl, rfl⟩
      obtain ⟨k1, k2, k3, k4⟩ := HQ.out (.slice a l.length cap)
      go_wp2
      exact door_pan_d w _ _ (HB2.out _) rfl rfl _ _ k1 k2 k3 k4

set_option maxHeartbeats 1000000 in
theorem ReadNodes_no (s : ByteArray) (w : World) (hs : s.size ≤ 140737488355328) (hno : NoNodes s) :
    Calls Tryz.prog 99 #[.string s] w fun e w' => e = .returned (.tuple #[.slice none 0 0, .int .i64 1]) ∧ Below w.heap.size w w' := by
  have HN : Hid (NoNodes s) := hno
  clear hno
  go_enter Tryz.func99, Tryz.ntmps99
  go_wp2_with fail
  refine (whole_nodes_no s w hs HN.out).mono ?_
  rintro e w1 ⟨rfl, h2⟩
  go_wp2
  go_ret2
  exact ⟨rfl, h2⟩
end Go.Proofs.YtefdfcjohkndgaaGreatDoor

/- A walk through whatever texts: it ends. -/
namespace Go.Proofs.YtefdfcjohkndgaaGreatDoor
open Go.RowKit Go.Shelf Go.Maps Go.WideMaps Go.Sort
attribute [local go_sem ↓] appS_eq

/-- What is found stands among the texts. -/
def IxOk (bs : List ByteArray) (D : DataW Unit) : Prop := ∀ d : List UInt8, Maps.has D (.string d) = true → ∃ i, i < bs.length ∧ D.atKey (.string d) (.lit (.int .i64 0)) = .lit (.int .i64 (i : Int))
theorem ixG_has (key : Nat → List UInt8) (d : List UInt8) : ∀ k, Maps.has (ixG key k) (.string d) = true → ∃ j, j < k ∧ key j = d
  | 0, h => by simp [ixG, Maps.has] at h
  | k + 1, h => by
    by_cases e : key k = d
    · exact ⟨k, by omega, e⟩
    · rw [ixG_succ, has_put_other (str_ne fun e2 => e e2.symm)] at h
      obtain ⟨j, hj, h2⟩ := ixG_has key d k h
      exact ⟨j, by omega, h2⟩
theorem ixD_ok (bs : List ByteArray) : IxOk bs (ixD bs bs.length) := fun d h => by
  obtain ⟨i, h1, _, _, h4⟩ := ixG_at (dgAt bs) d bs.length (ixG_has (dgAt bs) d bs.length h)
  exact ⟨i, h1, h4⟩

section
variable {B P M : Nat} {D : DataW Unit} {ba : Option Addr} {bc : Nat} {bs : List ByteArray} {F : List Fl} {fv : Value} {w w' : World}

/-- How a text is looked for. -/
def TxQ (bs : List ByteArray) (w : World) (e : Ending) (w' : World) : Prop := w' = w ∧ ((∃ t, t ∈ bs ∧ e = .returned (.tuple #[.string t, .int .i64 0])) ∨ e = .returned (.tuple #[.string ⟨#[]⟩, .int .i64 5]))

set_option maxHeartbeats 2000000 in
set_option maxRecDepth 100000 in
theorem text_tot (h : WS B P M D ba bc bs F fv w) (hx : IxOk bs D) (d : ByteArray) (hd : d.size ≤ maxLen) :
    Calls Tryz.prog 98 #[.pointer (some ⟨P, 0, none⟩), .string d] w (TxQ bs w) := by
  obtain ⟨v, ps, hrun, hv⟩ := h.own.look_ok lawS Tryz.underlying56 (zeroIn w) (plainElem_int Tryz.underlying3 (by decide)) (keyOf_string_mk Tryz.underlying9 (s := d) hd)
  have c0 := h.c0
  have c1 := h.c1
  cases hh : Maps.has D (.string d.data.toList) with
  | true =>
    obtain ⟨i, hi, hat⟩ := hx _ hh
    rw [hat] at hv
    rw [hh] at hrun
    obtain ⟨a, rfl, hz, _⟩ := plainElem_int_inv Tryz.underlying3 hv
    injection hz with hz _
    injection hz with hz
    injection hz with _ hz
    subst hz
    rcases h.tx with h1 | ⟨g, o, rfl, h2, h3⟩
    · exfalso; rw [h1] at hi; exact absurd hi (by simp)
    have c3 := h3 i hi
    have HM : Hid (bs[i] ∈ bs) := List.getElem_mem hi
    generalize bs[i] = t at c3 HM
    have hi2 : (i : Int) < (bs.length : Int) := by omega
    clear h hh hat hv h3 hx
    go_enter Tryz.func98, Tryz.ntmps98
    go_wp2
    refine bodyPost_ret (v := .tuple #[.string t, .int .i64 0]) (by simp [results, Tryz.results98, go_sem]) rfl ?_
    exact ⟨rfl, .inl ⟨t, HM.out, rfl⟩⟩
  | false =>
    rw [hh] at hrun
    clear h hh hv hx
    go_enter Tryz.func98, Tryz.ntmps98
    go_wp2
    refine bodyPost_ret (v := .tuple #[.string ⟨#[]⟩, .int .i64 5]) (by simp [results, Tryz.results98, go_sem]) rfl ?_
    exact ⟨rfl, .inr rfl⟩

/-- How the nodes of a directory come, if there is one. -/
def NdQ (w : World) (e : Ending) (w' : World) : Prop := (∃ l, neC l = 0 ∧ NdP l w e w') ∨ ∃ er : Int, (er != 0) = true ∧ e = .returned (.tuple #[.slice none 0 0, .int .i64 er]) ∧ Below w.heap.size w w'

set_option maxHeartbeats 2000000 in
set_option maxRecDepth 100000 in
theorem nodes_tot (h : WS B P M D ba bc bs F fv w) (hx : IxOk bs D) (hs : ∀ b ∈ bs, b.size ≤ 100000) (d : ByteArray) (hd : d.size ≤ maxLen) :
    Calls Tryz.prog 60 #[.pointer (some ⟨P, 0, none⟩), .string d] w (NdQ w) := by
  have HT : Hid (Calls Tryz.prog 98 #[.pointer (some ⟨P, 0, none⟩), .string d] w (TxQ bs w)) := text_tot h hx d hd
  have HS : Hid (∀ b ∈ bs, b.size ≤ 100000) := hs
  clear h hx hs hd
  go_enter Tryz.func60, Tryz.ntmps60
  go_wp2_with fail
  refine HT.out.mono ?_
  rintro e w1 ⟨rfl, ⟨t, ht, rfl⟩ | rfl⟩
  · have hz := HS.out t ht
    by_cases hno : NoNodes t
    · have HR : Hid (Calls Tryz.prog 99 #[.string t] w1 fun e w' => e = .returned (.tuple #[.slice none 0 0, .int .i64 1]) ∧ Below w1.heap.size w1 w') := ReadNodes_no t w1 (by omega) hno
      clear ht hz hno
      go_wp2_with fail
      refine HR.out.mono ?_
      rintro e w2 ⟨rfl, hb⟩
      have HB : Hid (Below w1.heap.size w1 w2) := hb
      clear hb
      go_wp2
      refine bodyPost_ret (v := .tuple #[.slice none 0 0, .int .i64 1]) (by simp [results, Tryz.results60, go_sem]) rfl ?_
      exact .inr ⟨1, rfl, rfl, HB.out⟩
    · obtain ⟨l, hok, he⟩ : ∃ l : List Nd, neC l = 0 ∧ t.data.toList = pk l.length ++ pkDD l := Classical.byContradiction fun h => hno h
      have HR : Hid (Calls Tryz.prog 99 #[.string t] w1 fun e w' => ∃ v, e = .returned (.tuple #[v, .int .i64 0]) ∧ w'.ownsRow w1.heap.size 79 3 v l.length (ndCells l) ∧ Below w1.heap.size w1 w') := ReadNodes_pk t w1 l (by unfold maxLen; omega) hok he
      have HO : Hid (neC l = 0) := hok
      clear ht hz hno he hok
      go_wp2_with fail
      refine HR.out.mono ?_
      rintro e w2 ⟨v, rfl, hrow, hb⟩
      obtain ⟨na, nc, rfl⟩ := own_shape hrow
      have HRow : Hid (w2.ownsRow w1.heap.size 79 3 (.slice na l.length nc) l.length (ndCells l) ∧ Below w1.heap.size w1 w2) := ⟨hrow, hb⟩
      clear hrow hb
      go_wp2
      refine bodyPost_ret (v := .tuple #[.slice na l.length nc, .int .i64 0]) (by simp [results, Tryz.results60, go_sem]) rfl ?_
      exact .inl ⟨l, HO.out, na, nc, rfl, HRow.out⟩
  · go_wp2
    refine bodyPost_ret (v := .tuple #[.slice none 0 0, .int .i64 5]) (by simp [results, Tryz.results60, go_sem]) rfl ?_
    exact .inr ⟨5, rfl, rfl, Below.refl _ _⟩

/-- How a step ends, whatever it met. -/
def TtP (B P M : Nat) (D : DataW Unit) (ba : Option Addr) (bc : Nat) (bs : List ByteArray) (F : List Fl) (fv : Value) (w : World) (e : Ending) (w' : World) : Prop := ∃ (er : Int) (fv' : Value) (Y : List Fl), e = .returned (.int .i64 er) ∧ WS B P M D ba bc bs (F ++ Y) fv' w' ∧ (F ++ Y).length ≤ 60 ∧ FR P fv fv' w w'
theorem TtP.none {er : Int} (h : WS B P M D ba bc bs F fv w) (hb : Below w.heap.size w w') (hF : F.length ≤ 60) : TtP B P M D ba bc bs F fv w (.returned (.int .i64 er)) w' := ⟨er, fv, [], rfl, by rw [List.append_nil]; exact h.below hb, by rw [List.append_nil]; exact hF, FR.of_below hb⟩

set_option maxHeartbeats 4000000 in
set_option maxRecDepth 100000 in
theorem file_tot (h : WS B P M D ba bc bs F fv w) (hx : IxOk bs D) (nm dg p : ByteArray) (kd : Int) (hd : dg.size ≤ maxLen) (hF : F.length ≤ 60) (hpz : p.size ≤ 1000000) :
    Calls Tryz.prog 100 #[.pointer (some ⟨P, 0, none⟩), .agg #[.string nm, .int .i64 kd, .string dg], .string p] w (TtP B P M D ba bc bs F fv w) := by
  have hA : Below w.heap.size w (w.alloc (.cells #[.string nm, .int .i64 kd, .string dg] 79)) := (Below.refl _ w).alloc (Nat.le_refl _) _
  have hWA := h.below hA
  have HT : Hid (Calls Tryz.prog 98 #[.pointer (some ⟨P, 0, none⟩), .string dg] (w.alloc (.cells #[.string nm, .int .i64 kd, .string dg] 79)) (TxQ bs (w.alloc (.cells #[.string nm, .int .i64 kd, .string dg] 79)))) := text_tot hWA hx dg hd
  obtain ⟨fa, fc, rfl⟩ := own_shape h.files
  have c2 := hWA.c2
  have hxx := heap_alloc_new w (.cells #[.string nm, .int .i64 kd, .string dg] 79)
  have hz : (w.alloc (.cells #[.string nm, .int .i64 kd, .string dg] 79)).heap.size = w.heap.size + 1 := World.size_alloc _ _
  have n1 : (w.alloc (.cells #[.string nm, .int .i64 kd, .string dg] 79)).cell? ⟨w.heap.size, 1, none⟩ = some (.int .i64 kd) := Lib.cell_of_heap hxx 1
  have n2 : (w.alloc (.cells #[.string nm, .int .i64 kd, .string dg] 79)).cell? ⟨w.heap.size, 2, none⟩ = some (.string dg) := Lib.cell_of_heap hxx 2
  have c2a : ∀ o, ((w.alloc (.cells #[.string nm, .int .i64 kd, .string dg] 79)).alloc o).cell? ⟨P, 2, none⟩ = some (.slice fa F.length fc) := fun o => (((Below.refl _ (w.alloc (.cells #[.string nm, .int .i64 kd, .string dg] 79))).alloc (Nat.le_refl _) o).cell (p := ⟨P, 2, none⟩) hWA.lt).trans c2
  have HNo : Hid (∀ er : Int, TtP B P M D ba bc bs F (.slice fa F.length fc) w (.returned (.int .i64 er)) (w.alloc (.cells #[.string nm, .int .i64 kd, .string dg] 79))) := fun er => TtP.none h hA hF
  by_cases hok : p.size ≤ 100 ∧ F.length < 60
  · have hp2 : (p.size : Int) ≤ 100 := by omega
    have hF2 : ((F.length : Int) == 60) = false := by rw [beq_eq_false_iff_ne]; omega
    have HAp : Hid (∀ t r, ∃ G C w3, (appS #[22, 22] 22 #[.slice fa F.length fc, .slice (some ⟨w.heap.size + 1, 0, none⟩) 1 1]).run Tryz.prog (((w.alloc (.cells #[.string nm, .int .i64 kd, .string dg] 79)).alloc (.cells #[.string p, .string t, .bool r] 44)).drew) = .ok (.slice (some ⟨G, 0, none⟩) (F.length + 1) C) w3 ∧
      w3.cell? ⟨P, 2, none⟩ = some (.slice fa F.length fc) ∧ w3.frozen? ⟨P, 2, none⟩ = false ∧ Hid (TtP B P M D ba bc bs F (.slice fa F.length fc) w (.returned (.int .i64 0)) (w3.setCell ⟨P, 2, none⟩ (.slice (some ⟨G, 0, none⟩) (F.length + 1) C)))) := fun t r => by
      obtain ⟨G, C, w3, hap, f2, fz, hws, hfr⟩ := hWA.file ⟨p, t, r⟩ (by omega)
      rw [hz] at hap
      exact ⟨G, C, w3, hap, f2, fz, 0, _, [⟨p, t, r⟩], rfl, hws, by rw [List.length_append, List.length_singleton]; omega, (FR.of_below hA).trans hfr⟩
    clear h hA hWA hxx hz hd hF hok hpz hx
    by_cases hk : kd = 2
    · subst hk
      go_enter Tryz.func100, Tryz.ntmps100
      go_wp2_with fail
      refine HT.out.mono ?_
      rintro e w1 ⟨rfl, ⟨t, ht, rfl⟩ | rfl⟩
      · obtain ⟨G, C, w3, hap, f2, fz, HE⟩ := HAp.out t true
        clear ht HAp
        go_wp2_with fail
        go_region
        go_wp2
        go_ret
        exact HE.out
      · go_wp2
        go_ret
        exact HNo.out 5
    · have hk2 : (kd == 2) = false := beq_eq_false_iff_ne.2 hk
      clear hk
      go_enter Tryz.func100, Tryz.ntmps100
      go_wp2_with fail
      refine HT.out.mono ?_
      rintro e w1 ⟨rfl, ⟨t, ht, rfl⟩ | rfl⟩
      · obtain ⟨G, C, w3, hap, f2, fz, HE⟩ := HAp.out t false
        clear ht HAp
        go_wp2_with fail
        go_region
        go_wp2
        go_ret
        exact HE.out
      · go_wp2
        go_ret
        exact HNo.out 5
  · clear h hA hWA hxx hd hx c2a n1
    by_cases hp : p.size ≤ 100
    · have hF60 : F.length = 60 := by omega
      have hp2 : (p.size : Int) ≤ 100 := by omega
      have hF2 : ((F.length : Int) == 60) = true := by rw [beq_iff_eq]; omega
      clear hok hF hp hF60 hpz hz
      go_enter Tryz.func100, Tryz.ntmps100
      go_wp2_with fail
      refine HT.out.mono ?_
      rintro e w1 ⟨rfl, ⟨t, ht, rfl⟩ | rfl⟩
      · clear ht
        go_wp2
        go_ret
        exact HNo.out 2
      · go_wp2
        go_ret
        exact HNo.out 5
    · have hp2 : ¬ (p.size : Int) ≤ 100 := by omega
      have hp3 : (100 : Int) < (p.size : Int) := by omega
      clear hok hF hp hpz hz
      go_enter Tryz.func100, Tryz.ntmps100
      go_wp2_with fail
      refine HT.out.mono ?_
      rintro e w1 ⟨rfl, ⟨t, ht, rfl⟩ | rfl⟩
      · clear ht
        go_wp2
        go_ret
        exact HNo.out 2
      · go_wp2
        go_ret
        exact HNo.out 5
end
end Go.Proofs.YtefdfcjohkndgaaGreatDoor
