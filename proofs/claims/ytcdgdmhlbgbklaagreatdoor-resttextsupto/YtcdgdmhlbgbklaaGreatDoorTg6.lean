/- Flat: of a tree's texts. -/
import Derived.Deep.QuietTactic
import Derived.BigQuiet
import Derived.BigRegion
import Derived.ProofKit
import Derived.OpenShut
import Derived.ShutString
import Derived.ChangeOld
import Derived.SliceStrings
import Derived.Below
import Derived.Lib.SmallJoins
import Derived.Test.YtcdgdmhlbgbklaaGreatDoorTg5
namespace Go.Proofs.YtcdgdmhlbgbklaaGreatDoor
open Go.RowKit Go.Shelf Go.Maps Go.WideMaps Go.Sort Go.Lib
attribute [local go_sem ↓] appS_eq

set_option maxHeartbeats 2000000 in
set_option maxRecDepth 100000 in
theorem comparePaths_w (a b : Fl) (w : World) :
    Calls Tryz.prog 56 #[.agg #[.string a.pa, .string a.tx, .bool a.rn], .agg #[.string b.pa, .string b.tx, .bool b.rn]] w fun e w' => e = .returned (.int .i64 (cmpB a.pa b.pa)) ∧ w' = (w.alloc (.cells #[.string a.pa, .string a.tx, .bool a.rn] 48)).alloc (.cells #[.string b.pa, .string b.tx, .bool b.rn] 48) := by
  obtain ⟨p, t, r⟩ := a
  obtain ⟨p2, t2, r2⟩ := b
  have HC : Hid (∀ W, Calls Tryz.prog 99 #[.string p, .string p2] W fun e w' => e = .returned (.int .i64 (cmpB p p2)) ∧ w' = W) := Compare_s p p2
  simp only
  generalize cmpB p p2 = r9 at *
  go_enter Tryz.func56, Tryz.ntmps56
  go_wp2_with (first | (go_at_call 99; refine (HC.out _).mono ?_; rintro e w1 ⟨rfl, hw⟩; subst w1) | go_in)
  go_ret
  exact ⟨rfl, rfl⟩

def encT (x : ByteArray × ByteArray × Bool) : List Value := [.string x.1, .string x.2.1, .bool x.2.2]
def tri (f : Fl) : ByteArray × ByteArray × Bool := (f.pa, f.tx, f.rn)
def ofT (x : ByteArray × ByteArray × Bool) : Fl := ⟨x.1, x.2.1, x.2.2⟩
theorem flT (F : List Fl) : flCells F = (F.map tri).flatMap encT := by
  unfold flCells
  rw [List.flatMap_map]
  rfl
theorem encT_one (x : ByteArray × ByteArray × Bool) : ∀ v ∈ encT x, v.oneCell' = true := by
  intro v hv
  simp [encT] at hv
  rcases hv with rfl | rfl | rfl <;> rfl
theorem ltT (x y : ByteArray × ByteArray × Bool) : ltOf (fun x y : ByteArray × ByteArray × Bool => cmpB x.1 y.1) x y = decide (x.1.data.toList < y.1.data.toList) := cmpB_neg x.1 y.1
theorem swoT : SWO (ltOf fun x y : ByteArray × ByteArray × Bool => cmpB x.1 y.1) where
  irrefl x := by rw [ltT]; simp [List.lt_irrefl]
  trans x y z h1 h2 := by
    rw [ltT, decide_eq_true_eq] at *
    exact List.lt_trans h1 h2
  ntrans x y z h1 h2 := by
    rw [ltT, decide_eq_false_iff_not] at *
    exact fun h3 => h2 (by
      rcases Decidable.em (y.1.data.toList < z.1.data.toList) with h | h
      · exact h
      · exfalso
        exact h1 (by
          rcases Decidable.em (x.1.data.toList < y.1.data.toList) with h4 | h4
          · exact h4
          · exact absurd h3 (List.not_lt.2 (List.le_trans (List.not_lt.1 h) (List.not_lt.1 h4)))))
theorem sort_files_uniq {L d : List Fl} (hL : L.Pairwise fun f g => pth f < pth g) (hp : d.Perm L) (hs : d.Pairwise fun f g => pth f ≤ pth g) : d = L := by
  refine List.Perm.eq_of_pairwise (le := fun f g => pth f ≤ pth g) (fun a b ha hb h1 h2 => ?_) hs (hL.imp fun h => List.le_of_lt h) hp
  have e := List.le_antisymm h1 h2
  obtain ⟨i, hi, rfl⟩ := List.getElem_of_mem (hp.mem_iff.1 ha)
  obtain ⟨j, hj, rfl⟩ := List.getElem_of_mem hb
  have hq := List.pairwise_iff_getElem.1 hL
  rcases Nat.lt_trichotomy i j with hij | hij | hij
  · have := hq i j hi hj hij; rw [e] at this; exact absurd this (List.lt_irrefl _)
  · subst hij; rfl
  · have := hq j i hj hi hij; rw [e] at this; exact absurd this (List.lt_irrefl _)

/-- Files that are a tree's, sorted, are as they were. -/
theorem sortFiles {B : Nat} {F L : List Fl} {v : Value} {w : World} (h : w.ownsRow B 48 3 v F.length (flCells F)) (hL : L.Pairwise fun f g => pth f < pth g) (hp : F.Perm L) (hl : F.length ≤ 1000000) :
    Calls Tryz.prog 55 #[v, .func (.func 56) #[] #[]] w fun e w' => e = .returned (.tuple #[]) ∧ w'.ownsRow B 48 3 v L.length (flCells L) ∧ w.grownBy w' v.ownBlock := by
  have hh := h
  rcases h.2 with ⟨rfl, h0⟩ | ⟨g, cap, cur, rfl, hbase, hb, _⟩
  · have e : F = [] := List.length_eq_zero_iff.1 h0
    subst e
    have e2 : L = [] := List.Perm.eq_nil hp.symm
    subst e2
    refine (sortFF_none none 0 _ w).mono ?_
    rintro e w' ⟨rfl, rfl⟩
    exact ⟨rfl, hh, ⟨rfl, rfl, rfl, Nat.le_refl _, fun _ _ _ => rfl⟩⟩
  · rw [flT] at hh
    have hlen : F.length = (F.map tri).length := by simp
    have hH : HoldsK encT 3 w g 0 (F.map tri).toArray := holdsK_row encT (fun x => .string x.1) (fun x => .string x.2.1) (fun x => .bool x.2.2) (fun _ => rfl) (F.map tri) hlen hh
    have hc : CmpLays Tryz.prog 56 #[] encT 3 (fun x y : ByteArray × ByteArray × Bool => cmpB x.1 y.1) g 0 (F.map tri).toArray.size w := fun m os dk _ x y => by
      refine (comparePaths_w (ofT x) (ofT y) _).mono ?_
      rintro e w' ⟨rfl, rfl⟩
      exact ⟨rfl, 0, _, by rw [alloc_eq_grow, alloc_eq_grow, grow_grow]; rfl⟩
    have := sortFF_any encT (fun _ => rfl) encT_one (fun x y : ByteArray × ByteArray × Bool => cmpB x.1 y.1) swoT 56 #[] g 0 cap (F.map tri).toArray w (enters_of Tryz.func56 (by kernel_rfl) rfl) hc hH (Array.getElem?_eq_some_iff.1 hb).1 (by simp; omega)
    rw [show (F.map tri).toArray.size = F.length from by simp] at this
    refine this.mono ?_
    rintro e w' ⟨rfl, d', m, os, hpp, hs, rfl⟩
    have e1 : d'.size = F.length := by rw [hpp.1]; simp
    have hp2 : d'.toList.Perm (F.map tri) := by
      have := hpp.2.2
      have e2 : List.take F.length d'.toList = d'.toList := List.take_of_length_le (by rw [Array.length_toList]; omega)
      have e3 : List.take F.length (F.map tri) = F.map tri := List.take_of_length_le (by simp)
      simpa [hpp.1, e2, e3] using this
    have hs2 : (d'.toList.map ofT).Pairwise fun a b => pth a ≤ pth b := by
      rw [List.pairwise_map, List.pairwise_iff_getElem]
      intro i j hi hj hij
      have hi' : i < d'.size := by simpa using hi
      have hj' : j < d'.size := by simpa using hj
      have h1 := hs i j (Nat.zero_le _) hij (by omega)
      rw [ltT, decide_eq_false_iff_not, getElem!_pos d' i hi', getElem!_pos d' j hj'] at h1
      show d'.toList[i].1.data.toList ≤ d'.toList[j].1.data.toList
      rw [Array.getElem_toList, Array.getElem_toList]
      exact List.not_lt.1 h1
    have hot : ∀ l : List Fl, (l.map tri).map ofT = l := fun l => by rw [List.map_map]; exact List.map_id' l
    have hto : ∀ l : List (ByteArray × ByteArray × Bool), (l.map ofT).map tri = l := fun l => by rw [List.map_map]; exact List.map_id' l
    have e : d'.toList.map ofT = L := sort_files_uniq hL (by
      have := hp2.map ofT
      rw [hot] at this
      exact this.trans hp) hs2
    have e4 : d'.toList = L.map tri := by rw [← e, hto]
    have hput := rowK_put (m := m) (os := os) encT (fun x => .string x.1) (fun x => .string x.2.1) (fun x => .bool x.2.2) (fun _ => rfl) (F.map tri) (L.map tri) hlen (by simp [hp.length_eq]) hh
    rw [← e4, Array.toArray_toList] at hput
    refine ⟨rfl, ?_, hput.2⟩
    rw [flT, ← hp.length_eq, ← e4]
    exact hput.1

set_option maxHeartbeats 2000000 in
set_option maxRecDepth 100000 in
theorem idxL_any (ao : Option Addr) (cap : Nat) (bs : List ByteArray) (w : World) (hn : bs.length ≤ 4611686018427387904) (hl : IsTxs w ao bs) :
    Calls Tryz.prog 95 #[.slice ao bs.length cap, .func (.func 52) #[] #[]] w (IdxP (bs.any fun b => decide (100000 < b.size)) w) := by
  have HL : Hid (IsTxs w ao bs) := hl
  have hn1 : (bs.length : Int) ≤ 4611686018427387904 := by omega
  clear hl
  go_enter Tryz.func95, Tryz.ntmps95
  go_wp2
  go_loopw [8] (fun i wr => ∃ k : Nat, k ≤ bs.length ∧ i = .int .i64 k ∧ (∀ j, (hj : j < bs.length) → j < k → ¬ 100000 < bs[j].size) ∧ wr = w) (fun i _ => bs.length - (intOf i).toNat)
  case atStart => exact ⟨0, by omega, rfl, by omega, rfl⟩
  case round =>
    obtain ⟨k, hk, rfl, hlo, rfl⟩ := hrel
    have HN : Hid (∀ j, (hj : j < bs.length) → j < k → ¬ 100000 < bs[j].size) := hlo
    clear hlo
    by_cases hlt : k < bs.length
    · rcases HL.out with h | ⟨g, o, rfl, hg, hc⟩
      · exfalso; rw [h] at hlt; exact absurd hlt (by simp)
      have c0 := hc k hlt
      have HP : Hid (100000 < bs[k].size → (bs.any fun b => decide (100000 < b.size)) = true) := fun h => List.any_eq_true.2 ⟨bs[k], List.getElem_mem hlt, decide_eq_true h⟩
      generalize hx : bs[k] = x at c0 HP
      have HX : Hid (bs[k] = x) := hx
      have HT : Hid (∀ W, Calls Tryz.prog 52 #[.string x] W fun e w' => e = .returned (.bool (decide (100000 < x.size))) ∧ w' = W) := tisTooLong_any x
      clear hx hc
      by_cases hb : 100000 < x.size
      · have HB : Hid (100000 < x.size) := hb
        rw [decide_eq_true hb] at HT
        clear hb
        go_wp2_with (first | (go_at_call 52; refine (HT.out _).mono ?_; rintro e w1 ⟨rfl, rfl⟩) | go_in)
        go_ret
        refine ⟨k, rfl, ?_, Below.refl _ _⟩
        rw [HP.out HB.out]
        simp
      · have HB : Hid (¬ 100000 < x.size) := hb
        rw [decide_eq_false hb] at HT
        clear hb
        go_wp2_with (first | (go_at_call 52; refine (HT.out _).mono ?_; rintro e w1 ⟨rfl, rfl⟩) | go_in)
        refine ⟨⟨k + 1, by omega, by go_num, fun j hj hjk => ?_, trivial⟩, by simp [intOf]; omega⟩
        by_cases h : j < k
        · exact HN.out j hj h
        · obtain rfl : j = k := by omega
          rw [HX.out]
          exact HB.out
    · have hki : ¬ (k : Int) < (bs.length : Int) := by omega
      go_wp2
      go_ret
      refine ⟨-1, rfl, ?_, Below.refl _ _⟩
      rw [show (bs.any fun b => decide (100000 < b.size)) = false from List.any_eq_false.2 fun b hb => by
        obtain ⟨j, hj, rfl⟩ := List.getElem_of_mem hb
        simpa using HN.out j hj (by omega)]
      rfl
set_option maxHeartbeats 2000000 in
set_option maxRecDepth 100000 in
theorem cfL_any (ao : Option Addr) (cap : Nat) (bs : List ByteArray) (w : World) (hn : bs.length ≤ 4611686018427387904) (hl : IsTxs w ao bs) :
    Calls Tryz.prog 51 #[.slice ao bs.length cap, .func (.func 52) #[] #[]] w fun e w' => e = .returned (.bool (bs.any fun b => decide (100000 < b.size))) ∧ Below w.heap.size w w' := by
  have HI : Hid (Calls Tryz.prog 95 #[.slice ao bs.length cap, .func (.func 52) #[] #[]] w (IdxP (bs.any fun b => decide (100000 < b.size)) w)) := idxL_any ao cap bs w hn hl
  clear hl
  generalize (bs.any fun b => decide (100000 < b.size)) = b at *
  generalize bs.length = ln at *
  go_enter Tryz.func51, Tryz.ntmps51
  go_wp2_with fail
  refine HI.out.mono ?_
  rintro e w1 ⟨r, rfl, hr, hb1⟩
  have HB1 : Hid (Below w.heap.size w w1) := hb1
  have HR : Hid (decide (0 ≤ r) = b) := hr
  clear hb1 hr
  go_wp2
  go_ret
  exact ⟨by rw [← HR.out]; rfl, HB1.out⟩
end Go.Proofs.YtcdgdmhlbgbklaaGreatDoor

/- Flat, of a tree's texts, whatever others there are; what a text of a tree is. -/
namespace Go.Proofs.YtcdgdmhlbgbklaaGreatDoor
open Go.RowKit Go.Shelf Go.Maps Go.WideMaps Go.Sort Go.Lib

/-- How flattening ends: as the tree was. -/
def FtP (L : List Fl) (w : World) (e : Ending) (w' : World) : Prop := ∃ v, e = .returned (.tuple #[v, .int .i64 0]) ∧ w'.ownsRow w.heap.size 48 3 v L.length (flCells L) ∧ Below w.heap.size w w'

set_option maxHeartbeats 4000000 in
set_option maxRecDepth 100000 in
theorem Flat_ok (L : List Fl) (ba : Option Addr) (bc : Nat) (bs : List ByteArray) (w : World) (hok : okT L) (hn : bs.length ≤ 2000) (ht : IsTxs w ba bs) (hs : ∀ b ∈ bs, b.size ≤ 100000) (he : Env w) (hin : ∀ t ∈ (pkT1 L).2, t ∈ bs) (hcl : ∀ t ∈ (pkT1 L).2, ∀ b ∈ bs, smD b = smD t → b = t) :
    Calls Tryz.prog 22 #[.string (smD (pkT1 L).1), .slice ba bs.length bc] w (FtP L w) := by
  have hany : (bs.any fun b => decide (100000 < b.size)) = false := List.any_eq_false.2 fun b hb => by have := hs b hb; simp; omega
  have hC := cfL_any ba bc bs w (by omega) ht
  rw [hany] at hC
  have HC : Hid (Calls Tryz.prog 51 #[.slice ba bs.length bc, .func (.func 52) #[] #[]] w fun e w' => e = .returned (.bool false) ∧ Below w.heap.size w w') := hC
  have HI : Hid (∀ W, Calls Tryz.prog 17 #[.string (smD (pkT1 L).1)] W fun e w' => e = .returned (.bool true) ∧ w' = W) := fun W => by
    have := Is_any (smD (pkT1 L).1) W
    rw [smD_dig] at this
    exact this
  have HW : Hid (∀ W, Below w.heap.size w W → Calls Tryz.prog 53 #[.slice ba bs.length bc] W (NwP ba bc bs W)) := fun W hW => newWalk_any ba bc bs W (by omega) (ht.below hW (Nat.le_refl _)) hs (he.up hW)
  have HO : Hid (∀ B P M W, WS B P M (ixD bs bs.length) ba bc bs [] (.slice none 0 0) W → Calls Tryz.prog 54 #[.pointer (some ⟨P, 0, none⟩), .string (smD (pkT1 L).1)] W (StP B P M (ixD bs bs.length) ba bc bs [] (.slice none 0 0) W L)) := fun B P M W hW => whole_ok L hok hW (by have := hok.1; simpa using this) fun t h => finds_of (hin t h) (hcl t h)
  have hn2 : (bs.length : Int) ≤ 2000 := by omega
  have HK : Hid (okT L) := hok
  clear hany hC ht hs he hin hcl hok
  generalize smD (pkT1 L).1 = rt at *
  go_enter Tryz.func22, Tryz.ntmps22
  go_wp2_with fail
  refine HC.out.mono ?_
  rintro e w1 ⟨rfl, hb1⟩
  go_wp2_with fail
  refine (HI.out _).mono ?_
  rintro e wb ⟨rfl, rfl⟩
  go_wp2_with fail
  refine (HW.out _ hb1).mono ?_
  rintro e w2 ⟨P, M, rfl, hws, hb2⟩
  have HB2 : Hid (Below w.heap.size w w2) := hb1.trans (hb2.mono hb1.size)
  have HO2 : Hid (Calls Tryz.prog 54 #[.pointer (some ⟨P, 0, none⟩), .string rt] w2 (StP wb.heap.size P M (ixD bs bs.length) ba bc bs [] (.slice none 0 0) w2 L)) := HO.out _ _ _ _ hws
  have hsz := hb1.size
  clear hws hb1 hb2 HW HC HI HO
  go_wp2_with fail
  refine HO2.out.mono ?_
  rintro e w3 ⟨fv, Y, rfl, hY, hws, hfr⟩
  rw [List.nil_append] at hws
  have c2 := hws.c2
  have HB3 : Hid (Below w.heap.size w w3) := by
    have h0 := HB2.out
    refine ⟨hfr.os.trans h0.os, hfr.tape.trans h0.tape, hfr.output.trans h0.output, Nat.le_trans h0.size hfr.size, fun b hb => ?_⟩
    refine (hfr.blk b (Nat.lt_of_lt_of_le hb h0.size) (fun e => ?_) (by simp [Value.ownBlock])).trans (h0.block b hb)
    have := hws.loP
    omega
  have HS : Hid (Calls Tryz.prog 55 #[fv, .func (.func 56) #[] #[]] w3 fun e w' => e = .returned (.tuple #[]) ∧ w'.ownsRow wb.heap.size 48 3 fv L.length (flCells L) ∧ w3.grownBy w' fv.ownBlock) :=
    sortFiles hws.files (HK.out.2.2.imp fun hh => hh.1) hY (by have := hY.length_eq; have := HK.out.1; omega)
  have HWS : Hid (WS wb.heap.size P M (ixD bs bs.length) ba bc bs Y fv w3) := hws
  clear hY hws hfr HO2
  go_wp2_with fail
  refine HS.out.mono ?_
  rintro e w4 ⟨rfl, hrow, hg⟩
  have d2 : w4.cell? ⟨P, 2, none⟩ = some fv := (World.cell?_of_block (w := w3) (a := ⟨P, 2, none⟩) (hg.block P HWS.out.lt (fun e => HWS.out.fP e.symm))).trans c2
  have HF : Hid (w4.ownsRow w.heap.size 48 3 fv L.length (flCells L) ∧ Below w.heap.size w w4) := ⟨own_mono hrow hsz, HB3.out.grown hg HB3.out.size fun k hk => Nat.le_trans hsz (HWS.out.files.lt k hk).1⟩
  clear hrow hg HS c2
  go_wp2
  refine bodyPost_ret (v := .tuple #[fv, .int .i64 0]) (by simp [results, Tryz.results22, go_sem]) rfl ?_
  exact ⟨fv, rfl, HF.out⟩
end Go.Proofs.YtcdgdmhlbgbklaaGreatDoor

/- The sums of three texts (laid by wip/src/mksh.py). -/
namespace Go.Proofs.YtcdgdmhlbgbklaaGreatDoor
open Go.RowKit

theorem mix_of (q : S8) (B : ByteArray) (W : List Int) (r : S8) (hl : W.length = 64) (hok : ((List.range 64).all fun i => wnext B (W.take i) i == W.getD i 0) = true) (h : (⟨(q.a + (goF (cuL.zip W) q).a) % 4294967296, (q.b + (goF (cuL.zip W) q).b) % 4294967296, (q.c + (goF (cuL.zip W) q).c) % 4294967296, (q.d + (goF (cuL.zip W) q).d) % 4294967296, (q.e + (goF (cuL.zip W) q).e) % 4294967296, (q.f + (goF (cuL.zip W) q).f) % 4294967296, (q.g + (goF (cuL.zip W) q).g) % 4294967296, (q.h + (goF (cuL.zip W) q).h) % 4294967296⟩ : S8) = r) : mixS q B cuL = r := by
  have hw : ws B 64 = W := by
    have h1 := ws_of B W 64 (by omega) fun i hi => by simpa using List.all_eq_true.1 hok i (List.mem_range.2 hi)
    rw [h1, List.take_of_length_le (by omega)]
  have hr : rounds8 W cuL 64 q = goF (cuL.zip W) q := by
    rw [rounds8_fold _ _ _ _ (by omega) (by rw [cuL_len]; decide), List.take_of_length_le (by rw [List.length_zip, hl, cuL_len]; decide), ← goF_eq]
  unfold mixS
  rw [hw, hr]
  exact h

def sxT : ByteArray := ⟨#[120]⟩
def sx1B : ByteArray := ⟨#[120, 128, 0, 0, 0, 0, 0, 0, 0, 0, 0, 0, 0, 0, 0, 0, 0, 0, 0, 0, 0, 0, 0, 0, 0, 0, 0, 0, 0, 0, 0, 0, 0, 0, 0, 0, 0, 0, 0, 0, 0, 0, 0, 0, 0, 0, 0, 0, 0, 0, 0, 0, 0, 0, 0, 0, 0, 0, 0, 0, 0, 0, 0, 8]⟩
def sx1W : List Int := [2021654528, 0, 0, 0, 0, 0, 0, 0, 0, 0, 0, 0, 0, 0, 0, 8, 2021654528, 327680, 1971024, 536871234, 3418490760, 8475648, 1124568096, 4177534981, 931784704, 341448440, 3910008977, 359146923, 3236027942, 1500331568, 3723075617, 2150859516, 2969464858, 3203193819, 2344153889, 1621682451, 3793127511, 4094548217, 1965560327, 2113633090, 2029180404, 834715653, 3623783194, 2443265322, 1843327394, 2293781290, 211574689, 3698406187, 490561120, 3311074907, 853938067, 15903757, 3428712410, 150987924, 3880940780, 4238751076, 4017808925, 3462345068, 524655193, 3518015180, 1175202895, 200890185, 2650706160, 3779152477]
def sx1H : S8 := ⟨762385986, 3072766020, 23231657, 4222366453, 3360886705, 2419901659, 36013847, 2451196033⟩
theorem sx1_ok : ((List.range 64).all fun i => wnext sx1B (sx1W.take i) i == sx1W.getD i 0) = true := by kernel_rfl
theorem sx1_mix : mixS sq8 sx1B cuL = sx1H := mix_of sq8 sx1B sx1W sx1H (by kernel_rfl) sx1_ok (by kernel_rfl)
def sxD : ByteArray := ⟨#[50, 100, 55, 49, 49, 54, 52, 50, 98, 55, 50, 54, 98, 48, 52, 52, 48, 49, 54, 50, 55, 99, 97, 57, 102, 98, 97, 99, 51, 50, 102, 53, 99, 56, 53, 51, 48, 102, 98, 49, 57, 48, 51, 99, 99, 52, 100, 98, 48, 50, 50, 53, 56, 55, 49, 55, 57, 50, 49, 97, 52, 56, 56, 49]⟩
theorem sx_sum : sumB sxT sq8 cuL = sxD := by
  have e1 : sxT.size / 64 = 0 := by kernel_rfl
  have e2 : (tailOf sxT).size / 64 = 1 := by kernel_rfl
  have xsx1 : (tailOf sxT).extract (64 * 0) (64 * 0 + 64) = sx1B := by kernel_rfl
  have b0 : blocks sxT cuL sq8 0 = sq8 := by
    rfl
  have b1 : blocks (tailOf sxT) cuL sq8 1 = sx1H := by
    unfold blocks
    rw [xsx1]
    exact sx1_mix
  show (⟨(dgs (blocks (tailOf sxT) cuL (blocks sxT cuL sq8 (sxT.size / 64)) ((tailOf sxT).size / 64)).l).toArray⟩ : ByteArray) = sxD
  rw [e1, e2, b0, b1]
  show (⟨(dgs sx1H.l).toArray⟩ : ByteArray) = sxD
  kernel_rfl

def sbT : ByteArray := ⟨#[1, 1, 98, 1, 64, 50, 100, 55, 49, 49, 54, 52, 50, 98, 55, 50, 54, 98, 48, 52, 52, 48, 49, 54, 50, 55, 99, 97, 57, 102, 98, 97, 99, 51, 50, 102, 53, 99, 56, 53, 51, 48, 102, 98, 49, 57, 48, 51, 99, 99, 52, 100, 98, 48, 50, 50, 53, 56, 55, 49, 55, 57, 50, 49, 97, 52, 56, 56, 49]⟩
def sb1B : ByteArray := ⟨#[1, 1, 98, 1, 64, 50, 100, 55, 49, 49, 54, 52, 50, 98, 55, 50, 54, 98, 48, 52, 52, 48, 49, 54, 50, 55, 99, 97, 57, 102, 98, 97, 99, 51, 50, 102, 53, 99, 56, 53, 51, 48, 102, 98, 49, 57, 48, 51, 99, 99, 52, 100, 98, 48, 50, 50, 53, 56, 55, 49, 55, 57, 50, 49]⟩
def sb1W : List Int := [16867841, 1077044279, 825308724, 845297458, 912404532, 875573558, 842490721, 963011169, 1664299622, 895694901, 858809954, 825831475, 1667445860, 1647325746, 892876593, 926495281, 1399096494, 1451198134, 623161206, 2886433189, 3247631563, 1513134056, 4077117603, 4062456430, 3908562019, 3328636627, 386739405, 2718029692, 1436398886, 2410582992, 3145990811, 868526431, 583688567, 4064843820, 3295961435, 2505845818, 201420197, 1260548262, 2338923373, 2904266935, 2486113742, 507426809, 2915040799, 1717076287, 3049660185, 2354767803, 3341486518, 1765699754, 2290895305, 1303601763, 1163678055, 964844409, 348523182, 4224445108, 1434729713, 146279551, 3621537229, 1085849592, 3824515151, 1699132669, 2753955029, 635304769, 1486597638, 340749099]
def sb1H : S8 := ⟨3636586827, 4063557508, 2594577271, 2682798449, 4238592339, 3890565741, 1482465807, 2433056932⟩
theorem sb1_ok : ((List.range 64).all fun i => wnext sb1B (sb1W.take i) i == sb1W.getD i 0) = true := by kernel_rfl
theorem sb1_mix : mixS sq8 sb1B cuL = sb1H := mix_of sq8 sb1B sb1W sb1H (by kernel_rfl) sb1_ok (by kernel_rfl)
def sb2B : ByteArray := ⟨#[97, 52, 56, 56, 49, 128, 0, 0, 0, 0, 0, 0, 0, 0, 0, 0, 0, 0, 0, 0, 0, 0, 0, 0, 0, 0, 0, 0, 0, 0, 0, 0, 0, 0, 0, 0, 0, 0, 0, 0, 0, 0, 0, 0, 0, 0, 0, 0, 0, 0, 0, 0, 0, 0, 0, 0, 0, 0, 0, 0, 0, 0, 2, 40]⟩
def sb2W : List Int := [1630812216, 830472192, 0, 0, 0, 0, 0, 0, 0, 0, 0, 0, 0, 0, 0, 552, 1736918168, 852557824, 1254547170, 2685184882, 3032472972, 3237938989, 358278503, 3402279993, 1626029759, 1315982713, 2560430617, 3821006961, 3966295878, 459868091, 2412076552, 4046550394, 18728978, 3658629580, 1731132269, 3992757944, 4114688231, 2387387853, 2040619408, 1339605921, 3220084464, 2482749261, 600860033, 686886929, 3991075520, 2523920633, 3090949541, 176910659, 1038566829, 1029622117, 542548737, 887908939, 3040883146, 1989018620, 514533596, 2728017772, 1431005960, 740534894, 2499333312, 2709176111, 70101761, 311701250, 382519666, 2129212325]
def sb2H : S8 := ⟨3636251484, 2886615582, 2766240801, 569608003, 167460413, 33901062, 250798081, 3361365004⟩
theorem sb2_ok : ((List.range 64).all fun i => wnext sb2B (sb2W.take i) i == sb2W.getD i 0) = true := by kernel_rfl
theorem sb2_mix : mixS sb1H sb2B cuL = sb2H := mix_of sb1H sb2B sb2W sb2H (by kernel_rfl) sb2_ok (by kernel_rfl)
def sbD : ByteArray := ⟨#[100, 56, 98, 99, 99, 98, 53, 99, 97, 99, 48, 101, 52, 50, 49, 101, 97, 52, 101, 49, 55, 99, 50, 49, 50, 49, 102, 51, 56, 55, 52, 51, 48, 57, 102, 98, 51, 101, 51, 100, 48, 50, 48, 53, 52, 97, 48, 54, 48, 101, 102, 50, 101, 48, 48, 49, 99, 56, 53, 97, 53, 99, 48, 99]⟩
theorem sb_sum : sumB sbT sq8 cuL = sbD := by
  have e1 : sbT.size / 64 = 1 := by kernel_rfl
  have e2 : (tailOf sbT).size / 64 = 1 := by kernel_rfl
  have xsb1 : (sbT).extract (64 * 0) (64 * 0 + 64) = sb1B := by kernel_rfl
  have xsb2 : (tailOf sbT).extract (64 * 0) (64 * 0 + 64) = sb2B := by kernel_rfl
  have b0 : blocks sbT cuL sq8 1 = sb1H := by
    unfold blocks
    rw [xsb1]
    exact sb1_mix
  have b1 : blocks (tailOf sbT) cuL sb1H 1 = sb2H := by
    unfold blocks
    rw [xsb2]
    exact sb2_mix
  show (⟨(dgs (blocks (tailOf sbT) cuL (blocks sbT cuL sq8 (sbT.size / 64)) ((tailOf sbT).size / 64)).l).toArray⟩ : ByteArray) = sbD
  rw [e1, e2, b0, b1]
  show (⟨(dgs sb2H.l).toArray⟩ : ByteArray) = sbD
  kernel_rfl

def saT : ByteArray := ⟨#[1, 1, 97, 3, 64, 100, 56, 98, 99, 99, 98, 53, 99, 97, 99, 48, 101, 52, 50, 49, 101, 97, 52, 101, 49, 55, 99, 50, 49, 50, 49, 102, 51, 56, 55, 52, 51, 48, 57, 102, 98, 51, 101, 51, 100, 48, 50, 48, 53, 52, 97, 48, 54, 48, 101, 102, 50, 101, 48, 48, 49, 99, 56, 53, 97, 53, 99, 48, 99]⟩
def sa1B : ByteArray := ⟨#[1, 1, 97, 3, 64, 100, 56, 98, 99, 99, 98, 53, 99, 97, 99, 48, 101, 52, 50, 49, 101, 97, 52, 101, 49, 55, 99, 50, 49, 50, 49, 102, 51, 56, 55, 52, 51, 48, 57, 102, 98, 51, 101, 51, 100, 48, 50, 48, 53, 52, 97, 48, 54, 48, 101, 102, 50, 101, 48, 48, 49, 99, 56, 53]⟩
def sa1W : List Int := [16867587, 1080309858, 1667457589, 1667326768, 1697919537, 1700869221, 825713458, 825373030, 859322164, 858798438, 1647535411, 1680880176, 892625200, 909141350, 845492272, 828586037, 886636544, 1540355650, 2617750932, 24514866, 1396978113, 487428243, 1199873071, 1144281583, 820364061, 719456612, 508361905, 2072606281, 134157181, 1036833660, 2226017297, 2635760883, 2999310994, 1690029402, 1311348866, 760401778, 3524483172, 1368143792, 1813957442, 3773740631, 2714016827, 1706957737, 3915842791, 1518673489, 2273159237, 2105064724, 474888564, 3450907840, 1059072890, 4251441457, 196656757, 3528559064, 92918, 2672416797, 4030671865, 1001358042, 3900908907, 3061276716, 2689415086, 2830436603, 1810043210, 4176269674, 4122051652, 2719921531]
def sa1H : S8 := ⟨3273503112, 1168772759, 2130173675, 3688719627, 2842344253, 3028729528, 2692299053, 3972283351⟩
theorem sa1_ok : ((List.range 64).all fun i => wnext sa1B (sa1W.take i) i == sa1W.getD i 0) = true := by kernel_rfl
theorem sa1_mix : mixS sq8 sa1B cuL = sa1H := mix_of sq8 sa1B sa1W sa1H (by kernel_rfl) sa1_ok (by kernel_rfl)
def sa2B : ByteArray := ⟨#[97, 53, 99, 48, 99, 128, 0, 0, 0, 0, 0, 0, 0, 0, 0, 0, 0, 0, 0, 0, 0, 0, 0, 0, 0, 0, 0, 0, 0, 0, 0, 0, 0, 0, 0, 0, 0, 0, 0, 0, 0, 0, 0, 0, 0, 0, 0, 0, 0, 0, 0, 0, 0, 0, 0, 0, 0, 0, 0, 0, 0, 0, 2, 40]⟩
def sa2W : List Int := [1630888752, 1669332992, 0, 0, 0, 0, 0, 0, 0, 0, 0, 0, 0, 0, 0, 552, 1844214800, 1691418624, 2979086420, 2685995698, 2282531498, 2754019917, 3223459925, 3476220775, 3017887891, 3665695513, 579887754, 1407579294, 3779326799, 82457416, 2813544477, 1175443232, 1642247770, 2282434987, 1197798551, 4007322572, 3240048537, 2937068970, 4024654412, 2745199737, 2927484403, 1714665887, 3000264031, 1076101447, 1791180375, 1931949353, 30773845, 2250514220, 3455211521, 3799611517, 733113271, 3538918955, 4106522945, 1081765585, 1290442005, 1915029181, 2241877385, 1709476929, 753776158, 2024977659, 2865662388, 2612732731, 1472526080, 2378605027]
def sa2H : S8 := ⟨108285545, 4021650928, 637779520, 2676746045, 641017731, 796157738, 932929102, 2129732299⟩
theorem sa2_ok : ((List.range 64).all fun i => wnext sa2B (sa2W.take i) i == sa2W.getD i 0) = true := by kernel_rfl
theorem sa2_mix : mixS sa1H sa2B cuL = sa2H := mix_of sa1H sa2B sa2W sa2H (by kernel_rfl) sa2_ok (by kernel_rfl)
def saD : ByteArray := ⟨#[48, 54, 55, 52, 52, 101, 54, 57, 101, 102, 98, 53, 56, 53, 102, 48, 50, 54, 48, 51, 98, 101, 52, 48, 57, 102, 56, 98, 101, 55, 51, 100, 50, 54, 51, 53, 50, 55, 56, 51, 50, 102, 55, 52, 54, 55, 50, 97, 51, 55, 57, 98, 53, 101, 52, 101, 55, 101, 102, 49, 50, 50, 99, 98]⟩
theorem sa_sum : sumB saT sq8 cuL = saD := by
  have e1 : saT.size / 64 = 1 := by kernel_rfl
  have e2 : (tailOf saT).size / 64 = 1 := by kernel_rfl
  have xsa1 : (saT).extract (64 * 0) (64 * 0 + 64) = sa1B := by kernel_rfl
  have xsa2 : (tailOf saT).extract (64 * 0) (64 * 0 + 64) = sa2B := by kernel_rfl
  have b0 : blocks saT cuL sq8 1 = sa1H := by
    unfold blocks
    rw [xsa1]
    exact sa1_mix
  have b1 : blocks (tailOf saT) cuL sa1H 1 = sa2H := by
    unfold blocks
    rw [xsa2]
    exact sa2_mix
  show (⟨(dgs (blocks (tailOf saT) cuL (blocks saT cuL sq8 (saT.size / 64)) ((tailOf saT).size / 64)).l).toArray⟩ : ByteArray) = saD
  rw [e1, e2, b0, b1]
  show (⟨(dgs sa2H.l).toArray⟩ : ByteArray) = saD
  kernel_rfl
end Go.Proofs.YtcdgdmhlbgbklaaGreatDoor

/- Files that are the same. -/
namespace Go.Proofs.YtcdgdmhlbgbklaaGreatDoor
open Go.RowKit Go.Shelf

theorem toL_inj {a b : ByteArray} (h : a.toList = b.toList) : a = b := by
  rw [Lib.toList_data, Lib.toList_data] at h
  obtain ⟨x⟩ := a
  obtain ⟨y⟩ := b
  exact congrArg ByteArray.mk (Array.toList_inj.1 h)
/-- How the look ends. -/
def SmP (A C : List Fl) (w : World) (e : Ending) (w' : World) : Prop := ∃ b, e = .returned (.bool b) ∧ (b = true ↔ A = C) ∧ ∃ n, w' = w.drewN n

set_option maxHeartbeats 4000000 in
set_option maxRecDepth 100000 in
theorem SameFiles_any (ao co : Option Addr) (ac cc : Nat) (A C : List Fl) (w : World) (hn : A.length ≤ 4611686018427387904) (ha : IsFl w ao A) (hc : IsFl w co C) :
    Calls Tryz.prog 23 #[.slice ao A.length ac, .slice co C.length cc] w (SmP A C w) := by
  by_cases hl : A.length = C.length
  · rw [← hl]
    have HA : Hid (IsFl w ao A) := ha
    have HC : Hid (IsFl w co C) := hc
    have HL : Hid (A.length = C.length) := hl
    have hn1 : (A.length : Int) ≤ 4611686018427387904 := by omega
    clear ha hc hl
    go_enter Tryz.func23, Tryz.ntmps23
    go_wp2
    go_loopw [5] (fun i wr => ∃ k m : Nat, k ≤ A.length ∧ i = .int .i64 k ∧ A.take k = C.take k ∧ wr = w.drewN m) (fun i _ => A.length - (intOf i).toNat)
    case atStart => exact ⟨0, 0, Nat.zero_le _, rfl, rfl, rfl⟩
    case round =>
      obtain ⟨k, m, hk, rfl, ht, rfl⟩ := hrel
      have HK : Hid (A.take k = C.take k) := ht
      clear ht
      by_cases hlt : k < A.length
      · have hlt' : k < C.length := by rw [← HL.out]; exact hlt
        rcases HA.out with h | ⟨g, o, rfl, _, hca⟩
        · exfalso; rw [h] at hlt; exact absurd hlt (by simp)
        rcases HC.out with h | ⟨g', o', rfl, _, hcc⟩
        · exfalso; rw [h] at hlt'; exact absurd hlt' (by simp)
        obtain ⟨a0, a1, a2⟩ := hca k hlt
        obtain ⟨b0, b1, b2⟩ := hcc k hlt'
        have HN : Hid (A[k] ≠ C[k] → A ≠ C) := fun h e => h (by simp only [e])
        have HY : Hid (A[k] = C[k] → A.take (k + 1) = C.take (k + 1)) := fun h => by rw [List.take_succ_eq_append_getElem hlt, List.take_succ_eq_append_getElem hlt', HK.out, h]
        generalize A[k] = x at *
        generalize C[k] = y at *
        obtain ⟨xp, xt, xr⟩ := x
        obtain ⟨yp, yt, yr⟩ := y
        simp only at a0 a1 a2 b0 b1 b2
        have i2 : (k : Int) < A.length := by omega
        clear hca hcc
        by_cases h1 : xp.toList = yp.toList
        · obtain rfl := toL_inj h1
          by_cases h2 : xt.toList = yt.toList
          · obtain rfl := toL_inj h2
            by_cases h3 : xr = yr
            · subst h3
              have HZ : Hid (A.take (k + 1) = C.take (k + 1)) := HY.out rfl
              clear h1 h2 HN HY
              go_wp2
              go_region
              all_goals go_wp2
              all_goals exact ⟨⟨k + 1, m + 1, by omega, by go_num, HZ.out, rfl⟩, by simp [intOf]; omega⟩
            · have HZ : Hid (A ≠ C) := HN.out (by intro e; injection e with _ _ e; exact h3 e)
              have h3' : (xr == yr) = false := by simpa using h3
              clear h1 h2 HN HY
              go_wp2
              go_region
              all_goals go_wp2
              all_goals
                go_ret
                exact ⟨false, rfl, ⟨fun h => absurd h (by decide), fun h => absurd h HZ.out⟩, m + 1, rfl⟩
          · have HZ : Hid (A ≠ C) := HN.out (by intro e; injection e with _ e _; rw [e] at h2; exact h2 rfl)
            clear h1 HN HY
            go_wp2
            go_region
            all_goals go_wp2
            all_goals
              go_ret
              exact ⟨false, rfl, ⟨fun h => absurd h (by decide), fun h => absurd h HZ.out⟩, m + 1, rfl⟩
        · have HZ : Hid (A ≠ C) := HN.out (by intro e; injection e with e _ _; rw [e] at h1; exact h1 rfl)
          clear HN HY
          go_wp2
          go_region
          all_goals go_wp2
          all_goals
            go_ret
            exact ⟨false, rfl, ⟨fun h => absurd h (by decide), fun h => absurd h HZ.out⟩, m + 1, rfl⟩
      · have hki : ¬ (k : Int) < (A.length : Int) := by omega
        have HZ : Hid (A = C) := by
          have := HK.out
          have hL := HL.out
          rwa [List.take_of_length_le (by omega), List.take_of_length_le (by omega)] at this
        go_wp2
        go_ret
        exact ⟨true, rfl, ⟨fun _ => HZ.out, fun _ => rfl⟩, m, rfl⟩
  · have hne : ¬ (A.length : Int) = C.length := by omega
    have HZ : Hid (A ≠ C) := fun e => hl (by rw [e])
    clear hl ha hc
    go_enter Tryz.func23, Tryz.ntmps23
    go_wp2
    go_ret
    exact ⟨false, rfl, ⟨fun h => absurd h (by decide), fun h => absurd h HZ.out⟩, 0, rfl⟩
end Go.Proofs.YtcdgdmhlbgbklaaGreatDoor

/- What the statements of trees begin with. -/
namespace Go.Proofs.YtcdgdmhlbgbklaaGreatDoor
open Go.RowKit Go.Shelf Go.Maps Go.WideMaps Go.Sort Go.Lib

theorem mem_compact {α : Type} [Inhabited α] [DecidableEq α] (l : List α) (x : α) : x ∈ Lib.compact l ↔ x ∈ l := by
  have h1 : ∀ m, m ≤ l.length → ∀ j, j < m → l.toArray[j]! ∈ Lib.compactUpTo l.toArray m := by
    intro m
    induction m with
    | zero => intro _ j hj; omega
    | succ m ih =>
      intro hm j hj
      rw [Lib.compactUpTo_succ, List.mem_append]
      by_cases h : j < m
      · exact .inl (ih (by omega) j h)
      · obtain rfl : j = m := by omega
        by_cases hk : Lib.keeps l.toArray j = true
        · exact .inr (by rw [if_pos hk]; simp)
        · have hk2 : ¬ (j = 0 ∨ l.toArray[j]! ≠ l.toArray[j - 1]!) := by
            unfold Lib.keeps at hk
            simpa using hk
          have hj0 : j ≠ 0 := fun e => hk2 (.inl e)
          have he : l.toArray[j]! = l.toArray[j - 1]! := Decidable.byContradiction fun e => hk2 (.inr e)
          rw [he]
          exact .inl (ih (by omega) (j - 1) (by omega))
  constructor
  · intro h
    unfold Lib.compact Lib.compactUpTo at h
    obtain ⟨j, hj, rfl⟩ := List.mem_map.1 h
    have hj2 : j < l.length := List.mem_range.1 (List.mem_filter.1 hj).1
    rw [getElem!_pos l.toArray j (by simpa using hj2)]
    simp
  · intro h
    obtain ⟨j, hj, rfl⟩ := List.getElem_of_mem h
    have := h1 l.length (Nat.le_refl _) j hj
    rw [getElem!_pos l.toArray j (by simpa using hj)] at this
    simpa [Lib.compact] using this

/-- A tree's texts, as Blobs answers them. -/
def blB (L : List Fl) : List ByteArray := (blF L).map fun s => ⟨s.toArray⟩
theorem blB_mem (L : List Fl) (t : ByteArray) : t ∈ blB L ↔ t ∈ (pkT1 L).2 := by
  unfold blB blF
  rw [List.mem_map]
  constructor
  · rintro ⟨s, hs, rfl⟩
    rw [mem_compact, List.mem_mergeSort, List.mem_map] at hs
    obtain ⟨b, hb, rfl⟩ := hs
    rw [Array.toArray_toList]
    exact hb
  · intro h
    refine ⟨t.data.toList, ?_, by rw [Array.toArray_toList]⟩
    rw [mem_compact, List.mem_mergeSort, List.mem_map]
    exact ⟨t, h, rfl⟩
theorem blB_len (L : List Fl) : (blB L).length = (blF L).length := by unfold blB; simp
theorem bl_txs {w : World} {base : Nat} {ao : Option Addr} {cap : Nat} {L : List Fl} (h : w.ownsRow base 9 1 (.slice ao (blF L).length cap) (blF L).length ((blF L).map encStr)) : IsTxs w ao (blB L) := by
  rcases h.2 with ⟨_, h0⟩ | ⟨g, cap2, cur, hv, _, hh, _⟩
  · exact .inl (List.length_eq_zero_iff.1 (by rw [blB_len]; exact h0))
  · injection hv with hv _ _
    subst hv
    refine .inr ⟨g, 0, rfl, (Array.getElem?_eq_some_iff.1 hh).1, fun j hj => ?_⟩
    have hj2 : j < (blF L).length := by rw [← blB_len]; exact hj
    have h1 := h.cells (show (Value.slice (some ⟨g, 0, none⟩) (blF L).length cap).ownBlock = some g from rfl) j (encStr (blF L)[j]) (by simp [hj2])
    rw [add0] at h1
    have e : (blB L)[j] = ⟨((blF L)[j]'hj2).toArray⟩ := by simp [blB]
    rw [Nat.zero_add, h1, e]

def f0 : Fl := ⟨⟨#[97, 47, 98]⟩, ⟨#[120]⟩, false⟩
def f1 : Fl := ⟨⟨#[98]⟩, ⟨#[120]⟩, false⟩
theorem nm_a : nameOk ⟨#[97]⟩ = true := by
  unfold nameOk
  rw [Lib.toList_data]
  decide
theorem nm_b : nameOk ⟨#[98]⟩ = true := by
  unfold nameOk
  rw [Lib.toList_data]
  decide
theorem pa0 : pathOk f0.pa = true := by
  unfold pathOk
  have e : piecesB f0.pa = [⟨#[97]⟩, ⟨#[98]⟩] := by rfl
  rw [e, List.all_cons, List.all_cons, nm_a, nm_b]
  rfl
theorem ok0 : okT [f0] := by
  refine ⟨by decide, fun f hf => ?_, List.pairwise_singleton _ _⟩
  rw [List.mem_singleton.1 hf]
  unfold flE
  rw [if_neg (by rw [pa0]; decide), if_neg (by decide)]
theorem ch0 : chF [f0] = 0 := by
  unfold chF
  have h : flEs [f0] = 0 := flEs_yes _ fun j hj => ok0.2.1 _ (List.getElem_mem hj)
  rw [if_neg (by decide), if_pos h, if_pos ((fit_iff _).1 ok0.2.2)]
theorem sort1 (x : Nd) : sortN [x] = [x] := by unfold sortN; simp
theorem sx_s : smD ⟨#[120]⟩ = sxD := sx_sum
theorem sb_s : smD sbT = sbD := sb_sum
theorem sa_s : smD saT = saD := sa_sum
theorem tx_of (x : Nd) : txN [x] = ⟨(pk 1 ++ (pkT x.1 ++ (pk x.2.1.toNat ++ pkT x.2.2) ++ [])).toArray⟩ := by
  unfold txN
  rw [sort1]
  rfl
theorem dir1 (n : Nat) : dirF smD (n + 1) [f1] = (sbT, [⟨#[120]⟩, sbT]) := by
  rw [dirF_succ]
  have e1 : tops [f1] = [f1] := by rfl
  have e2 : names [f1] = [] := by rfl
  have e3 : nsF smD n [f1] = [(⟨#[98]⟩, 1, sxD)] := by
    unfold nsF
    rw [e1, e2]
    show [ndF smD f1] = _
    unfold ndF
    rw [show smD f1.tx = sxD from sx_s]
    rfl
  have e4 : txN [(⟨#[98]⟩, 1, sxD)] = sbT := by rw [tx_of]; rfl
  rw [e3, e4, e1, e2]
  rfl
theorem pk0 : pkT1 [f0] = (saT, [⟨#[120]⟩, sbT, saT]) := by
  unfold pkT1
  rw [show (101 : Nat) = 100 + 1 from rfl, dirF_succ]
  have e1 : tops [f0] = [] := by rfl
  have e2 : names [f0] = [[97]] := by rfl
  have e3 : sub [97] [f0] = [f1] := by rfl
  have e4 : dirF smD 100 [f1] = (sbT, [⟨#[120]⟩, sbT]) := dir1 99
  have e5 : nsF smD 100 [f0] = [(⟨#[97]⟩, 3, sbD)] := by
    unfold nsF
    rw [e1, e2]
    show [ndM smD [97] (dirF smD 100 (sub [97] [f0])).1] = _
    rw [e3, e4]
    unfold ndM
    rw [sb_s]
  have e6 : txN [(⟨#[97]⟩, 3, sbD)] = saT := by rw [tx_of]; rfl
  rw [e5, e6, e1, e2]
  show (saT, [] ++ ((dirF smD 100 (sub [97] [f0])).2 ++ []) ++ [saT]) = _
  rw [e3, e4]
  rfl
theorem cl0 : ∀ t ∈ (pkT1 [f0]).2, ∀ b ∈ blB [f0], smD b = smD t → b = t := by
  intro t ht b hb
  rw [blB_mem] at hb
  rw [pk0] at ht hb
  have hxb : sxD ≠ sbD := fun e => absurd (congrArg (fun b => b.data.toList) e) (by decide)
  have hxa : sxD ≠ saD := fun e => absurd (congrArg (fun b => b.data.toList) e) (by decide)
  have hba : sbD ≠ saD := fun e => absurd (congrArg (fun b => b.data.toList) e) (by decide)
  simp only [List.mem_cons, List.not_mem_nil, or_false] at ht hb
  rcases ht with rfl | rfl | rfl <;> rcases hb with rfl | rfl | rfl <;> intro e <;> first | rfl | (simp only [sx_s, sb_s, sa_s] at e; first | exact absurd e hxb | exact absurd e hxa | exact absurd e hba | exact absurd e.symm hxb | exact absurd e.symm hxa | exact absurd e.symm hba)
theorem len0 : (blB [f0]).length ≤ 2000 := by
  rw [blB_len]
  unfold blF
  refine Nat.le_trans (compact_len _) ?_
  rw [(List.mergeSort_perm _ _).length_eq, List.length_map, pk0]
  decide
theorem siz0 : ∀ b ∈ blB [f0], b.size ≤ 100000 := by
  intro b hb
  rw [blB_mem, pk0] at hb
  simp only [List.mem_cons, List.not_mem_nil, or_false] at hb
  rcases hb with rfl | rfl | rfl <;> decide

set_option maxHeartbeats 4000000 in
set_option maxRecDepth 100000 in
theorem treeBegun_any (w : World) (he : Env w) :
    Calls Tryz.prog 6 #[] w fun e w' => e = .returned (.bool true) ∧ Below w.heap.size w w' := by
  have hA : Below w.heap.size w (w.alloc (.cells #[.string ⟨#[97, 47, 98]⟩, .string ⟨#[120]⟩, .bool false] 48)) := (Below.refl _ w).alloc (Nat.le_refl _) _
  have hfl : IsFl (w.alloc (.cells #[.string ⟨#[97, 47, 98]⟩, .string ⟨#[120]⟩, .bool false] 48)) (some ⟨w.heap.size, 0, none⟩) [f0] := by
    refine .inr ⟨w.heap.size, 0, rfl, by rw [World.size_alloc]; omega, fun j hj => ?_⟩
    have hj0 : j = 0 := by simpa using hj
    subst hj0
    have hx := heap_alloc_new w (.cells #[.string ⟨#[97, 47, 98]⟩, .string ⟨#[120]⟩, .bool false] 48)
    exact ⟨Lib.cell_of_heap hx 0, Lib.cell_of_heap hx 1, Lib.cell_of_heap hx 2⟩
  have HB : Hid (Calls Tryz.prog 8 #[.slice (some ⟨w.heap.size, 0, none⟩) 1 1] (w.alloc (.cells #[.string ⟨#[97, 47, 98]⟩, .string ⟨#[120]⟩, .bool false] 48)) (BlP [f0] (w.alloc (.cells #[.string ⟨#[97, 47, 98]⟩, .string ⟨#[120]⟩, .bool false] 48)))) := Blobs_any _ 1 [f0] _ hfl (he.up hA)
  have HR : Hid (∀ W, Below w.heap.size w W → IsFl W (some ⟨w.heap.size, 0, none⟩) [f0] → Calls Tryz.prog 21 #[.slice (some ⟨w.heap.size, 0, none⟩) 1 1] W fun e w' => e = .returned (.tuple #[.string (smD (pkT1 [f0]).1), .int .i64 0]) ∧ Below W.heap.size W w') := fun W hW hf => by
    have := Root_any _ 1 [f0] W hf (he.up hW)
    rw [if_pos ch0, ch0] at this
    exact this
  have HF : Hid (∀ W ba bc, Below w.heap.size w W → IsTxs W ba (blB [f0]) → Calls Tryz.prog 22 #[.string (smD (pkT1 [f0]).1), .slice ba (blF [f0]).length bc] W (FtP [f0] W)) := fun W ba bc hW ht => by
    have := Flat_ok [f0] ba bc (blB [f0]) W ok0 len0 ht siz0 (he.up hW) (fun t h => (blB_mem _ _).2 h) cl0
    rw [blB_len] at this
    exact this
  have HFl : Hid (∀ W, Below (w.alloc (.cells #[.string ⟨#[97, 47, 98]⟩, .string ⟨#[120]⟩, .bool false] 48)).heap.size (w.alloc (.cells #[.string ⟨#[97, 47, 98]⟩, .string ⟨#[120]⟩, .bool false] 48)) W → IsFl W (some ⟨w.heap.size, 0, none⟩) [f0]) := fun W hW => hfl.below hW (Nat.le_refl _)
  have HA : Hid (Below w.heap.size w (w.alloc (.cells #[.string ⟨#[97, 47, 98]⟩, .string ⟨#[120]⟩, .bool false] 48))) := hA
  clear hA hfl he
  generalize smD (pkT1 [f0]).1 = rt at *
  go_enter Tryz.func6, Tryz.ntmps6
  go_wp2_with fail
  refine HB.out.mono ?_
  rintro e w1 ⟨v, rfl, hrow, _, hb1⟩
  have hrow1 := hrow ch0
  obtain ⟨ba, bc, rfl⟩ := own_shape hrow1
  rw [ch0]
  have hB1 : Below w.heap.size w w1 := HA.out.trans (hb1.mono HA.out.size)
  have HR1 : Hid (Calls Tryz.prog 21 #[.slice (some ⟨w.heap.size, 0, none⟩) 1 1] w1 fun e w' => e = .returned (.tuple #[.string rt, .int .i64 0]) ∧ Below w1.heap.size w1 w') := HR.out w1 hB1 (HFl.out w1 hb1)
  have HT1 : Hid (IsTxs w1 ba (blB [f0])) := bl_txs hrow1
  have HF1 : Hid (IsFl w1 (some ⟨w.heap.size, 0, none⟩) [f0]) := HFl.out w1 hb1
  have HB1 : Hid (Below w.heap.size w w1) := hB1
  clear hrow hrow1 hb1 hB1 HR HFl
  generalize (blF [f0]).length = bl at *
  go_wp2_with fail
  refine HR1.out.mono ?_
  rintro e w2 ⟨rfl, hb2⟩
  have hB2 : Below w.heap.size w w2 := HB1.out.trans (hb2.mono HB1.out.size)
  have HF2 : Hid (Calls Tryz.prog 22 #[.string rt, .slice ba bl bc] w2 (FtP [f0] w2)) := HF.out w2 ba bc hB2 (HT1.out.below hb2 (Nat.le_refl _))
  have HFl2 : Hid (IsFl w2 (some ⟨w.heap.size, 0, none⟩) [f0]) := HF1.out.below hb2 (Nat.le_refl _)
  have HB2 : Hid (Below w.heap.size w w2) := hB2
  clear hb2 hB2 HF
  go_wp2_with fail
  refine HF2.out.mono ?_
  rintro e w3 ⟨v, rfl, hrow3, hb3⟩
  obtain ⟨fa, fc, rfl⟩ := own_shape hrow3
  have HS : Hid (Calls Tryz.prog 23 #[.slice (some ⟨w.heap.size, 0, none⟩) 1 1, .slice fa 1 fc] w3 (SmP [f0] [f0] w3)) := SameFiles_any _ fa 1 fc [f0] [f0] w3 (by decide) (HFl2.out.below hb3 (Nat.le_refl _)) (own_files hrow3 rfl)
  have HB3 : Hid (Below w.heap.size w w3) := HB2.out.trans (hb3.mono HB2.out.size)
  rw [show [f0].length = 1 from rfl]
  clear hrow3 hb3
  go_wp2_with fail
  refine HS.out.mono ?_
  rintro e w4 ⟨b, rfl, hb, n, rfl⟩
  rw [hb.2 rfl]
  have HB4 : Hid (Below w.heap.size w (w3.drewN n)) := below_drewN HB3.out n
  clear hb
  go_wp2
  go_ret
  exact ⟨rfl, HB4.out⟩
end Go.Proofs.YtcdgdmhlbgbklaaGreatDoor

/- What the row of a tree's statement lays: the digest's numbers; the world's shape. -/
namespace Go.Proofs.YtcdgdmhlbgbklaaGreatDoor
open Go.ChangeShapes Go.WideShapes Go.ChangeAt Go.RowKit Go.Shelf

theorem own : ownKnob Tryz.prog.godebug = none := by kernel_rfl
theorem laid_ints {W : World} {name : String} {l : List Int} {rest : List (String × DataW Unit)} {ps : List MemPlace} {g0 T n : Nat} (h : DataW.LaidVars Tryz.prog W ((name, .agg (l.map fun n => .lit (.int .u32 n))) :: rest) ps)
    (hg0 : Tryz.prog.globalNamed name = some g0) (ht0 : (Tryz.prog.globals[g0]?).map (·.type) = some T) (hT : Tryz.prog.underlying T = some (.array n 71)) (hn : l.length = n) : LaidAt g0 W l ∧ ∃ q, DataW.LaidVars Tryz.prog W rest q := by
  obtain ⟨g, t, cs, fuel, p, q, hg, ht, hv, hd, hrest, _⟩ := h
  obtain rfl := Option.some.inj (hg0.symm.trans hg)
  obtain rfl := Option.some.inj (ht0.symm.trans ht)
  refine ⟨fun r hr => ?_, q, hrest⟩
  obtain ⟨xs, m, _, ex, _, hl, hel⟩ := DataW.trod_array hT hd
  have c5 : Tryz.prog.cellsOf 71 = 1 := by kernel_rfl
  have e3 : (xs.map (·.1)) = l.map fun n => .lit (.int .u32 n) := (DataW.agg.inj (Prod.mk.inj ex).1).symm
  have hxl : xs.length = l.length := by have := congrArg List.length e3; simpa using this
  have hE := hel r (by omega)
  rw [c5, Nat.mul_one, List.getElem?_eq_getElem (by omega)] at hE
  obtain ⟨z, e1, e2, _⟩ := DataW.trod_int Tryz.underlying71 hE
  have e4 : (xs.map (·.1))[r]? = (l.map fun n => (DataW.lit (.int .u32 n) : DataW Unit))[r]? := by rw [e3]
  rw [List.getElem?_map, List.getElem?_map, List.getElem?_eq_getElem (by omega : r < xs.length), List.getElem?_eq_getElem hr, e2] at e4
  have hz : z = l[r] := by
    simpa only [Option.map_some, Option.some.injEq, DataW.lit.injEq, Lit.int.injEq, true_and] using e4
  rw [World.var?_cell hg hv r, ← hz]
  have : cs.toList[r]? = some (.int .u32 z) := by
    have h0 : ((cs.toList.drop r).take 1)[0]? = some (.int .u32 z) := by rw [e1]; rfl
    simpa using h0
  simpa using this


theorem env_of {W : World} (h : laidMetH Tryz.prog [("unicode/utf8.acceptRanges", Rows.laid_unicode_utf8_acceptRanges), ("foundry/digest.squareRoots", Rows.laid_foundry_digest_squareRoots), ("foundry/digest.cubeRoots", Rows.laid_foundry_digest_cubeRoots), ("unicode/utf8.first", Rows.laid_unicode_utf8_first)] W) (hs : W.ShapedOpen Tryz.prog) : Env W := by
  refine ⟨max_of_shaped hs, ?_⟩
  rw [MakeChecks.laidMetH_plain _ _ _ (by kernel_rfl)] at h
  obtain ⟨ps, hv, _, _⟩ := h
  obtain ⟨_, _, _, _, _, q0, _, _, _, _, hv0, _⟩ := hv
  rw [sqL_eq, cuL_eq] at hv0
  obtain ⟨h1, q, hq⟩ := laid_ints (T := 72) hv0 (g0 := 0) (by kernel_rfl) (by kernel_rfl) Tryz.underlying72 sqL_len
  obtain ⟨h2, _⟩ := laid_ints (T := 135) hq (g0 := 1) (by kernel_rfl) (by kernel_rfl) Tryz.underlying135 cuL_len
  exact ⟨by rw [sq8_l]; exact h1, h2⟩
end Go.Proofs.YtcdgdmhlbgbklaaGreatDoor

/- Files that came in as an argument. -/
namespace Go.Proofs.YtcdgdmhlbgbklaaGreatDoor
open Go.ChangeShapes Go.WideShapes Go.ChangeAt Go.RowKit Go.Shelf Go.Joins
open Go.Deep (trod_struct3)

theorem bytesFl : Tryz.prog.bytesOf 48 = 40 := by kernel_rfl
theorem addr_addF (b off j : Nat) : (⟨b, off, none⟩ : Addr).add j = ⟨b, off + j, none⟩ := by
  unfold Addr.add
  split <;> simp_all
theorem cellsFl : Tryz.prog.cellsOf 48 = 3 := by kernel_rfl

set_option maxRecDepth 100000 in
theorem arg_file {H : Type} {enc : TypeId × Value → H} {W : World} {cs : List Value} {n : Nat} {y : DataW H × List MemPlace} (hl : cs.length = 3)
    (h : DataW.trod enc Tryz.prog W 0 (fun _ => true) true n 48 cs = some y) : ∃ nd : Fl, cs = [.string nd.pa, .string nd.tx, .bool nd.rn] ∧ nd.pa.size ≤ maxLen ∧ nd.tx.size ≤ maxLen := by
  match cs, hl with
  | [c0, c1, c2], _ =>
    obtain ⟨y0, y1, y2, m, hx, _, h0, h1, h2⟩ := trod_struct3 Tryz.underlying48 h
    have k1 : Tryz.prog.cellsOf 9 = 1 := by kernel_rfl
    have k2 : Tryz.prog.cellsOf 4 = 1 := by kernel_rfl
    simp [k1, k2] at h0 h1 h2
    obtain ⟨s, e0, _, z0⟩ := DataW.trod_string Tryz.underlying9 h0
    obtain ⟨t, e1, _, z2⟩ := DataW.trod_string Tryz.underlying9 h1
    obtain ⟨a, e2, _⟩ := DataW.trod_bool Tryz.underlying4 h2
    simp at e0 e1 e2
    subst e0 e1 e2
    exact ⟨⟨s, t, a⟩, rfl, z0, z2⟩

set_option maxRecDepth 100000 in
/-- A slice of nodes that came in. -/
theorem arg_files {H : Type} {enc : TypeId × Value → H} {W : World} {v : Value} {d : DataW H} {p : List MemPlace} {base : Nat}
    (hv : Value.okWide Tryz.prog W .any base 23 v) (h : DataW.Trod enc Tryz.prog W 0 (fun _ => true) true 23 v d p) (hr : ∀ elems sp, d = .slice elems sp → elems.length ≤ 4611686018427387904) : ∃ (L : List Fl) (ao : Option Addr) (cap : Nat), v = .slice ao L.length cap ∧ IsFl W ao L ∧ L.length ≤ 4611686018427387904 := by
  obtain ⟨a, len, cap, rfl⟩ := okWide_slice Tryz.underlying23 hv
  obtain ⟨fuel, hf⟩ := h
  rcases DataW.trod_slice Tryz.underlying23 hf with ⟨hcs, _⟩ | ⟨x, l, c, elems, rest, n, _, hcs, hx, _, _, _, hlen, hel, _, _⟩
  · simp [Value.cells] at hcs
    obtain ⟨rfl, rfl, rfl⟩ := hcs
    exact ⟨[], none, 0, rfl, Or.inl rfl, by decide⟩
  · simp [Value.cells] at hcs
    obtain ⟨rfl, rfl, rfl⟩ := hcs
    have hb : len ≤ 4611686018427387904 := by
      have := hr _ _ (congrArg Prod.fst hx)
      simp at this
      omega
    have each : ∀ i : Fin len, ∃ nd : Fl, (nd.pa.size ≤ maxLen ∧ nd.tx.size ≤ maxLen) ∧ W.cell? (x.add (i.val * 3)) = some (.string nd.pa) ∧ W.cell? ((x.add (i.val * 3)).add 1) = some (.string nd.tx) ∧ W.cell? ((x.add (i.val * 3)).add 2) = some (.bool nd.rn) := by
      intro i
      have h1 := hel i.val i.isLt
      rw [cellsFl, List.getElem?_eq_getElem (by omega : i.val < elems.length), Option.bind_eq_some_iff] at h1
      obtain ⟨cs', hc, hy⟩ := h1
      have hs := World.cells?_some hc
      obtain ⟨nd, rfl, z⟩ := arg_file (by simpa using hs.2.1) hy
      refine ⟨nd, z, ?_, ?_, ?_⟩
      · have := hs.2.2 0 (by omega); simpa [Addr.add] using this
      · have := hs.2.2 1 (by omega); simpa using this
      · have := hs.2.2 2 (by omega); simpa using this
    obtain ⟨f, hf2⟩ := Classical.axiomOfChoice each
    have hlen2 : (List.ofFn f).length = len := by simp
    refine ⟨List.ofFn f, some x, cap, by rw [hlen2], ?_, by rw [hlen2]; exact hb⟩
    by_cases h0 : len = 0
    · exact Or.inl (List.length_eq_zero_iff.1 (hlen2.trans h0))
    · obtain ⟨b, off, spot⟩ := x
      have c0 := (hf2 ⟨0, by omega⟩).2.1
      have hspot : spot = none := by simpa [Addr.add] using World.cell?_spot c0
      subst hspot
      refine Or.inr ⟨b, off, rfl, by simpa [Addr.add] using World.block_lt_of_cell? W _ c0, fun j hj => ?_⟩
      rw [hlen2] at hj
      rw [List.getElem_ofFn]
      have k := (hf2 ⟨j, hj⟩).2
      rw [addr_addF, addr_addF, addr_addF] at k
      exact k
end Go.Proofs.YtcdgdmhlbgbklaaGreatDoor

/- Files that came in, of little bulk. -/
namespace Go.Proofs.YtcdgdmhlbgbklaaGreatDoor
open Go.ChangeShapes Go.WideShapes Go.ChangeAt Go.RowKit Go.Shelf Go.Joins
open Go.Deep (trod_struct3)

theorem bulk_len {H : Type} (l : List (DataW H)) : l.length ≤ Rows.uptoBulkAll l := by
  induction l with
  | nil => exact Nat.zero_le _
  | cons d r ih =>
    have h1 : 1 ≤ Rows.uptoBulk d := by
      cases d with
      | lit x => cases x <;> simp [Rows.uptoBulk]
      | _ => simp [Rows.uptoBulk]
    simp only [Rows.uptoBulkAll, List.length_cons]
    omega
set_option maxRecDepth 100000 in
theorem arg_files_up {H : Type} {enc : TypeId × Value → H} {W : World} {v : Value} {d : DataW H} {p : List MemPlace} {base : Nat}
    (hv : Value.okWide Tryz.prog W .any base 23 v) (h : DataW.Trod enc Tryz.prog W 0 (fun _ => true) true 23 v d p) (hr : ∀ elems sp, d = .slice elems sp → elems.length ≤ 1048576) : ∃ (L : List Fl) (ao : Option Addr) (cap : Nat), v = .slice ao L.length cap ∧ IsFl W ao L ∧ L.length ≤ 1048576 := by
  obtain ⟨a, len, cap, rfl⟩ := okWide_slice Tryz.underlying23 hv
  obtain ⟨fuel, hf⟩ := h
  rcases DataW.trod_slice Tryz.underlying23 hf with ⟨hcs, _⟩ | ⟨x, l, c, elems, rest, n, _, hcs, hx, _, _, _, hlen, hel, _, _⟩
  · simp [Value.cells] at hcs
    obtain ⟨rfl, rfl, rfl⟩ := hcs
    exact ⟨[], none, 0, rfl, Or.inl rfl, by decide⟩
  · simp [Value.cells] at hcs
    obtain ⟨rfl, rfl, rfl⟩ := hcs
    have hb : len ≤ 1048576 := by
      have := hr _ _ (congrArg Prod.fst hx)
      simp at this
      omega
    have each : ∀ i : Fin len, ∃ nd : Fl, (nd.pa.size ≤ maxLen ∧ nd.tx.size ≤ maxLen) ∧ W.cell? (x.add (i.val * 3)) = some (.string nd.pa) ∧ W.cell? ((x.add (i.val * 3)).add 1) = some (.string nd.tx) ∧ W.cell? ((x.add (i.val * 3)).add 2) = some (.bool nd.rn) := by
      intro i
      have h1 := hel i.val i.isLt
      rw [cellsFl, List.getElem?_eq_getElem (by omega : i.val < elems.length), Option.bind_eq_some_iff] at h1
      obtain ⟨cs', hc, hy⟩ := h1
      have hs := World.cells?_some hc
      obtain ⟨nd, rfl, z⟩ := arg_file (by simpa using hs.2.1) hy
      refine ⟨nd, z, ?_, ?_, ?_⟩
      · have := hs.2.2 0 (by omega); simpa [Addr.add] using this
      · have := hs.2.2 1 (by omega); simpa using this
      · have := hs.2.2 2 (by omega); simpa using this
    obtain ⟨f, hf2⟩ := Classical.axiomOfChoice each
    have hlen2 : (List.ofFn f).length = len := by simp
    refine ⟨List.ofFn f, some x, cap, by rw [hlen2], ?_, by rw [hlen2]; exact hb⟩
    by_cases h0 : len = 0
    · exact Or.inl (List.length_eq_zero_iff.1 (hlen2.trans h0))
    · obtain ⟨b, off, spot⟩ := x
      have c0 := (hf2 ⟨0, by omega⟩).2.1
      have hspot : spot = none := by simpa [Addr.add] using World.cell?_spot c0
      subst hspot
      refine Or.inr ⟨b, off, rfl, by simpa [Addr.add] using World.block_lt_of_cell? W _ c0, fun j hj => ?_⟩
      rw [hlen2] at hj
      rw [List.getElem_ofFn]
      have k := (hf2 ⟨j, hj⟩).2
      rw [addr_addF, addr_addF, addr_addF] at k
      exact k
end Go.Proofs.YtcdgdmhlbgbklaaGreatDoor

/- A text among others that rise. -/
namespace Go.Proofs.YtcdgdmhlbgbklaaGreatDoor
open Go.RowKit Go.Shelf Go.Sort
attribute [local go_sem ↓] appS_eq

/-- How adding ends. -/
def AdP (B : Nat) (v : Value) (l : List (List UInt8)) (s : ByteArray) (w : World) (e : Ending) (w' : World) : Prop := ∃ v', e = .returned v' ∧ w'.ownsRow B 9 1 v' (insN s.data.toList l).length ((insN s.data.toList l).map encStr) ∧ Below w.heap.size w w' ∧ ∀ g, v'.ownBlock = some g → v.ownBlock = some g ∨ w.heap.size ≤ g

theorem encS (s : ByteArray) : encStr s.data.toList = .string s := by
  show Value.string ⟨s.data.toList.toArray⟩ = _
  rw [Array.toArray_toList]
theorem al_at (W : World) (b : Nat) (cs : Array Value) (ty : TypeId) (k : Nat) (v : Value) (hb : b = W.heap.size) (hv : cs[k]? = some v) : (W.alloc (.cells cs ty)).cell? ⟨b, k, none⟩ = some v := by
  subst hb
  rw [Lib.cell_of_heap (heap_alloc_new W _)]
  exact hv
theorem heap_al (w : World) (o : Obj) (g : Nat) (hg : g < w.heap.size) : (w.alloc o).heap[g]? = w.heap[g]? := ((Below.refl w.heap.size w).alloc (Nat.le_refl _) o).block g hg
theorem eqL (a b : ByteArray) : (a.toList == b.toList) = decide (a.data.toList = b.data.toList) := by
  rw [Lib.toList_data, Lib.toList_data, Bool.eq_iff_iff]
  simp
theorem insN_take (s : List UInt8) : ∀ (l : List (List UInt8)) (k : Nat), k ≤ l.length → (∀ (j : Nat) (hj : j < l.length), j < k → l[j] < s) → (∀ hk : k < l.length, s < l[k]) → insN s l = l.take k ++ s :: l.drop k
  | [], k, hk, _, _ => by simp [insN]
  | m :: r, 0, _, _, h2 => by
    have h3 : s < m := h2 (by simp)
    unfold insN
    rw [if_neg (fun e => by rw [e] at h3; exact List.lt_irrefl _ h3), if_pos h3]
    rfl
  | m :: r, k + 1, hk, h1, h2 => by
    have h3 : m < s := h1 0 (by simp) (by omega)
    have ih := insN_take s r k (by simpa using hk) (fun j hj hjk => h1 (j + 1) (by simp; omega) (by omega)) (fun hk2 => h2 (by simp; omega))
    unfold insN
    rw [if_neg (fun e => by rw [e] at h3; exact List.lt_irrefl _ h3), if_neg (fun h4 => List.lt_irrefl _ (List.lt_trans h3 h4)), ih]
    rfl
theorem insN_has (s : List UInt8) : ∀ (l : List (List UInt8)) (k : Nat) (hk : k < l.length), (∀ (j : Nat) (hj : j < l.length), j < k → l[j] < s) → l[k] = s → insN s l = l
  | [], k, hk, _, _ => by simp at hk
  | m :: r, 0, _, _, h2 => by
    have h3 : m = s := h2
    unfold insN
    rw [if_pos h3.symm]
  | m :: r, k + 1, hk, h1, h2 => by
    have h3 : m < s := h1 0 (by simp) (by omega)
    have ih := insN_has s r k (by simpa using hk) (fun j hj hjk => h1 (j + 1) (by simp; omega) (by omega)) h2
    unfold insN
    rw [if_neg (fun e => by rw [e] at h3; exact List.lt_irrefl _ h3), if_neg (fun h4 => List.lt_irrefl _ (List.lt_trans h3 h4)), ih]

theorem app_empty (N n c : Nat) (hnc : n ≤ c) (W : World) : (Builtin.append_ #[22, 22] 22 #[.slice (some ⟨N, 0, none⟩) n c, .slice none 0 0]).run Tryz.prog W = .ok (.slice (some ⟨N, 0, none⟩) n c) W := by
  obtain ⟨i0, hi, hz0, hz1, hz2⟩ := info_parts infTx
  simp [Builtin.append_, run_underlying Tryz.underlying22, sizeOf, typeInfo, hi, Builtin.lenOf, Builtin.firstCells, storeCells, hnc]

set_option maxHeartbeats 4000000 in
set_option maxRecDepth 100000 in
theorem AddText_nil (B : Nat) (s : ByteArray) (w : World) (hB : B ≤ w.heap.size) :
    Calls Tryz.prog 33 #[.slice none 0 0, .string s] w fun e w' => ∃ v', e = .returned v' ∧ w'.ownsRow B 9 1 v' 1 [encStr s.data.toList] ∧ Below w.heap.size w w' ∧ ∀ g, v'.ownBlock = some g → w.heap.size ≤ g := by
  obtain ⟨i0, hi, hz0, hz1, hz2⟩ := info_parts infTx
  have hzA : (w.alloc (.cells #[.string s] 9)).heap.size = w.heap.size + 1 := World.size_alloc _ _
  obtain ⟨g', cap', w1, hrun, hown, hgrow, hat, hlt⟩ := run_append_lies (P := Tryz.prog) ((w.alloc (.cells #[.string s] 9)).drew) 22 22 B 9 i0 (.string ⟨#[]⟩) 1 16 Tryz.underlying22 hi hz0 hz1 hz2 rfl (by decide) (.slice none 0 0) 0 [] (World.ownsRow_nil _ _ _ _) ⟨w.heap.size, 0, none⟩ 1 1 [.string s] rfl (fun j u hu => by
    rw [add0]
    have h1 : j < 1 := (List.getElem?_eq_some_iff.1 hu).1
    have h0 : j = 0 := by omega
    subst h0
    exact al_at w _ _ _ 0 u rfl hu) (fun u hu => by rw [List.mem_singleton.1 hu]; rfl) (by decide) (by decide) (by decide) (by show B ≤ (w.alloc _).heap.size; omega) (w.heap.size + 1) hzA
  have hap2 : (appS #[22, 22] 22 #[.slice none 0 0, .slice (some ⟨w.heap.size, 0, none⟩) 1 1]).run Tryz.prog ((w.alloc (.cells #[.string s] 9)).drew) = .ok (.slice (some ⟨g', 0, none⟩) 1 cap') w1 := hrun
  have hap1 : (appS #[22, 22] 22 #[.slice (some ⟨w.heap.size, 0, none⟩) 1 1, .slice none 0 0]).run Tryz.prog ((w.alloc (.cells #[.string s] 9)).drew) = .ok (.slice (some ⟨w.heap.size, 0, none⟩) 1 1) ((w.alloc (.cells #[.string s] 9)).drew) := app_empty _ _ _ (Nat.le_refl _) _
  have HE : Hid (w1.ownsRow B 9 1 (.slice (some ⟨g', 0, none⟩) 1 cap') 1 [encStr s.data.toList] ∧ Below w.heap.size w w1 ∧ w.heap.size ≤ g') := by
    refine ⟨by rw [encS]; exact hown, (((Below.refl _ w).alloc (Nat.le_refl _) _).drew).grown hgrow (by show w.heap.size ≤ (w.alloc _).heap.size; omega) (fun k hk => by cases hk), ?_⟩
    rcases hat with e | e
    · cases e
    · omega
  clear hrun hown hgrow hat hlt hzA hB
  go_enter Tryz.func33, Tryz.ntmps33
  go_wp2
  go_loopw [5] (fun v wr => v = .int .i64 0 ∧ wr = w) (fun _ _ => 0)
  case atStart => exact ⟨rfl, rfl⟩
  case round =>
    obtain ⟨rfl, rfl⟩ := hrel
    go_wp2
    go_region
    all_goals
      go_wp2
      go_ret
      exact ⟨_, rfl, HE.out.1, HE.out.2.1, fun g hg => by simp [Value.ownBlock] at hg; rw [← hg]; exact HE.out.2.2⟩

set_option maxHeartbeats 8000000 in
set_option maxRecDepth 100000 in
theorem AddText_some (B : Nat) (v : Value) (l : List (List UInt8)) (s : ByteArray) (w : World) (h : w.ownsRow B 9 1 v l.length (l.map encStr)) (h0 : 0 < l.length) (hn : l.length ≤ 1000000) :
    Calls Tryz.prog 33 #[v, .string s] w (AdP B v l s w) := by
  obtain ⟨g, cap, hv, hg1, hg2⟩ := h.form h0
  subst hv
  have hcap : l.length ≤ cap := by
    rcases h.2 with ⟨e, _⟩ | ⟨g', cap', cur, e, _, _, hle, _⟩
    · cases e
    · cases e; exact hle
  have HC : Hid (∀ (k : Nat) (hk : k < l.length), w.cell? ⟨g, k, none⟩ = some (.string ⟨(l[k]).toArray⟩)) := fun k hk => by
    refine (h.cellAt k (by omega)).trans ?_
    rw [List.getElem?_map, List.getElem?_eq_getElem hk]
    rfl
  -- both appends, at whatever place
  have HAp : Hid (∀ k : Nat, k ≤ l.length → ∃ (A : Addr) (v1 v2 : Value) (w1 w2 : World), (if cap = k then some (⟨g, 0, none⟩ : Addr) else some ⟨g, k, none⟩) = some A ∧
      (appS #[22, 22] 22 #[.slice (some ⟨w.heap.size, 0, none⟩) 1 1, .slice (some A) (l.length - k) (cap - k)]).run Tryz.prog ((w.alloc (.cells #[.string s] 9)).drew) = .ok v1 w1 ∧
      (appS #[22, 22] 22 #[.slice (some ⟨g, 0, none⟩) k k, v1]).run Tryz.prog w1 = .ok v2 w2 ∧ w2.ownsRow B 9 1 v2 (l.length + 1) ((l.take k ++ s.data.toList :: l.drop k).map encStr) ∧ Below w.heap.size w w2 ∧ ∀ x, v2.ownBlock = some x → w.heap.size ≤ x) := by
    intro k hk
    obtain ⟨i0, hi, hz0, hz1, hz2⟩ := info_parts infTx
    have hzA : ((w.alloc (.cells #[.string s] 9)).drew).heap.size = w.heap.size + 1 := World.size_alloc _ _
    have hAl : ∀ x : Nat, x < w.heap.size → ((w.alloc (.cells #[.string s] 9)).drew).heap[x]? = w.heap[x]? := fun x hx => heap_al w _ x hx
    have hlc : ∀ (j : Nat) (hj : j < l.length), ((w.alloc (.cells #[.string s] 9)).drew).cell? ⟨g, j, none⟩ = some (.string ⟨(l[j]).toArray⟩) := fun j hj => (World.cell?_of_block (w := w) (hAl g hg2)).trans (HC.out j hj)
    obtain ⟨A, hA, hsrc⟩ : ∃ A : Addr, (if cap = k then some (⟨g, 0, none⟩ : Addr) else some ⟨g, k, none⟩) = some A ∧ ∀ j u, ((l.drop k).map encStr)[j]? = some u → ((w.alloc (.cells #[.string s] 9)).drew).cell? (A.add j) = some u := by
      by_cases hck : cap = k
      · refine ⟨⟨g, 0, none⟩, by simp [hck], fun j u hu => ?_⟩
        have : l.drop k = [] := List.drop_eq_nil_iff.2 (by omega)
        rw [this] at hu
        simp at hu
      · refine ⟨⟨g, k, none⟩, by simp [hck], fun j u hu => ?_⟩
        have hj : j < (l.drop k).length := by have := (List.getElem?_eq_some_iff.1 hu).1; simpa using this
        rw [Addr.add_lit, hlc (k + j) (by rw [List.length_drop] at hj; omega)]
        rw [List.getElem?_map, List.getElem?_eq_getElem hj] at hu
        rw [← hu]
        simp [encStr]
    have hown0 : ((w.alloc (.cells #[.string s] 9)).drew).ownsRow w.heap.size 9 1 (.slice (some ⟨w.heap.size, 0, none⟩) 1 1) 1 [.string s] :=
      ⟨rfl, .inr ⟨w.heap.size, 1, #[.string s], rfl, Nat.le_refl _, heap_alloc_new w _, Nat.le_refl _, by decide, rfl, rfl⟩⟩
    obtain ⟨v1, w1, hr1, ho1, hg1', _⟩ := run_append_own (P := Tryz.prog) ((w.alloc (.cells #[.string s] 9)).drew) w.heap.size 22 22 9 i0 (.string ⟨#[]⟩) 1 16 Tryz.underlying22 hi hz0 hz1 hz2 rfl (by decide) (.slice (some ⟨w.heap.size, 0, none⟩) 1 1) 1 [.string s] hown0 A (l.length - k) (cap - k) ((l.drop k).map encStr) (by simp) hsrc (fun u hu => by obtain ⟨x, _, rfl⟩ := List.mem_map.1 hu; rfl) (by unfold maxLen; omega) (by omega) (by omega)
    obtain ⟨g1, c1, hv1, hg3, hg4⟩ := ho1.form (by omega)
    have hw1 : ∀ x : Nat, x < w.heap.size → w1.heap[x]? = w.heap[x]? := fun x hx => (hg1'.block x (by omega) (fun e => by simp [Value.ownBlock] at e; omega)).trans (hAl x hx)
    have hcells1 : ∀ j u, ([.string s] ++ (l.drop k).map encStr)[j]? = some u → w1.cell? ((⟨g1, 0, none⟩ : Addr).add j) = some u := by
      have := ho1
      rw [hv1] at this
      exact this.cells rfl
    obtain ⟨v2, w2, hr2, ho2, hg2'⟩ := run_append_arg_grows (P := Tryz.prog) w1 22 22 9 i0 (.string ⟨#[]⟩) 1 16 Tryz.underlying22 hi hz0 hz1 hz2 rfl (by decide) ⟨g, 0, none⟩ k k ((l.take k).map encStr) (by simp; omega) (fun j u hu => by
        have hj : j < (l.take k).length := by have := (List.getElem?_eq_some_iff.1 hu).1; simpa using this
        have hjl : j < l.length := by rw [List.length_take] at hj; omega
        rw [add0, World.cell?_of_block (w := w) (hw1 g hg2), HC.out j hjl]
        rw [List.getElem?_map, List.getElem?_eq_getElem hj] at hu
        rw [← hu]
        simp [encStr]) ⟨g1, 0, none⟩ (1 + (l.length - k)) c1 ([.string s] ++ (l.drop k).map encStr) (by simp; omega) hcells1 (by omega) (by unfold maxLen; omega) (by omega)
    have hsz1 : w.heap.size ≤ w1.heap.size := by have := hg1'.size; omega
    refine ⟨A, v1, v2, w1, w2, hA, hr1, by rw [hv1]; exact hr2, ?_, ?_, fun x hx => ?_⟩
    · have hl2 : l.length + 1 = k + (1 + (l.length - k)) := by omega
      have hc2 : (l.take k ++ s.data.toList :: l.drop k).map encStr = (l.take k).map encStr ++ ([.string s] ++ (l.drop k).map encStr) := by simp [encS]
      rw [hl2, hc2]
      obtain ⟨x1, x2⟩ := ho2
      refine ⟨x1, ?_⟩
      rcases x2 with x2 | ⟨a1, a2, a3, a4, a5, a6⟩
      · exact .inl x2
      · exact .inr ⟨a1, a2, a3, a4, by omega, a6⟩
    · refine ⟨?_, ?_, ?_, ?_, fun x hx => ?_⟩
      · exact hg2'.os.trans hg1'.os
      · exact hg2'.tape.trans hg1'.tape
      · exact hg2'.output.trans hg1'.output
      · have := hg2'.size; omega
      · exact (hg2'.block x (by omega) (fun e => by cases e)).trans (hw1 x hx)
    · have := (ho2.lt x hx).1; omega
  have HOwn : Hid (w.ownsRow B 9 1 (.slice (some ⟨g, 0, none⟩) l.length cap) l.length (l.map encStr)) := h
  clear h hg1 hg2
  go_enter Tryz.func33, Tryz.ntmps33
  go_wp2
  go_loopw [5] (fun v wr => ∃ k : Nat, k ≤ l.length ∧ v = .int .i64 (k : Int) ∧ wr = w ∧ Hid (∀ (j : Nat) (hj : j < l.length), j < k → l[j] < s.data.toList)) (fun v _ => l.length - (RowKit.intOf v).toNat)
  case atStart => exact ⟨0, Nat.zero_le _, rfl, rfl, by unfold Hid; omega⟩
  case round =>
    obtain ⟨k, hk, rfl, rfl, HLo⟩ := hrel
    obtain ⟨k1, hk1⟩ : ∃ k1, k1 = k + 1 := ⟨_, rfl⟩
    have hk2 : (k : Int) + 1 = (k1 : Int) := by omega
    have hw2 : IntKind.i64.wrap (k1 : Int) = (k1 : Int) := by rw [IntKind.wrap_i64]; omega
    have HK1 : Hid (k1 = k + 1) := hk1
    obtain ⟨A, v1, v2, w1, w2, hA, ha1, ha2, hE⟩ := HAp.out k hk
    have HE : Hid (w2.ownsRow B 9 1 v2 (l.length + 1) ((l.take k ++ s.data.toList :: l.drop k).map encStr) ∧ Below wr.heap.size wr w2 ∧ ∀ x, v2.ownBlock = some x → wr.heap.size ≤ x) := hE
    have hk4 : k ≤ cap := by omega
    clear hk1 hE
    by_cases hlt : k < l.length
    · have hki : (k : Int) < (l.length : Int) := by omega
      have c1 := HC.out k hlt
      have hne : ((⟨(l[k]).toArray⟩ : ByteArray).toList == s.toList) = decide (l[k] = s.data.toList) := by rw [eqL]
      have hbl : Op.bytesLess (⟨(l[k]).toArray⟩ : ByteArray).toList s.toList = decide (l[k] < s.data.toList) := by rw [Lib.toList_data, Lib.toList_data, tlt]
      by_cases hb : l[k] < s.data.toList
      · rw [decide_eq_true hb] at hbl
        have HLo2 : Hid (∀ (j : Nat) (hj : j < l.length), j < k1 → l[j] < s.data.toList) := fun j hj hj2 => by
          by_cases e : j < k
          · exact HLo.out j hj e
          · have e2 : j = k := by have := HK1.out; omega
            subst e2
            exact hb
        clear hb
        generalize (⟨(l[k]).toArray⟩ : ByteArray) = x at c1 hne hbl
        go_wp2
        refine ⟨⟨k1, by rw [HK1.out]; exact hlt, rfl, trivial, HLo2⟩, ?_⟩
        have := HK1.out
        simp [RowKit.intOf]; omega
      · rw [decide_eq_false hb] at hbl
        by_cases heq : l[k] = s.data.toList
        · rw [decide_eq_true heq] at hne
          have HZ : Hid (insN s.data.toList l = l) := insN_has _ l k hlt HLo.out heq
          clear hb heq
          generalize (⟨(l[k]).toArray⟩ : ByteArray) = x at c1 hne hbl
          go_wp2
          go_ret
          exact ⟨_, rfl, by rw [HZ.out]; exact HOwn.out, Below.refl _ _, fun g hg => .inl hg⟩
        · rw [decide_eq_false heq] at hne
          have HZ : Hid (insN s.data.toList l = l.take k ++ s.data.toList :: l.drop k ∧ (l.take k ++ s.data.toList :: l.drop k).length = l.length + 1) := by
            refine ⟨insN_take _ l k hk HLo.out fun _ => ?_, by simp; omega⟩
            rcases Decidable.em (s.data.toList < l[k]) with h | h
            · exact h
            · exact absurd (List.le_antisymm (List.not_lt.1 h) (List.not_lt.1 hb)) heq
          clear hb heq
          generalize (⟨(l[k]).toArray⟩ : ByteArray) = x at c1 hne hbl
          go_wp2
          go_region
          all_goals
            go_wp2
            go_ret
            exact ⟨_, rfl, by rw [HZ.out.1, HZ.out.2]; exact HE.out.1, HE.out.2.1, fun g hg => .inr (HE.out.2.2 g hg)⟩
    · have hki : ¬ (k : Int) < (l.length : Int) := by omega
      have HZ : Hid (insN s.data.toList l = l.take k ++ s.data.toList :: l.drop k ∧ (l.take k ++ s.data.toList :: l.drop k).length = l.length + 1) := ⟨insN_take _ l k hk HLo.out fun h => absurd h hlt, by simp; omega⟩
      go_wp2
      go_region
      all_goals
        go_wp2
        go_ret
        exact ⟨_, rfl, by rw [HZ.out.1, HZ.out.2]; exact HE.out.1, HE.out.2.1, fun g hg => .inr (HE.out.2.2 g hg)⟩
theorem AddText_any (B : Nat) (v : Value) (l : List (List UInt8)) (s : ByteArray) (w : World) (h : w.ownsRow B 9 1 v l.length (l.map encStr)) (hv : l = [] → v = .slice none 0 0) (hB : B ≤ w.heap.size) (hn : l.length ≤ 1000000) :
    Calls Tryz.prog 33 #[v, .string s] w (AdP B v l s w) := by
  rcases Nat.eq_zero_or_pos l.length with h0 | h0
  · have e : l = [] := List.length_eq_zero_iff.1 h0
    subst e
    rw [hv rfl]
    refine (AddText_nil B s w hB).mono ?_
    rintro e w' ⟨v', rfl, h1, h2, h3⟩
    exact ⟨v', rfl, h1, h2, fun g hg => .inr (h3 g hg)⟩
  · exact AddText_some B v l s w h h0 hn
end Go.Proofs.YtcdgdmhlbgbklaaGreatDoor

/- Two trees that differ, plain. -/
namespace Go.Proofs.YtcdgdmhlbgbklaaGreatDoor
open Go.RowKit Go.Shelf Go.Maps Go.WideMaps Go.Sort

def zeroFl : Fl := ⟨⟨#[]⟩, ⟨#[]⟩, false⟩
def sameB (f g : Fl) : Bool := decide (f.pa.data.toList = g.pa.data.toList) && decide (f.tx.data.toList = g.tx.data.toList) && decide (f.rn = g.rn)
theorem sameB_iff (f g : Fl) : sameB f g = true ↔ f = g := by
  unfold sameB
  rw [Bool.and_eq_true, Bool.and_eq_true, decide_eq_true_eq, decide_eq_true_eq, decide_eq_true_eq]
  constructor
  · rintro ⟨⟨h1, h2⟩, h3⟩
    obtain ⟨p, t, r⟩ := f
    obtain ⟨p2, t2, r2⟩ := g
    simp only at h1 h2 h3
    rw [bytes_ext h1, bytes_ext h2, h3]
  · rintro rfl
    exact ⟨⟨rfl, rfl⟩, rfl⟩
/-- The file that has a path. -/
def getF (M : List Fl) (k : List UInt8) : Fl := (M.find? fun g => decide (pth g = k)).getD zeroFl
theorem getF_byD {M : List Fl} (hn : (M.map pth).Nodup) (k : List UInt8) : (byD M).atKey (.string k) (fD zeroFl) = fD (getF M k) := by
  unfold getF
  cases h : M.find? fun g => decide (pth g = k) with
  | none =>
    refine atNo_byD (fun f hf e => ?_) _
    have := List.find?_eq_none.1 h f hf
    simp [e] at this
  | some g =>
    have h1 : g ∈ M := List.mem_of_find?_eq_some h
    have h2 : pth g = k := by simpa using List.find?_some h
    rw [← h2]
    exact at_byD hn h1 _
theorem getF_at {M : List Fl} (i : Nat) (hi : i < M.length) {k : List UInt8} (h : pth M[i] = k) (hf : ∀ j (hj : j < M.length), j < i → pth M[j] ≠ k) : getF M k = M[i] := by
  unfold getF
  have : M.find? (fun g => decide (pth g = k)) = some M[i] := by
    rw [List.find?_eq_some_iff_getElem]
    exact ⟨by simpa using h, i, hi, rfl, fun j hj => by simpa using hf j (by omega) hj⟩
  rw [this]
  rfl
theorem getF_no {M : List Fl} {k : List UInt8} (h : ∀ g ∈ M, pth g ≠ k) : getF M k = zeroFl := by
  unfold getF
  rw [List.find?_eq_none.2 (fun g hg => by simpa using h g hg)]
  rfl
theorem pathOk_ne {p : ByteArray} (h : pathOk p = true) : p.data.toList ≠ [] := by
  intro e
  unfold pathOk at h
  rw [Bool.and_eq_true, pieces_sl, e] at h
  have h2 : nameOk p = true := by simpa [sl] using h.2
  unfold nameOk at h2
  rw [Lib.toList_data, e] at h2
  simp at h2

/-- The paths of a list for which there is not the same file. -/
def othF (L M : List Fl) : List (List UInt8) := (L.filter fun f => !sameB (getF M (pth f)) f).map pth
theorem othF_snoc (L M : List Fl) (f : Fl) : othF (L ++ [f]) M = if sameB (getF M (pth f)) f = true then othF L M else othF L M ++ [pth f] := by
  unfold othF
  rw [List.filter_append, List.map_append]
  by_cases h : sameB (getF M (pth f)) f = true
  · rw [if_pos h]; simp [h]
  · rw [if_neg h]; simp [h]
theorem othF_len (L M : List Fl) : (othF L M).length ≤ L.length := by
  unfold othF
  rw [List.length_map]
  exact List.length_filter_le _ _
/-- The paths that differ, as the program finds them; and as the document does. -/
def difF (A C : List Fl) : List (List UInt8) := Lib.compact ((othF A C ++ othF C A).mergeSort fun x y => decide (x ≤ y))
def addAll (l : List (List UInt8)) : List (List UInt8) := l.foldl (fun r s => insN s r) []
theorem addAll_snoc (l : List (List UInt8)) (s : List UInt8) : addAll (l ++ [s]) = insN s (addAll l) := by simp [addAll, List.foldl_append]
theorem addAll_up (l : List (List UInt8)) : (addAll l).Pairwise (· < ·) := by
  refine snocInd (P := fun l => (addAll l).Pairwise (· < ·)) .nil (fun l a ih => ?_) l
  rw [addAll_snoc]
  exact insN_up a _ ih
theorem addAll_mem (l : List (List UInt8)) (x : List UInt8) : x ∈ addAll l ↔ x ∈ l := by
  refine snocInd (P := fun l => x ∈ addAll l ↔ x ∈ l) (by simp [addAll]) (fun l a ih => ?_) l
  rw [addAll_snoc, insN_mem, ih, List.mem_append, List.mem_singleton]
  exact or_comm
theorem addAll_len (l : List (List UInt8)) : (addAll l).length ≤ l.length := by
  refine snocInd (P := fun l => (addAll l).length ≤ l.length) (by simp [addAll]) (fun l a ih => ?_) l
  rw [addAll_snoc, List.length_append]
  have := insN_len a (addAll l)
  simp
  omega
theorem rise_uniq {a b : List (List UInt8)} (ha : a.Pairwise (· < ·)) (hb : b.Pairwise (· < ·)) (h : ∀ x, x ∈ a ↔ x ∈ b) : a = b := by
  have na : a.Nodup := ha.imp fun h e => by rw [e] at h; exact List.lt_irrefl _ h
  have nb : b.Nodup := hb.imp fun h e => by rw [e] at h; exact List.lt_irrefl _ h
  refine List.Perm.eq_of_pairwise (le := fun x y => x ≤ y) (fun x y _ _ h1 h2 => List.le_antisymm h1 h2) (ha.imp fun h => List.le_of_lt h) (hb.imp fun h => List.le_of_lt h) ((List.perm_ext_iff_of_nodup na nb).2 h)
theorem compact_up (l : List (List UInt8)) (h : l.Pairwise (· ≤ ·)) : (Lib.compact l).Pairwise (· < ·) := by
  unfold Lib.compact Lib.compactUpTo
  rw [List.pairwise_map]
  have hr : ((List.range l.length).filter (Lib.keeps l.toArray)).Pairwise (· < ·) := List.Pairwise.filter _ List.pairwise_lt_range
  refine List.Pairwise.imp_of_mem (fun {i j} hi hj hij => ?_) hr
  rw [List.mem_filter, List.mem_range] at hi hj
  have hk := hj.2
  unfold Lib.keeps at hk
  rw [decide_eq_true_eq] at hk
  have hj0 : j ≠ 0 := by omega
  have hne : l.toArray[j]! ≠ l.toArray[j - 1]! := by
    rcases hk with h | h
    · exact absurd h hj0
    · exact h
  have g : ∀ x (hx : x < l.length), l.toArray[x]! = l[x] := fun x hx => by
    rw [getElem!_pos l.toArray x (by simpa using hx)]
    simp
  rw [g j hj.1, g (j - 1) (by omega)] at hne
  rw [g i hi.1, g j hj.1]
  have hp := List.pairwise_iff_getElem.1 h
  have h1 : l[j - 1] ≤ l[j] := hp (j - 1) j (by omega) hj.1 (by omega)
  have h2 : l[i] ≤ l[j - 1] := by
    rcases Nat.lt_or_ge i (j - 1) with h3 | h3
    · exact hp i (j - 1) hi.1 (by omega) h3
    · have e : i = j - 1 := by omega
      subst e
      exact List.le_refl _
  rcases Decidable.em (l[i] < l[j]) with h3 | h3
  · exact h3
  · exfalso
    have h4 := List.not_lt.1 h3
    exact hne (List.le_antisymm (List.le_trans h4 h2) h1)
theorem dif_same (A C : List Fl) : difF A C = addAll (othF A C ++ othF C A) := by
  unfold difF
  refine rise_uniq (compact_up _ ?_) (addAll_up _) fun x => ?_
  · have := List.pairwise_mergeSort (le := fun x y : List UInt8 => decide (x ≤ y)) (fun a b c h1 h2 => by rw [decide_eq_true_eq] at *; exact List.le_trans h1 h2) (fun a b => by rw [Bool.or_eq_true, decide_eq_true_eq, decide_eq_true_eq]; exact List.le_total _ _) (othF A C ++ othF C A)
    exact this.imp fun h => by simpa using h
  · rw [mem_compact, List.mem_mergeSort, addAll_mem]
end Go.Proofs.YtcdgdmhlbgbklaaGreatDoor

/- Differs. -/
namespace Go.Proofs.YtcdgdmhlbgbklaaGreatDoor
open Go.RowKit Go.Shelf Go.Maps Go.WideMaps Go.Sort
attribute [local go_sem ↓] appS_eq

/-- The first error of two trees. -/
def erF (A C : List Fl) : Int := if chF A = 0 then chF C else chF A

theorem lookG {M n : Nat} {C : List Fl} {w : World} (hown : w.ownsMap Tryz.prog 9 fileE M n (byD C)) (hn : (C.map pth).Nodup) (s : ByteArray) (hs : s.size ≤ maxLen) :
    ∀ W : World, W.heap[M]? = w.heap[M]? → (Instr.lookup 98 (.map (some M)) (.string s) false).run Tryz.prog W = .ok (encF (getF C s.data.toList)) W := fun W hW => by
  obtain ⟨v, ps, hr, hv⟩ := (ownsMap_heap hown hW).lookup lawS Tryz.underlying98 (zeroF W) (fileE_mk zeroFl) (keyOf_string_mk Tryz.underlying9 hs)
  rw [getF_byD hn] at hv
  obtain ⟨f, rfl, hf⟩ := fileE_inv hv
  rw [fD_inj hf]
  exact hr

/-- One text more, at the end of a row. -/
theorem rowS_add {B : Nat} {l : List (List UInt8)} {v : Value} {w : World} (h : w.ownsRow B 9 1 v l.length (l.map encStr)) (hB : B ≤ w.heap.size) (s : ByteArray) (hl : l.length ≤ 1000000) :
    ∃ G C w', (appS #[22, 22] 22 #[v, .slice (some ⟨w.heap.size, 0, none⟩) 1 1]).run Tryz.prog (w.alloc (.cells #[.string s] 9)) = .ok (.slice (some ⟨G, 0, none⟩) (l.length + 1) C) w' ∧
      w'.ownsRow B 9 1 (.slice (some ⟨G, 0, none⟩) (l.length + 1) C) (l ++ [s.data.toList]).length ((l ++ [s.data.toList]).map encStr) ∧ Below B w w' := by
  obtain ⟨i0, hi, hz0, hz1, hz2⟩ := info_p infTx
  have hsz : (w.alloc (.cells #[.string s] 9)).heap.size = w.heap.size + 1 := World.size_alloc _ _
  have hr := h.alloc (.cells #[.string s] 9)
  obtain ⟨G, C, w', hrun, hrow, hgr, hat, hlt⟩ := run_append_lies (P := Tryz.prog) (w.alloc (.cells #[.string s] 9)) 22 22 B 9 i0 (.string ⟨#[]⟩) 1 16 Tryz.underlying22 hi hz0 hz1 hz2 rfl (by decide) v l.length (l.map encStr) hr ⟨w.heap.size, 0, none⟩ 1 1 [.string s] rfl (new_cells w _ _) (fun u hu => by rw [List.mem_singleton.1 hu]; rfl) (by decide) (by unfold maxLen; omega) (by omega) (by omega) (w.heap.size + 1) hsz
  refine ⟨G, C, w', hrun, ?_, ((Below.refl B w).alloc hB _).grown hgr (by omega) fun k hk => (hr.lt k hk).1⟩
  rw [List.length_append, List.map_append]
  simp only [List.map_cons, List.map_nil, encS]
  exact hrow

/-- How texts are answered. -/
def TxP (l : List (List UInt8)) (w : World) (e : Ending) (w' : World) : Prop := ∃ ao cap, e = .returned (.slice ao l.length cap) ∧ w'.ownsRow w.heap.size 9 1 (.slice ao l.length cap) l.length (l.map encStr) ∧ (l = [] → ao = none ∧ cap = 0) ∧ Below w.heap.size w w'
end Go.Proofs.YtcdgdmhlbgbklaaGreatDoor

/- Differs, whole. -/
namespace Go.Proofs.YtcdgdmhlbgbklaaGreatDoor
open Go.RowKit Go.Shelf Go.Maps Go.WideMaps Go.Sort
attribute [local go_sem ↓] appS_eq

theorem ok_nodup {L : List Fl} (h : chF L = 0) : (L.map pth).Nodup := by
  have h1 := (fit_iff L).1 (okT_of h).2.2
  rw [Bool.and_eq_true] at h1
  exact up_nodup h1.1
theorem ok_paths {L : List Fl} (h : okT L) : ∀ f ∈ L, f.pa.size ≤ 100 := fun f hf => pathOk_size (flE_pa (h.2.1 f hf)).1

theorem app_none (W : World) : (appS #[22, 22] 22 #[.slice none 0 0, .slice none 0 0]).run Tryz.prog W = .ok (.slice none 0 0) W := by
  obtain ⟨i0, hi, hz0, hz1, hz2⟩ := info_parts infTx
  show (Builtin.append_ #[22, 22] 22 #[.slice none 0 0, .slice none 0 0]).run Tryz.prog W = _
  simp [Builtin.append_, run_underlying Tryz.underlying22, sizeOf, typeInfo, hi, Builtin.lenOf, Builtin.firstCells]

/-- Two rows, the one behind the other. -/
theorem app_rows {B : Nat} {U V : List (List UInt8)} {a1 a2 : Option Addr} {c1 c2 : Nat} {w : World} (h1 : w.ownsRow B 9 1 (.slice a1 U.length c1) U.length (U.map encStr)) (n1 : U = [] → a1 = none ∧ c1 = 0) (h2 : w.ownsRow B 9 1 (.slice a2 V.length c2) V.length (V.map encStr)) (n2 : V = [] → a2 = none ∧ c2 = 0) (hB : B ≤ w.heap.size) (hu : U.length ≤ 1000000) (hv : V.length ≤ 1000000) :
    ∃ oa oc w', (appS #[22, 22] 22 #[.slice a1 U.length c1, .slice a2 V.length c2]).run Tryz.prog w = .ok (.slice oa (U ++ V).length oc) w' ∧
      w'.ownsRow B 9 1 (.slice oa (U ++ V).length oc) (U ++ V).length ((U ++ V).map encStr) ∧ (U ++ V = [] → oa = none ∧ oc = 0) ∧ Below B w w' := by
  rcases Nat.eq_zero_or_pos V.length with hV | hV
  · obtain rfl := List.length_eq_zero_iff.1 hV
    obtain ⟨rfl, rfl⟩ := n2 rfl
    rw [List.append_nil]
    rcases Nat.eq_zero_or_pos U.length with hU | hU
    · obtain rfl := List.length_eq_zero_iff.1 hU
      obtain ⟨rfl, rfl⟩ := n1 rfl
      exact ⟨none, 0, w, app_none w, h1, fun _ => ⟨rfl, rfl⟩, Below.refl _ _⟩
    · obtain ⟨g, cap, hf, hg1, hg2⟩ := h1.form hU
      injection hf with e1 _ e2
      subst e1 e2
      have hcap : U.length ≤ c1 := by
        rcases h1.2 with ⟨e, _⟩ | ⟨g', cap', cur, e, _, _, hle, _⟩
        · cases e
        · cases e; exact hle
      exact ⟨_, _, w, app_empty g U.length c1 hcap w, h1, fun e => by rw [e] at hU; exact absurd hU (by simp), Below.refl _ _⟩
  · obtain ⟨g, cap, hf, hg1, hg2⟩ := h2.form hV
    injection hf with e1 _ e2
    subst e1 e2
    obtain ⟨i0, hi, hz0, hz1, hz2⟩ := info_parts infTx
    have hsrc : ∀ j u, (V.map encStr)[j]? = some u → w.cell? ((⟨g, 0, none⟩ : Addr).add j) = some u := h2.cells rfl
    obtain ⟨v', w', hrun, hown, hgr, _, _⟩ := run_append_own (P := Tryz.prog) w B 22 22 9 i0 (.string ⟨#[]⟩) 1 16 Tryz.underlying22 hi hz0 hz1 hz2 rfl (by decide) (.slice a1 U.length c1) U.length (U.map encStr) h1 ⟨g, 0, none⟩ V.length c2 (V.map encStr) (by simp) hsrc (fun u hu => by obtain ⟨x, _, rfl⟩ := List.mem_map.1 hu; rfl) (by unfold maxLen; omega) (by omega) hB
    have e3 : U.length + V.length = (U ++ V).length := by simp
    rw [e3, ← List.map_append] at hown
    obtain ⟨oa, oc, rfl⟩ := own_shape hown
    exact ⟨oa, oc, w', hrun, hown, fun e => by
      have h9 := congrArg List.length e
      rw [List.length_append, List.length_nil] at h9
      omega, (Below.refl B w).grown hgr hB fun k hk => (h1.lt k hk).1⟩

/-- What Differs answers. -/
def dfL (A C : List Fl) : List (List UInt8) := if erF A C = 0 then difF A C else []
def DfP (A C : List Fl) (w : World) (e : Ending) (w' : World) : Prop := ∃ ao cap, e = .returned (.tuple #[.slice ao (dfL A C).length cap, .int .i64 (erF A C)]) ∧ w'.ownsRow w.heap.size 9 1 (.slice ao (dfL A C).length cap) (dfL A C).length ((dfL A C).map encStr) ∧ Below w.heap.size w w'

/-- Sorting a row and taking each once, whatever the row. -/
theorem sort_any {B : Nat} {D : List (List UInt8)} {oa : Option Addr} {oc : Nat} {w : World} (h : w.ownsRow B 9 1 (.slice oa D.length oc) D.length (D.map encStr)) (hn : D.length ≤ 1000000) (hB : B ≤ w.heap.size) :
    Calls Tryz.prog 28 #[.slice oa D.length oc] w fun e w' => e = .returned (.tuple #[]) ∧ w'.ownsRow B 9 1 (.slice oa D.length oc) D.length ((D.mergeSort fun x y => decide (x ≤ y)).map encStr) ∧ Below B w w' := by
  rcases Nat.eq_zero_or_pos D.length with hD | hD
  · obtain rfl := List.length_eq_zero_iff.1 hD
    refine (sortS_none oa oc w).mono ?_
    rintro e w' ⟨rfl, rfl⟩
    exact ⟨rfl, by rw [List.mergeSort_nil]; exact h, Below.refl _ _⟩
  · obtain ⟨g, cap, hf, hg1, hg2⟩ := h.form hD
    injection hf with e1 _ e2
    subst e1 e2
    refine (sort_row D h hn).mono ?_
    rintro e w' ⟨rfl, h1, h2⟩
    exact ⟨rfl, h1, (Below.refl B w).grown h2 hB fun k hk => by injection hk with hk; omega⟩
theorem comp_any {B : Nat} {D : List (List UInt8)} {oa : Option Addr} {oc : Nat} {w : World} (h : w.ownsRow B 9 1 (.slice oa D.length oc) D.length (D.map encStr)) (hn : D.length ≤ 1000000) (hB : B ≤ w.heap.size) :
    Calls Tryz.prog 29 #[.slice oa D.length oc] w fun e w' => e = .returned (.slice oa (Lib.compact D).length oc) ∧ w'.ownsRow B 9 1 (.slice oa (Lib.compact D).length oc) (Lib.compact D).length ((Lib.compact D).map encStr) ∧ Below B w w' := by
  rcases Nat.eq_zero_or_pos D.length with hD | hD
  · obtain rfl := List.length_eq_zero_iff.1 hD
    refine (Any.slices_Compact_string_empty laysComp oa oc w).mono ?_
    rintro e w' ⟨rfl, rfl⟩
    exact ⟨rfl, h, Below.refl _ _⟩
  · obtain ⟨g, cap, hf, hg1, hg2⟩ := h.form hD
    injection hf with e1 _ e2
    subst e1 e2
    refine (comp_row D h hn).mono ?_
    rintro e w' ⟨rfl, h1, h2⟩
    exact ⟨rfl, h1, (Below.refl B w).grown h2 hB fun k hk => by injection hk with hk; omega⟩

theorem erF_zero {A C : List Fl} (h : erF A C = 0) : chF A = 0 ∧ chF C = 0 := by
  unfold erF at h
  by_cases h1 : chF A = 0
  · rw [if_pos h1] at h; exact ⟨h1, h⟩
  · rw [if_neg h1] at h; exact absurd h h1
end Go.Proofs.YtcdgdmhlbgbklaaGreatDoor

/- Texts of one's own row are spoilt; every row that is one's own stays one. -/
namespace Go.Proofs.YtcdgdmhlbgbklaaGreatDoor
open Go.RowKit Go.Shelf Go.Sort

/-- Whatever row is one's own, is one's own there, too. -/
def KeepR (w wr : World) : Prop := ∀ (B : Nat) (t : TypeId) (s : Nat) (v : Value) (n : Nat) (S : List Value), w.ownsRow B t s v n S → ∃ S', wr.ownsRow B t s v n S'
theorem keep_set {w wr : World} (h : KeepR w wr) (g k : Nat) (x : Value) : KeepR w (wr.setCell ⟨g, k, none⟩ x) := fun B t s v n S h0 => by
  obtain ⟨S1, h1⟩ := h B t s v n S h0
  rcases h1.2 with ⟨e, e0⟩ | ⟨g', c, cur, e, hb, hg, h2, h3, h4, h5⟩
  · exact ⟨S1, h1.1, .inl ⟨e, e0⟩⟩
  · by_cases hne : g' = g
    · subst hne
      have hl : ((cur.setIfInBounds k x).toList.take (n * s)).length = n * s := by
        rw [List.length_take, Array.length_toList, Array.size_setIfInBounds, h4]
        exact Nat.min_eq_left (Nat.mul_le_mul_right _ h2)
      refine ⟨(cur.setIfInBounds k x).toList.take (n * s), hl, .inr ⟨g', c, cur.setIfInBounds k x, e, hb, ?_, h2, h3, by simpa using h4, rfl⟩⟩
      simp only [World.setCell, Array.getElem?_modify, hg]
      rfl
    · exact ⟨S1, h1.1, .inr ⟨g', c, cur, e, hb, by rw [Below.heap_setCell _ _ _ _ (by exact hne)]; exact hg, h2, h3, h4, h5⟩⟩
theorem own_fzT {w : World} {B g n c : Nat} {e : TypeId} {s : Nat} {xs : List Value} (h : w.ownsRow B e s (.slice (some ⟨g, 0, none⟩) n c) n xs) (j : Nat) : w.frozen? ⟨g, j, none⟩ = false := by
  rcases h.2 with ⟨e, _⟩ | ⟨g', c', cur, e, _, hb, _⟩
  · cases e
  · injection e with e1 _ _
    injection e1 with e1
    injection e1 with e1
    subst e1
    exact Lib.frozen_of_heap hb j
def SpK (B : Nat) (ao : Option Addr) (n c : Nat) (w wr : World) : Prop := (∃ S : List Value, wr.ownsRow B 9 1 (.slice ao n c) n S) ∧ w.grownBy wr (Value.slice ao n c).ownBlock ∧ KeepR w wr

set_option maxHeartbeats 4000000 in
set_option maxRecDepth 100000 in
theorem spoilK (B : Nat) (ao : Option Addr) (n c : Nat) (S : List Value) (w : World) (h : w.ownsRow B 9 1 (.slice ao n c) n S) (hn : n ≤ 1000000) :
    Calls Tryz.prog 12 #[.slice ao n c] w fun e w' => e = .returned (.tuple #[]) ∧ Hid (w.grownBy w' (Value.slice ao n c).ownBlock) ∧ Hid (KeepR w w') := by
  have HI0 : Hid (SpK B ao n c w w) := ⟨⟨S, h⟩, ⟨rfl, rfl, rfl, Nat.le_refl _, fun _ _ _ => rfl⟩, fun _ _ _ _ _ S h => ⟨S, h⟩⟩
  clear h
  go_enter Tryz.func12, Tryz.ntmps12
  go_wp2
  go_loopw [2] (fun i wr => ∃ k : Nat, k ≤ n ∧ i = .int .i64 (k : Int) ∧ Hid (SpK B ao n c w wr)) (fun i _ => n - (RowKit.intOf i).toNat)
  case atStart => exact ⟨0, Nat.zero_le _, rfl, HI0⟩
  case round =>
    obtain ⟨k, hk, rfl, HI⟩ := hrel
    by_cases hlt : k < n
    · have hki : (k : Int) < (n : Int) := by omega
      obtain ⟨k1, hk1⟩ : ∃ k1, k1 = k + 1 := ⟨_, rfl⟩
      have ek1 : (k : Int) + 1 = (k1 : Int) := by omega
      have ek2 : IntKind.i64.wrap (k1 : Int) = (k1 : Int) := by rw [IntKind.wrap_i64]; omega
      have HK1 : Hid (k1 = k + 1 ∧ k < n) := ⟨hk1, hlt⟩
      obtain ⟨⟨X, hrow⟩, hg, hkp⟩ := HI.out
      obtain ⟨g, cg, hv, _, _⟩ := hrow.form (by omega)
      obtain rfl : ao = some ⟨g, 0, none⟩ := by
        have := congrArg (fun v : Value => match v with | .slice a _ _ => a | _ => none) hv
        exact this
      have e0 := hrow.cellAt k (by omega)
      have z0 := own_fzT hrow k
      have HN : Hid (SpK B (some ⟨g, 0, none⟩) n c w (wr.setCell ⟨g, k, none⟩ (.string ⟨#[115, 112, 111, 105, 108, 116]⟩))) := by
        obtain ⟨S', h'⟩ := keep_set (w := wr) (fun _ _ _ _ _ S h => ⟨S, h⟩) g k (.string ⟨#[115, 112, 111, 105, 108, 116]⟩) _ _ _ _ _ _ hrow
        exact ⟨⟨S', h'⟩, hg.trans ⟨rfl, rfl, rfl, by simp [World.setCell], fun b _ hne => Below.heap_setCell _ _ _ _ fun e => hne (by rw [e]; rfl)⟩, keep_set hkp _ _ _⟩
      obtain ⟨x, hx⟩ : ∃ x, X[k]? = some x := ⟨_, List.getElem?_eq_getElem (by have := hrow.1; omega)⟩
      rw [hx] at e0
      clear hrow hg hv HI HI0 hk1 hx hkp
      clear hlt
      go_wp2
      refine ⟨⟨k1, by have := HK1.out; omega, rfl, HN⟩, ?_⟩
      have := HK1.out
      simp [RowKit.intOf]; omega
    · obtain rfl : k = n := by omega
      have k2 : ¬ (k : Int) < (k : Int) := by omega
      have HG : Hid (w.grownBy wr (Value.slice ao k c).ownBlock ∧ KeepR w wr) := by
        obtain ⟨_, hg, h2⟩ := HI.out
        exact ⟨hg, h2⟩
      clear hk hlt HI HI0
      go_wp2
      refine ⟨rfl, .tuple #[], ?_, rfl, HG.out.1, HG.out.2⟩
      simp [results, Tryz.results12]
end Go.Proofs.YtcdgdmhlbgbklaaGreatDoor

/- What is under a directory. -/
namespace Go.Proofs.YtcdgdmhlbgbklaaGreatDoor
open Go.RowKit Go.Shelf Go.Maps Go.WideMaps Go.Sort
attribute [local go_sem ↓] appS_eq

/-- One file more, at the end of a row. -/
theorem rowF_add {B : Nat} {F : List Fl} {v : Value} {w : World} (h : w.ownsRow B 48 3 v F.length (flCells F)) (hB : B ≤ w.heap.size) (x : Fl) (hF : F.length ≤ 1000) (d : Nat) :
    ∃ G C w', (appS #[23, 23] 23 #[v, .slice (some ⟨w.heap.size, 0, none⟩) 1 1]).run Tryz.prog ((w.alloc (.cells #[.string x.pa, .string x.tx, .bool x.rn] 48)).drewN d) = .ok (.slice (some ⟨G, 0, none⟩) (F.length + 1) C) w' ∧
      w'.ownsRow B 48 3 (.slice (some ⟨G, 0, none⟩) (F.length + 1) C) (F ++ [x]).length (flCells (F ++ [x])) ∧ Below B w w' := by
  obtain ⟨i0, hi, hz0, hz1, hz2⟩ := info_p infF
  have hsz : ((w.alloc (.cells #[.string x.pa, .string x.tx, .bool x.rn] 48)).drewN d).heap.size = w.heap.size + 1 := World.size_alloc _ _
  have hA : Below w.heap.size w ((w.alloc (.cells #[.string x.pa, .string x.tx, .bool x.rn] 48)).drewN d) := below_drewN ((Below.refl _ w).alloc (Nat.le_refl _) _) d
  have hr := row_heap h fun b hb => hA.block b (h.lt b hb).2
  obtain ⟨G, C, w3, hrun, hrow, hgr, hat, hlt⟩ := run_append_lies (P := Tryz.prog) ((w.alloc (.cells #[.string x.pa, .string x.tx, .bool x.rn] 48)).drewN d) 23 23 B 48 i0 (.agg #[.string ⟨#[]⟩, .string ⟨#[]⟩, .bool false]) 3 40 Tryz.underlying23 hi hz0 hz1 hz2 rfl (by decide) v F.length (flCells F) hr ⟨w.heap.size, 0, none⟩ 1 1 [.string x.pa, .string x.tx, .bool x.rn] rfl (new_cells w _ _) (fun u hu => by simp at hu; rcases hu with rfl | rfl | rfl <;> rfl) (by decide) (by unfold maxLen; omega) (by omega) (by omega) (w.heap.size + 1) hsz
  refine ⟨G, C, w3, hrun, ?_, (hA.mono hB).grown hgr (by omega) fun k hk => (hr.lt k hk).1⟩
  have e : flCells (F ++ [x]) = flCells F ++ [.string x.pa, .string x.tx, .bool x.rn] := by simp [flCells]
  rw [e, List.length_append]
  exact hrow

/-- How files are answered, with an error. -/
def RsP (er : Int) (L : List Fl) (w : World) (e : Ending) (w' : World) : Prop := ∃ ao cap, e = .returned (.tuple #[.slice ao L.length cap, .int .i64 er]) ∧ w'.ownsRow w.heap.size 48 3 (.slice ao L.length cap) L.length (flCells L) ∧ Below w.heap.size w w'
theorem RsP_nil (er : Int) {w w' : World} (hb : Below w.heap.size w w') : RsP er [] w (.returned (.tuple #[.slice none 0 0, .int .i64 er])) w' := ⟨none, 0, rfl, World.ownsRow_nil _ _ _ _, hb⟩

/-- A path further in. -/
def cutP (d : ByteArray) (f : Fl) : Fl := ⟨f.pa.extract (d.size + 1) f.pa.size, f.tx, f.rn⟩
def undF (L : List Fl) (d : ByteArray) : List Fl := (L.filter fun f => inB f.pa d).map (cutP d)
theorem undF_snoc (L : List Fl) (d : ByteArray) (f : Fl) : undF (L ++ [f]) d = if inB f.pa d = true then undF L d ++ [cutP d f] else undF L d := by
  unfold undF
  rw [List.filter_append, List.map_append]
  by_cases h : inB f.pa d = true
  · rw [if_pos h]; simp [h]
  · rw [if_neg h]; simp [h]
theorem undF_len (L : List Fl) (d : ByteArray) : (undF L d).length ≤ L.length := by
  unfold undF
  rw [List.length_map]
  exact List.length_filter_le _ _
theorem inB_lt {p d : ByteArray} (h : inB p d = true) : d.size < p.size := by
  unfold inB at h
  rw [Bool.and_eq_true, Bool.and_eq_true] at h
  exact of_decide_eq_true h.1.1
def unE (L : List Fl) (d : ByteArray) : Int := if chF L ≠ 0 then chF L else if pathOk d = false then 1 else if undF L d = [] then 5 else 0
def unL (L : List Fl) (d : ByteArray) : List Fl := if unE L d = 0 then undF L d else []
end Go.Proofs.YtcdgdmhlbgbklaaGreatDoor
