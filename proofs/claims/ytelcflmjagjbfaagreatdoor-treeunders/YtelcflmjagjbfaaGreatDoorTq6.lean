/- Flat: of a tree's texts. -/
import Derived.Deep.QuietTactic
import Derived.BigQuiet
import Derived.BigRegion
import Derived.ProofKit
import Derived.OpenShut
import Derived.ShutString
import Derived.ChangeOld
import Derived.SliceStrings
import Derived.Below
import Derived.Lib.SmallJoins
import Derived.Test.YtelcflmjagjbfaaGreatDoorTq5
namespace Go.Proofs.YtelcflmjagjbfaaGreatDoor
open Go.RowKit Go.Shelf Go.Maps Go.WideMaps Go.Sort Go.Lib
attribute [local go_sem ↓] appS_eq

set_option maxHeartbeats 2000000 in
set_option maxRecDepth 100000 in
theorem comparePaths_w (a b : Fl) (w : World) :
    Calls Tryz.prog 42 #[.agg #[.string a.pa, .string a.tx, .bool a.rn], .agg #[.string b.pa, .string b.tx, .bool b.rn]] w fun e w' => e = .returned (.int .i64 (cmpB a.pa b.pa)) ∧ w' = (w.alloc (.cells #[.string a.pa, .string a.tx, .bool a.rn] 30)).alloc (.cells #[.string b.pa, .string b.tx, .bool b.rn] 30) := by
  obtain ⟨p, t, r⟩ := a
  obtain ⟨p2, t2, r2⟩ := b
  have HC : Hid (∀ W, Calls Tryz.prog 61 #[.string p, .string p2] W fun e w' => e = .returned (.int .i64 (cmpB p p2)) ∧ w' = W) := Compare_s p p2
  simp only
  generalize cmpB p p2 = r9 at *
  go_enter Tryz.func42, Tryz.ntmps42
  go_wp2_with (first | (go_at_call 61; refine (HC.out _).mono ?_; rintro e w1 ⟨rfl, hw⟩; subst w1) | go_in)
  go_ret
  exact ⟨rfl, rfl⟩

def encT (x : ByteArray × ByteArray × Bool) : List Value := [.string x.1, .string x.2.1, .bool x.2.2]
def tri (f : Fl) : ByteArray × ByteArray × Bool := (f.pa, f.tx, f.rn)
def ofT (x : ByteArray × ByteArray × Bool) : Fl := ⟨x.1, x.2.1, x.2.2⟩
theorem flT (F : List Fl) : flCells F = (F.map tri).flatMap encT := by
  unfold flCells
  rw [List.flatMap_map]
  rfl
theorem encT_one (x : ByteArray × ByteArray × Bool) : ∀ v ∈ encT x, v.oneCell' = true := by
  intro v hv
  simp [encT] at hv
  rcases hv with rfl | rfl | rfl <;> rfl
theorem ltT (x y : ByteArray × ByteArray × Bool) : ltOf (fun x y : ByteArray × ByteArray × Bool => cmpB x.1 y.1) x y = decide (x.1.data.toList < y.1.data.toList) := cmpB_neg x.1 y.1
theorem swoT : SWO (ltOf fun x y : ByteArray × ByteArray × Bool => cmpB x.1 y.1) where
  irrefl x := by rw [ltT]; simp [List.lt_irrefl]
  trans x y z h1 h2 := by
    rw [ltT, decide_eq_true_eq] at *
    exact List.lt_trans h1 h2
  ntrans x y z h1 h2 := by
    rw [ltT, decide_eq_false_iff_not] at *
    exact fun h3 => h2 (by
      rcases Decidable.em (y.1.data.toList < z.1.data.toList) with h | h
      · exact h
      · exfalso
        exact h1 (by
          rcases Decidable.em (x.1.data.toList < y.1.data.toList) with h4 | h4
          · exact h4
          · exact absurd h3 (List.not_lt.2 (List.le_trans (List.not_lt.1 h) (List.not_lt.1 h4)))))
theorem sort_files_uniq {L d : List Fl} (hL : L.Pairwise fun f g => pth f < pth g) (hp : d.Perm L) (hs : d.Pairwise fun f g => pth f ≤ pth g) : d = L := by
  refine List.Perm.eq_of_pairwise (le := fun f g => pth f ≤ pth g) (fun a b ha hb h1 h2 => ?_) hs (hL.imp fun h => List.le_of_lt h) hp
  have e := List.le_antisymm h1 h2
  obtain ⟨i, hi, rfl⟩ := List.getElem_of_mem (hp.mem_iff.1 ha)
  obtain ⟨j, hj, rfl⟩ := List.getElem_of_mem hb
  have hq := List.pairwise_iff_getElem.1 hL
  rcases Nat.lt_trichotomy i j with hij | hij | hij
  · have := hq i j hi hj hij; rw [e] at this; exact absurd this (List.lt_irrefl _)
  · subst hij; rfl
  · have := hq j i hj hi hij; rw [e] at this; exact absurd this (List.lt_irrefl _)

/-- Files that are a tree's, sorted, are as they were. -/
theorem sortFiles {B : Nat} {F L : List Fl} {v : Value} {w : World} (h : w.ownsRow B 30 3 v F.length (flCells F)) (hL : L.Pairwise fun f g => pth f < pth g) (hp : F.Perm L) (hl : F.length ≤ 1000000) :
    Calls Tryz.prog 52 #[v, .func (.func 42) #[] #[]] w fun e w' => e = .returned (.tuple #[]) ∧ w'.ownsRow B 30 3 v L.length (flCells L) ∧ w.grownBy w' v.ownBlock := by
  have hh := h
  rcases h.2 with ⟨rfl, h0⟩ | ⟨g, cap, cur, rfl, hbase, hb, _⟩
  · have e : F = [] := List.length_eq_zero_iff.1 h0
    subst e
    have e2 : L = [] := List.Perm.eq_nil hp.symm
    subst e2
    refine (sortFF_none none 0 _ w).mono ?_
    rintro e w' ⟨rfl, rfl⟩
    exact ⟨rfl, hh, ⟨rfl, rfl, rfl, Nat.le_refl _, fun _ _ _ => rfl⟩⟩
  · rw [flT] at hh
    have hlen : F.length = (F.map tri).length := by simp
    have hH : HoldsK encT 3 w g 0 (F.map tri).toArray := holdsK_row encT (fun x => .string x.1) (fun x => .string x.2.1) (fun x => .bool x.2.2) (fun _ => rfl) (F.map tri) hlen hh
    have hc : CmpLays Tryz.prog 42 #[] encT 3 (fun x y : ByteArray × ByteArray × Bool => cmpB x.1 y.1) g 0 (F.map tri).toArray.size w := fun m os dk _ x y => by
      refine (comparePaths_w (ofT x) (ofT y) _).mono ?_
      rintro e w' ⟨rfl, rfl⟩
      exact ⟨rfl, 0, _, by rw [alloc_eq_grow, alloc_eq_grow, grow_grow]; rfl⟩
    have := sortFF_any encT (fun _ => rfl) encT_one (fun x y : ByteArray × ByteArray × Bool => cmpB x.1 y.1) swoT 42 #[] g 0 cap (F.map tri).toArray w (enters_of Tryz.func42 (by kernel_rfl) rfl) hc hH (Array.getElem?_eq_some_iff.1 hb).1 (by simp; omega)
    rw [show (F.map tri).toArray.size = F.length from by simp] at this
    refine this.mono ?_
    rintro e w' ⟨rfl, d', m, os, hpp, hs, rfl⟩
    have e1 : d'.size = F.length := by rw [hpp.1]; simp
    have hp2 : d'.toList.Perm (F.map tri) := by
      have := hpp.2.2
      have e2 : List.take F.length d'.toList = d'.toList := List.take_of_length_le (by rw [Array.length_toList]; omega)
      have e3 : List.take F.length (F.map tri) = F.map tri := List.take_of_length_le (by simp)
      simpa [hpp.1, e2, e3] using this
    have hs2 : (d'.toList.map ofT).Pairwise fun a b => pth a ≤ pth b := by
      rw [List.pairwise_map, List.pairwise_iff_getElem]
      intro i j hi hj hij
      have hi' : i < d'.size := by simpa using hi
      have hj' : j < d'.size := by simpa using hj
      have h1 := hs i j (Nat.zero_le _) hij (by omega)
      rw [ltT, decide_eq_false_iff_not, getElem!_pos d' i hi', getElem!_pos d' j hj'] at h1
      show d'.toList[i].1.data.toList ≤ d'.toList[j].1.data.toList
      rw [Array.getElem_toList, Array.getElem_toList]
      exact List.not_lt.1 h1
    have hot : ∀ l : List Fl, (l.map tri).map ofT = l := fun l => by rw [List.map_map]; exact List.map_id' l
    have hto : ∀ l : List (ByteArray × ByteArray × Bool), (l.map ofT).map tri = l := fun l => by rw [List.map_map]; exact List.map_id' l
    have e : d'.toList.map ofT = L := sort_files_uniq hL (by
      have := hp2.map ofT
      rw [hot] at this
      exact this.trans hp) hs2
    have e4 : d'.toList = L.map tri := by rw [← e, hto]
    have hput := rowK_put (m := m) (os := os) encT (fun x => .string x.1) (fun x => .string x.2.1) (fun x => .bool x.2.2) (fun _ => rfl) (F.map tri) (L.map tri) hlen (by simp [hp.length_eq]) hh
    rw [← e4, Array.toArray_toList] at hput
    refine ⟨rfl, ?_, hput.2⟩
    rw [flT, ← hp.length_eq, ← e4]
    exact hput.1

set_option maxHeartbeats 2000000 in
set_option maxRecDepth 100000 in
theorem idxL_any (ao : Option Addr) (cap : Nat) (bs : List ByteArray) (w : World) (hn : bs.length ≤ 4611686018427387904) (hl : IsTxs w ao bs) :
    Calls Tryz.prog 75 #[.slice ao bs.length cap, .func (.func 48) #[] #[]] w (IdxP (bs.any fun b => decide (100000 < b.size)) w) := by
  have HL : Hid (IsTxs w ao bs) := hl
  have hn1 : (bs.length : Int) ≤ 4611686018427387904 := by omega
  clear hl
  go_enter Tryz.func75, Tryz.ntmps75
  go_wp2
  go_loopw [8] (fun i wr => ∃ k : Nat, k ≤ bs.length ∧ i = .int .i64 k ∧ (∀ j, (hj : j < bs.length) → j < k → ¬ 100000 < bs[j].size) ∧ wr = w) (fun i _ => bs.length - (intOf i).toNat)
  case atStart => exact ⟨0, by omega, rfl, by omega, rfl⟩
  case round =>
    obtain ⟨k, hk, rfl, hlo, rfl⟩ := hrel
    have HN : Hid (∀ j, (hj : j < bs.length) → j < k → ¬ 100000 < bs[j].size) := hlo
    clear hlo
    by_cases hlt : k < bs.length
    · rcases HL.out with h | ⟨g, o, rfl, hg, hc⟩
      · exfalso; rw [h] at hlt; exact absurd hlt (by simp)
      have c0 := hc k hlt
      have HP : Hid (100000 < bs[k].size → (bs.any fun b => decide (100000 < b.size)) = true) := fun h => List.any_eq_true.2 ⟨bs[k], List.getElem_mem hlt, decide_eq_true h⟩
      generalize hx : bs[k] = x at c0 HP
      have HX : Hid (bs[k] = x) := hx
      have HT : Hid (∀ W, Calls Tryz.prog 48 #[.string x] W fun e w' => e = .returned (.bool (decide (100000 < x.size))) ∧ w' = W) := tisTooLong_any x
      clear hx hc
      by_cases hb : 100000 < x.size
      · have HB : Hid (100000 < x.size) := hb
        rw [decide_eq_true hb] at HT
        clear hb
        go_wp2_with (first | (go_at_call 48; refine (HT.out _).mono ?_; rintro e w1 ⟨rfl, rfl⟩) | go_in)
        go_ret
        refine ⟨k, rfl, ?_, Below.refl _ _⟩
        rw [HP.out HB.out]
        simp
      · have HB : Hid (¬ 100000 < x.size) := hb
        rw [decide_eq_false hb] at HT
        clear hb
        go_wp2_with (first | (go_at_call 48; refine (HT.out _).mono ?_; rintro e w1 ⟨rfl, rfl⟩) | go_in)
        refine ⟨⟨k + 1, by omega, by go_num, fun j hj hjk => ?_, trivial⟩, by simp [intOf]; omega⟩
        by_cases h : j < k
        · exact HN.out j hj h
        · obtain rfl : j = k := by omega
          rw [HX.out]
          exact HB.out
    · have hki : ¬ (k : Int) < (bs.length : Int) := by omega
      go_wp2
      go_ret
      refine ⟨-1, rfl, ?_, Below.refl _ _⟩
      rw [show (bs.any fun b => decide (100000 < b.size)) = false from List.any_eq_false.2 fun b hb => by
        obtain ⟨j, hj, rfl⟩ := List.getElem_of_mem hb
        simpa using HN.out j hj (by omega)]
      rfl
set_option maxHeartbeats 2000000 in
set_option maxRecDepth 100000 in
theorem cfL_any (ao : Option Addr) (cap : Nat) (bs : List ByteArray) (w : World) (hn : bs.length ≤ 4611686018427387904) (hl : IsTxs w ao bs) :
    Calls Tryz.prog 47 #[.slice ao bs.length cap, .func (.func 48) #[] #[]] w fun e w' => e = .returned (.bool (bs.any fun b => decide (100000 < b.size))) ∧ Below w.heap.size w w' := by
  have HI : Hid (Calls Tryz.prog 75 #[.slice ao bs.length cap, .func (.func 48) #[] #[]] w (IdxP (bs.any fun b => decide (100000 < b.size)) w)) := idxL_any ao cap bs w hn hl
  clear hl
  generalize (bs.any fun b => decide (100000 < b.size)) = b at *
  generalize bs.length = ln at *
  go_enter Tryz.func47, Tryz.ntmps47
  go_wp2_with fail
  refine HI.out.mono ?_
  rintro e w1 ⟨r, rfl, hr, hb1⟩
  have HB1 : Hid (Below w.heap.size w w1) := hb1
  have HR : Hid (decide (0 ≤ r) = b) := hr
  clear hb1 hr
  go_wp2
  go_ret
  exact ⟨by rw [← HR.out]; rfl, HB1.out⟩
end Go.Proofs.YtelcflmjagjbfaaGreatDoor

/- Flat, of a tree's texts, whatever others there are; what a text of a tree is. -/
namespace Go.Proofs.YtelcflmjagjbfaaGreatDoor
open Go.RowKit Go.Shelf Go.Maps Go.WideMaps Go.Sort Go.Lib

/-- How flattening ends: as the tree was. -/
def FtP (L : List Fl) (w : World) (e : Ending) (w' : World) : Prop := ∃ v, e = .returned (.tuple #[v, .int .i64 0]) ∧ w'.ownsRow w.heap.size 30 3 v L.length (flCells L) ∧ Below w.heap.size w w'

set_option maxHeartbeats 4000000 in
set_option maxRecDepth 100000 in
theorem Flat_ok (L : List Fl) (ba : Option Addr) (bc : Nat) (bs : List ByteArray) (w : World) (hok : okT L) (hn : bs.length ≤ 2000) (ht : IsTxs w ba bs) (hs : ∀ b ∈ bs, b.size ≤ 100000) (he : Env w) (hin : ∀ t ∈ (pkT1 L).2, t ∈ bs) (hcl : ∀ t ∈ (pkT1 L).2, ∀ b ∈ bs, smD b = smD t → b = t) :
    Calls Tryz.prog 29 #[.string (smD (pkT1 L).1), .slice ba bs.length bc] w (FtP L w) := by
  have hany : (bs.any fun b => decide (100000 < b.size)) = false := List.any_eq_false.2 fun b hb => by have := hs b hb; simp; omega
  have hC := cfL_any ba bc bs w (by omega) ht
  rw [hany] at hC
  have HC : Hid (Calls Tryz.prog 47 #[.slice ba bs.length bc, .func (.func 48) #[] #[]] w fun e w' => e = .returned (.bool false) ∧ Below w.heap.size w w') := hC
  have HI : Hid (∀ W, Calls Tryz.prog 49 #[.string (smD (pkT1 L).1)] W fun e w' => e = .returned (.bool true) ∧ w' = W) := fun W => by
    have := Is_any (smD (pkT1 L).1) W
    rw [smD_dig] at this
    exact this
  have HW : Hid (∀ W, Below w.heap.size w W → Calls Tryz.prog 50 #[.slice ba bs.length bc] W (NwP ba bc bs W)) := fun W hW => newWalk_any ba bc bs W (by omega) (ht.below hW (Nat.le_refl _)) hs (he.up hW)
  have HO : Hid (∀ B P M W, WS B P M (ixD bs bs.length) ba bc bs [] (.slice none 0 0) W → Calls Tryz.prog 51 #[.pointer (some ⟨P, 0, none⟩), .string (smD (pkT1 L).1)] W (StP B P M (ixD bs bs.length) ba bc bs [] (.slice none 0 0) W L)) := fun B P M W hW => whole_ok L hok hW (by have := hok.1; simpa using this) fun t h => finds_of (hin t h) (hcl t h)
  have hn2 : (bs.length : Int) ≤ 2000 := by omega
  have HK : Hid (okT L) := hok
  clear hany hC ht hs he hin hcl hok
  generalize smD (pkT1 L).1 = rt at *
  go_enter Tryz.func29, Tryz.ntmps29
  go_wp2_with fail
  refine HC.out.mono ?_
  rintro e w1 ⟨rfl, hb1⟩
  go_wp2_with fail
  refine (HI.out _).mono ?_
  rintro e wb ⟨rfl, rfl⟩
  go_wp2_with fail
  refine (HW.out _ hb1).mono ?_
  rintro e w2 ⟨P, M, rfl, hws, hb2⟩
  have HB2 : Hid (Below w.heap.size w w2) := hb1.trans (hb2.mono hb1.size)
  have HO2 : Hid (Calls Tryz.prog 51 #[.pointer (some ⟨P, 0, none⟩), .string rt] w2 (StP wb.heap.size P M (ixD bs bs.length) ba bc bs [] (.slice none 0 0) w2 L)) := HO.out _ _ _ _ hws
  have hsz := hb1.size
  clear hws hb1 hb2 HW HC HI HO
  go_wp2_with fail
  refine HO2.out.mono ?_
  rintro e w3 ⟨fv, Y, rfl, hY, hws, hfr⟩
  rw [List.nil_append] at hws
  have c2 := hws.c2
  have HB3 : Hid (Below w.heap.size w w3) := by
    have h0 := HB2.out
    refine ⟨hfr.os.trans h0.os, hfr.tape.trans h0.tape, hfr.output.trans h0.output, Nat.le_trans h0.size hfr.size, fun b hb => ?_⟩
    refine (hfr.blk b (Nat.lt_of_lt_of_le hb h0.size) (fun e => ?_) (by simp [Value.ownBlock])).trans (h0.block b hb)
    have := hws.loP
    omega
  have HS : Hid (Calls Tryz.prog 52 #[fv, .func (.func 42) #[] #[]] w3 fun e w' => e = .returned (.tuple #[]) ∧ w'.ownsRow wb.heap.size 30 3 fv L.length (flCells L) ∧ w3.grownBy w' fv.ownBlock) :=
    sortFiles hws.files (HK.out.2.2.imp fun hh => hh.1) hY (by have := hY.length_eq; have := HK.out.1; omega)
  have HWS : Hid (WS wb.heap.size P M (ixD bs bs.length) ba bc bs Y fv w3) := hws
  clear hY hws hfr HO2
  go_wp2_with fail
  refine HS.out.mono ?_
  rintro e w4 ⟨rfl, hrow, hg⟩
  have d2 : w4.cell? ⟨P, 2, none⟩ = some fv := (World.cell?_of_block (w := w3) (a := ⟨P, 2, none⟩) (hg.block P HWS.out.lt (fun e => HWS.out.fP e.symm))).trans c2
  have HF : Hid (w4.ownsRow w.heap.size 30 3 fv L.length (flCells L) ∧ Below w.heap.size w w4) := ⟨own_mono hrow hsz, HB3.out.grown hg HB3.out.size fun k hk => Nat.le_trans hsz (HWS.out.files.lt k hk).1⟩
  clear hrow hg HS c2
  go_wp2
  refine bodyPost_ret (v := .tuple #[fv, .int .i64 0]) (by simp [results, Tryz.results29, go_sem]) rfl ?_
  exact ⟨fv, rfl, HF.out⟩
end Go.Proofs.YtelcflmjagjbfaaGreatDoor

/- The sums of three texts (laid by wip/src/mksh.py). -/
namespace Go.Proofs.YtelcflmjagjbfaaGreatDoor
open Go.RowKit

theorem mix_of (q : S8) (B : ByteArray) (W : List Int) (r : S8) (hl : W.length = 64) (hok : ((List.range 64).all fun i => wnext B (W.take i) i == W.getD i 0) = true) (h : (⟨(q.a + (goF (cuL.zip W) q).a) % 4294967296, (q.b + (goF (cuL.zip W) q).b) % 4294967296, (q.c + (goF (cuL.zip W) q).c) % 4294967296, (q.d + (goF (cuL.zip W) q).d) % 4294967296, (q.e + (goF (cuL.zip W) q).e) % 4294967296, (q.f + (goF (cuL.zip W) q).f) % 4294967296, (q.g + (goF (cuL.zip W) q).g) % 4294967296, (q.h + (goF (cuL.zip W) q).h) % 4294967296⟩ : S8) = r) : mixS q B cuL = r := by
  have hw : ws B 64 = W := by
    have h1 := ws_of B W 64 (by omega) fun i hi => by simpa using List.all_eq_true.1 hok i (List.mem_range.2 hi)
    rw [h1, List.take_of_length_le (by omega)]
  have hr : rounds8 W cuL 64 q = goF (cuL.zip W) q := by
    rw [rounds8_fold _ _ _ _ (by omega) (by rw [cuL_len]; decide), List.take_of_length_le (by rw [List.length_zip, hl, cuL_len]; decide), ← goF_eq]
  unfold mixS
  rw [hw, hr]
  exact h

def sxT : ByteArray := ⟨#[120]⟩
def sx1B : ByteArray := ⟨#[120, 128, 0, 0, 0, 0, 0, 0, 0, 0, 0, 0, 0, 0, 0, 0, 0, 0, 0, 0, 0, 0, 0, 0, 0, 0, 0, 0, 0, 0, 0, 0, 0, 0, 0, 0, 0, 0, 0, 0, 0, 0, 0, 0, 0, 0, 0, 0, 0, 0, 0, 0, 0, 0, 0, 0, 0, 0, 0, 0, 0, 0, 0, 8]⟩
def sx1W : List Int := [2021654528, 0, 0, 0, 0, 0, 0, 0, 0, 0, 0, 0, 0, 0, 0, 8, 2021654528, 327680, 1971024, 536871234, 3418490760, 8475648, 1124568096, 4177534981, 931784704, 341448440, 3910008977, 359146923, 3236027942, 1500331568, 3723075617, 2150859516, 2969464858, 3203193819, 2344153889, 1621682451, 3793127511, 4094548217, 1965560327, 2113633090, 2029180404, 834715653, 3623783194, 2443265322, 1843327394, 2293781290, 211574689, 3698406187, 490561120, 3311074907, 853938067, 15903757, 3428712410, 150987924, 3880940780, 4238751076, 4017808925, 3462345068, 524655193, 3518015180, 1175202895, 200890185, 2650706160, 3779152477]
def sx1H : S8 := ⟨762385986, 3072766020, 23231657, 4222366453, 3360886705, 2419901659, 36013847, 2451196033⟩
theorem sx1_ok : ((List.range 64).all fun i => wnext sx1B (sx1W.take i) i == sx1W.getD i 0) = true := by kernel_rfl
theorem sx1_mix : mixS sq8 sx1B cuL = sx1H := mix_of sq8 sx1B sx1W sx1H (by kernel_rfl) sx1_ok (by kernel_rfl)
def sxD : ByteArray := ⟨#[50, 100, 55, 49, 49, 54, 52, 50, 98, 55, 50, 54, 98, 48, 52, 52, 48, 49, 54, 50, 55, 99, 97, 57, 102, 98, 97, 99, 51, 50, 102, 53, 99, 56, 53, 51, 48, 102, 98, 49, 57, 48, 51, 99, 99, 52, 100, 98, 48, 50, 50, 53, 56, 55, 49, 55, 57, 50, 49, 97, 52, 56, 56, 49]⟩
theorem sx_sum : sumB sxT sq8 cuL = sxD := by
  have e1 : sxT.size / 64 = 0 := by kernel_rfl
  have e2 : (tailOf sxT).size / 64 = 1 := by kernel_rfl
  have xsx1 : (tailOf sxT).extract (64 * 0) (64 * 0 + 64) = sx1B := by kernel_rfl
  have b0 : blocks sxT cuL sq8 0 = sq8 := by
    rfl
  have b1 : blocks (tailOf sxT) cuL sq8 1 = sx1H := by
    unfold blocks
    rw [xsx1]
    exact sx1_mix
  show (⟨(dgs (blocks (tailOf sxT) cuL (blocks sxT cuL sq8 (sxT.size / 64)) ((tailOf sxT).size / 64)).l).toArray⟩ : ByteArray) = sxD
  rw [e1, e2, b0, b1]
  show (⟨(dgs sx1H.l).toArray⟩ : ByteArray) = sxD
  kernel_rfl

def sbT : ByteArray := ⟨#[1, 1, 98, 1, 64, 50, 100, 55, 49, 49, 54, 52, 50, 98, 55, 50, 54, 98, 48, 52, 52, 48, 49, 54, 50, 55, 99, 97, 57, 102, 98, 97, 99, 51, 50, 102, 53, 99, 56, 53, 51, 48, 102, 98, 49, 57, 48, 51, 99, 99, 52, 100, 98, 48, 50, 50, 53, 56, 55, 49, 55, 57, 50, 49, 97, 52, 56, 56, 49]⟩
def sb1B : ByteArray := ⟨#[1, 1, 98, 1, 64, 50, 100, 55, 49, 49, 54, 52, 50, 98, 55, 50, 54, 98, 48, 52, 52, 48, 49, 54, 50, 55, 99, 97, 57, 102, 98, 97, 99, 51, 50, 102, 53, 99, 56, 53, 51, 48, 102, 98, 49, 57, 48, 51, 99, 99, 52, 100, 98, 48, 50, 50, 53, 56, 55, 49, 55, 57, 50, 49]⟩
def sb1W : List Int := [16867841, 1077044279, 825308724, 845297458, 912404532, 875573558, 842490721, 963011169, 1664299622, 895694901, 858809954, 825831475, 1667445860, 1647325746, 892876593, 926495281, 1399096494, 1451198134, 623161206, 2886433189, 3247631563, 1513134056, 4077117603, 4062456430, 3908562019, 3328636627, 386739405, 2718029692, 1436398886, 2410582992, 3145990811, 868526431, 583688567, 4064843820, 3295961435, 2505845818, 201420197, 1260548262, 2338923373, 2904266935, 2486113742, 507426809, 2915040799, 1717076287, 3049660185, 2354767803, 3341486518, 1765699754, 2290895305, 1303601763, 1163678055, 964844409, 348523182, 4224445108, 1434729713, 146279551, 3621537229, 1085849592, 3824515151, 1699132669, 2753955029, 635304769, 1486597638, 340749099]
def sb1H : S8 := ⟨3636586827, 4063557508, 2594577271, 2682798449, 4238592339, 3890565741, 1482465807, 2433056932⟩
theorem sb1_ok : ((List.range 64).all fun i => wnext sb1B (sb1W.take i) i == sb1W.getD i 0) = true := by kernel_rfl
theorem sb1_mix : mixS sq8 sb1B cuL = sb1H := mix_of sq8 sb1B sb1W sb1H (by kernel_rfl) sb1_ok (by kernel_rfl)
def sb2B : ByteArray := ⟨#[97, 52, 56, 56, 49, 128, 0, 0, 0, 0, 0, 0, 0, 0, 0, 0, 0, 0, 0, 0, 0, 0, 0, 0, 0, 0, 0, 0, 0, 0, 0, 0, 0, 0, 0, 0, 0, 0, 0, 0, 0, 0, 0, 0, 0, 0, 0, 0, 0, 0, 0, 0, 0, 0, 0, 0, 0, 0, 0, 0, 0, 0, 2, 40]⟩
def sb2W : List Int := [1630812216, 830472192, 0, 0, 0, 0, 0, 0, 0, 0, 0, 0, 0, 0, 0, 552, 1736918168, 852557824, 1254547170, 2685184882, 3032472972, 3237938989, 358278503, 3402279993, 1626029759, 1315982713, 2560430617, 3821006961, 3966295878, 459868091, 2412076552, 4046550394, 18728978, 3658629580, 1731132269, 3992757944, 4114688231, 2387387853, 2040619408, 1339605921, 3220084464, 2482749261, 600860033, 686886929, 3991075520, 2523920633, 3090949541, 176910659, 1038566829, 1029622117, 542548737, 887908939, 3040883146, 1989018620, 514533596, 2728017772, 1431005960, 740534894, 2499333312, 2709176111, 70101761, 311701250, 382519666, 2129212325]
def sb2H : S8 := ⟨3636251484, 2886615582, 2766240801, 569608003, 167460413, 33901062, 250798081, 3361365004⟩
theorem sb2_ok : ((List.range 64).all fun i => wnext sb2B (sb2W.take i) i == sb2W.getD i 0) = true := by kernel_rfl
theorem sb2_mix : mixS sb1H sb2B cuL = sb2H := mix_of sb1H sb2B sb2W sb2H (by kernel_rfl) sb2_ok (by kernel_rfl)
def sbD : ByteArray := ⟨#[100, 56, 98, 99, 99, 98, 53, 99, 97, 99, 48, 101, 52, 50, 49, 101, 97, 52, 101, 49, 55, 99, 50, 49, 50, 49, 102, 51, 56, 55, 52, 51, 48, 57, 102, 98, 51, 101, 51, 100, 48, 50, 48, 53, 52, 97, 48, 54, 48, 101, 102, 50, 101, 48, 48, 49, 99, 56, 53, 97, 53, 99, 48, 99]⟩
theorem sb_sum : sumB sbT sq8 cuL = sbD := by
  have e1 : sbT.size / 64 = 1 := by kernel_rfl
  have e2 : (tailOf sbT).size / 64 = 1 := by kernel_rfl
  have xsb1 : (sbT).extract (64 * 0) (64 * 0 + 64) = sb1B := by kernel_rfl
  have xsb2 : (tailOf sbT).extract (64 * 0) (64 * 0 + 64) = sb2B := by kernel_rfl
  have b0 : blocks sbT cuL sq8 1 = sb1H := by
    unfold blocks
    rw [xsb1]
    exact sb1_mix
  have b1 : blocks (tailOf sbT) cuL sb1H 1 = sb2H := by
    unfold blocks
    rw [xsb2]
    exact sb2_mix
  show (⟨(dgs (blocks (tailOf sbT) cuL (blocks sbT cuL sq8 (sbT.size / 64)) ((tailOf sbT).size / 64)).l).toArray⟩ : ByteArray) = sbD
  rw [e1, e2, b0, b1]
  show (⟨(dgs sb2H.l).toArray⟩ : ByteArray) = sbD
  kernel_rfl

def saT : ByteArray := ⟨#[1, 1, 97, 3, 64, 100, 56, 98, 99, 99, 98, 53, 99, 97, 99, 48, 101, 52, 50, 49, 101, 97, 52, 101, 49, 55, 99, 50, 49, 50, 49, 102, 51, 56, 55, 52, 51, 48, 57, 102, 98, 51, 101, 51, 100, 48, 50, 48, 53, 52, 97, 48, 54, 48, 101, 102, 50, 101, 48, 48, 49, 99, 56, 53, 97, 53, 99, 48, 99]⟩
def sa1B : ByteArray := ⟨#[1, 1, 97, 3, 64, 100, 56, 98, 99, 99, 98, 53, 99, 97, 99, 48, 101, 52, 50, 49, 101, 97, 52, 101, 49, 55, 99, 50, 49, 50, 49, 102, 51, 56, 55, 52, 51, 48, 57, 102, 98, 51, 101, 51, 100, 48, 50, 48, 53, 52, 97, 48, 54, 48, 101, 102, 50, 101, 48, 48, 49, 99, 56, 53]⟩
def sa1W : List Int := [16867587, 1080309858, 1667457589, 1667326768, 1697919537, 1700869221, 825713458, 825373030, 859322164, 858798438, 1647535411, 1680880176, 892625200, 909141350, 845492272, 828586037, 886636544, 1540355650, 2617750932, 24514866, 1396978113, 487428243, 1199873071, 1144281583, 820364061, 719456612, 508361905, 2072606281, 134157181, 1036833660, 2226017297, 2635760883, 2999310994, 1690029402, 1311348866, 760401778, 3524483172, 1368143792, 1813957442, 3773740631, 2714016827, 1706957737, 3915842791, 1518673489, 2273159237, 2105064724, 474888564, 3450907840, 1059072890, 4251441457, 196656757, 3528559064, 92918, 2672416797, 4030671865, 1001358042, 3900908907, 3061276716, 2689415086, 2830436603, 1810043210, 4176269674, 4122051652, 2719921531]
def sa1H : S8 := ⟨3273503112, 1168772759, 2130173675, 3688719627, 2842344253, 3028729528, 2692299053, 3972283351⟩
theorem sa1_ok : ((List.range 64).all fun i => wnext sa1B (sa1W.take i) i == sa1W.getD i 0) = true := by kernel_rfl
theorem sa1_mix : mixS sq8 sa1B cuL = sa1H := mix_of sq8 sa1B sa1W sa1H (by kernel_rfl) sa1_ok (by kernel_rfl)
def sa2B : ByteArray := ⟨#[97, 53, 99, 48, 99, 128, 0, 0, 0, 0, 0, 0, 0, 0, 0, 0, 0, 0, 0, 0, 0, 0, 0, 0, 0, 0, 0, 0, 0, 0, 0, 0, 0, 0, 0, 0, 0, 0, 0, 0, 0, 0, 0, 0, 0, 0, 0, 0, 0, 0, 0, 0, 0, 0, 0, 0, 0, 0, 0, 0, 0, 0, 2, 40]⟩
def sa2W : List Int := [1630888752, 1669332992, 0, 0, 0, 0, 0, 0, 0, 0, 0, 0, 0, 0, 0, 552, 1844214800, 1691418624, 2979086420, 2685995698, 2282531498, 2754019917, 3223459925, 3476220775, 3017887891, 3665695513, 579887754, 1407579294, 3779326799, 82457416, 2813544477, 1175443232, 1642247770, 2282434987, 1197798551, 4007322572, 3240048537, 2937068970, 4024654412, 2745199737, 2927484403, 1714665887, 3000264031, 1076101447, 1791180375, 1931949353, 30773845, 2250514220, 3455211521, 3799611517, 733113271, 3538918955, 4106522945, 1081765585, 1290442005, 1915029181, 2241877385, 1709476929, 753776158, 2024977659, 2865662388, 2612732731, 1472526080, 2378605027]
def sa2H : S8 := ⟨108285545, 4021650928, 637779520, 2676746045, 641017731, 796157738, 932929102, 2129732299⟩
theorem sa2_ok : ((List.range 64).all fun i => wnext sa2B (sa2W.take i) i == sa2W.getD i 0) = true := by kernel_rfl
theorem sa2_mix : mixS sa1H sa2B cuL = sa2H := mix_of sa1H sa2B sa2W sa2H (by kernel_rfl) sa2_ok (by kernel_rfl)
def saD : ByteArray := ⟨#[48, 54, 55, 52, 52, 101, 54, 57, 101, 102, 98, 53, 56, 53, 102, 48, 50, 54, 48, 51, 98, 101, 52, 48, 57, 102, 56, 98, 101, 55, 51, 100, 50, 54, 51, 53, 50, 55, 56, 51, 50, 102, 55, 52, 54, 55, 50, 97, 51, 55, 57, 98, 53, 101, 52, 101, 55, 101, 102, 49, 50, 50, 99, 98]⟩
theorem sa_sum : sumB saT sq8 cuL = saD := by
  have e1 : saT.size / 64 = 1 := by kernel_rfl
  have e2 : (tailOf saT).size / 64 = 1 := by kernel_rfl
  have xsa1 : (saT).extract (64 * 0) (64 * 0 + 64) = sa1B := by kernel_rfl
  have xsa2 : (tailOf saT).extract (64 * 0) (64 * 0 + 64) = sa2B := by kernel_rfl
  have b0 : blocks saT cuL sq8 1 = sa1H := by
    unfold blocks
    rw [xsa1]
    exact sa1_mix
  have b1 : blocks (tailOf saT) cuL sa1H 1 = sa2H := by
    unfold blocks
    rw [xsa2]
    exact sa2_mix
  show (⟨(dgs (blocks (tailOf saT) cuL (blocks saT cuL sq8 (saT.size / 64)) ((tailOf saT).size / 64)).l).toArray⟩ : ByteArray) = saD
  rw [e1, e2, b0, b1]
  show (⟨(dgs sa2H.l).toArray⟩ : ByteArray) = saD
  kernel_rfl
end Go.Proofs.YtelcflmjagjbfaaGreatDoor

/- Files that are the same. -/
namespace Go.Proofs.YtelcflmjagjbfaaGreatDoor
open Go.RowKit Go.Shelf

theorem toL_inj {a b : ByteArray} (h : a.toList = b.toList) : a = b := by
  rw [Lib.toList_data, Lib.toList_data] at h
  obtain ⟨x⟩ := a
  obtain ⟨y⟩ := b
  exact congrArg ByteArray.mk (Array.toList_inj.1 h)
/-- How the look ends. -/
def SmP (A C : List Fl) (w : World) (e : Ending) (w' : World) : Prop := ∃ b, e = .returned (.bool b) ∧ (b = true ↔ A = C) ∧ ∃ n, w' = w.drewN n

set_option maxHeartbeats 4000000 in
set_option maxRecDepth 100000 in
theorem SameFiles_any (ao co : Option Addr) (ac cc : Nat) (A C : List Fl) (w : World) (hn : A.length ≤ 4611686018427387904) (ha : IsFl w ao A) (hc : IsFl w co C) :
    Calls Tryz.prog 20 #[.slice ao A.length ac, .slice co C.length cc] w (SmP A C w) := by
  by_cases hl : A.length = C.length
  · rw [← hl]
    have HA : Hid (IsFl w ao A) := ha
    have HC : Hid (IsFl w co C) := hc
    have HL : Hid (A.length = C.length) := hl
    have hn1 : (A.length : Int) ≤ 4611686018427387904 := by omega
    clear ha hc hl
    go_enter Tryz.func20, Tryz.ntmps20
    go_wp2
    go_loopw [5] (fun i wr => ∃ k m : Nat, k ≤ A.length ∧ i = .int .i64 k ∧ A.take k = C.take k ∧ wr = w.drewN m) (fun i _ => A.length - (intOf i).toNat)
    case atStart => exact ⟨0, 0, Nat.zero_le _, rfl, rfl, rfl⟩
    case round =>
      obtain ⟨k, m, hk, rfl, ht, rfl⟩ := hrel
      have HK : Hid (A.take k = C.take k) := ht
      clear ht
      by_cases hlt : k < A.length
      · have hlt' : k < C.length := by rw [← HL.out]; exact hlt
        rcases HA.out with h | ⟨g, o, rfl, _, hca⟩
        · exfalso; rw [h] at hlt; exact absurd hlt (by simp)
        rcases HC.out with h | ⟨g', o', rfl, _, hcc⟩
        · exfalso; rw [h] at hlt'; exact absurd hlt' (by simp)
        obtain ⟨a0, a1, a2⟩ := hca k hlt
        obtain ⟨b0, b1, b2⟩ := hcc k hlt'
        have HN : Hid (A[k] ≠ C[k] → A ≠ C) := fun h e => h (by simp only [e])
        have HY : Hid (A[k] = C[k] → A.take (k + 1) = C.take (k + 1)) := fun h => by rw [List.take_succ_eq_append_getElem hlt, List.take_succ_eq_append_getElem hlt', HK.out, h]
        generalize A[k] = x at *
        generalize C[k] = y at *
        obtain ⟨xp, xt, xr⟩ := x
        obtain ⟨yp, yt, yr⟩ := y
        simp only at a0 a1 a2 b0 b1 b2
        have i2 : (k : Int) < A.length := by omega
        clear hca hcc
        by_cases h1 : xp.toList = yp.toList
        · obtain rfl := toL_inj h1
          by_cases h2 : xt.toList = yt.toList
          · obtain rfl := toL_inj h2
            by_cases h3 : xr = yr
            · subst h3
              have HZ : Hid (A.take (k + 1) = C.take (k + 1)) := HY.out rfl
              clear h1 h2 HN HY
              go_wp2
              go_region
              all_goals go_wp2
              all_goals exact ⟨⟨k + 1, m + 1, by omega, by go_num, HZ.out, rfl⟩, by simp [intOf]; omega⟩
            · have HZ : Hid (A ≠ C) := HN.out (by intro e; injection e with _ _ e; exact h3 e)
              have h3' : (xr == yr) = false := by simpa using h3
              clear h1 h2 HN HY
              go_wp2
              go_region
              all_goals go_wp2
              all_goals
                go_ret
                exact ⟨false, rfl, ⟨fun h => absurd h (by decide), fun h => absurd h HZ.out⟩, m + 1, rfl⟩
          · have HZ : Hid (A ≠ C) := HN.out (by intro e; injection e with _ e _; rw [e] at h2; exact h2 rfl)
            clear h1 HN HY
            go_wp2
            go_region
            all_goals go_wp2
            all_goals
              go_ret
              exact ⟨false, rfl, ⟨fun h => absurd h (by decide), fun h => absurd h HZ.out⟩, m + 1, rfl⟩
        · have HZ : Hid (A ≠ C) := HN.out (by intro e; injection e with e _ _; rw [e] at h1; exact h1 rfl)
          clear HN HY
          go_wp2
          go_region
          all_goals go_wp2
          all_goals
            go_ret
            exact ⟨false, rfl, ⟨fun h => absurd h (by decide), fun h => absurd h HZ.out⟩, m + 1, rfl⟩
      · have hki : ¬ (k : Int) < (A.length : Int) := by omega
        have HZ : Hid (A = C) := by
          have := HK.out
          have hL := HL.out
          rwa [List.take_of_length_le (by omega), List.take_of_length_le (by omega)] at this
        go_wp2
        go_ret
        exact ⟨true, rfl, ⟨fun _ => HZ.out, fun _ => rfl⟩, m, rfl⟩
  · have hne : ¬ (A.length : Int) = C.length := by omega
    have HZ : Hid (A ≠ C) := fun e => hl (by rw [e])
    clear hl ha hc
    go_enter Tryz.func20, Tryz.ntmps20
    go_wp2
    go_ret
    exact ⟨false, rfl, ⟨fun h => absurd h (by decide), fun h => absurd h HZ.out⟩, 0, rfl⟩
end Go.Proofs.YtelcflmjagjbfaaGreatDoor

/- What the statements of trees begin with. -/
namespace Go.Proofs.YtelcflmjagjbfaaGreatDoor
open Go.RowKit Go.Shelf Go.Maps Go.WideMaps Go.Sort Go.Lib

theorem mem_compact {α : Type} [Inhabited α] [DecidableEq α] (l : List α) (x : α) : x ∈ Lib.compact l ↔ x ∈ l := by
  have h1 : ∀ m, m ≤ l.length → ∀ j, j < m → l.toArray[j]! ∈ Lib.compactUpTo l.toArray m := by
    intro m
    induction m with
    | zero => intro _ j hj; omega
    | succ m ih =>
      intro hm j hj
      rw [Lib.compactUpTo_succ, List.mem_append]
      by_cases h : j < m
      · exact .inl (ih (by omega) j h)
      · obtain rfl : j = m := by omega
        by_cases hk : Lib.keeps l.toArray j = true
        · exact .inr (by rw [if_pos hk]; simp)
        · have hk2 : ¬ (j = 0 ∨ l.toArray[j]! ≠ l.toArray[j - 1]!) := by
            unfold Lib.keeps at hk
            simpa using hk
          have hj0 : j ≠ 0 := fun e => hk2 (.inl e)
          have he : l.toArray[j]! = l.toArray[j - 1]! := Decidable.byContradiction fun e => hk2 (.inr e)
          rw [he]
          exact .inl (ih (by omega) (j - 1) (by omega))
  constructor
  · intro h
    unfold Lib.compact Lib.compactUpTo at h
    obtain ⟨j, hj, rfl⟩ := List.mem_map.1 h
    have hj2 : j < l.length := List.mem_range.1 (List.mem_filter.1 hj).1
    rw [getElem!_pos l.toArray j (by simpa using hj2)]
    simp
  · intro h
    obtain ⟨j, hj, rfl⟩ := List.getElem_of_mem h
    have := h1 l.length (Nat.le_refl _) j hj
    rw [getElem!_pos l.toArray j (by simpa using hj)] at this
    simpa [Lib.compact] using this

/-- A tree's texts, as Blobs answers them. -/
def blB (L : List Fl) : List ByteArray := (blF L).map fun s => ⟨s.toArray⟩
theorem blB_mem (L : List Fl) (t : ByteArray) : t ∈ blB L ↔ t ∈ (pkT1 L).2 := by
  unfold blB blF
  rw [List.mem_map]
  constructor
  · rintro ⟨s, hs, rfl⟩
    rw [mem_compact, List.mem_mergeSort, List.mem_map] at hs
    obtain ⟨b, hb, rfl⟩ := hs
    rw [Array.toArray_toList]
    exact hb
  · intro h
    refine ⟨t.data.toList, ?_, by rw [Array.toArray_toList]⟩
    rw [mem_compact, List.mem_mergeSort, List.mem_map]
    exact ⟨t, h, rfl⟩
theorem blB_len (L : List Fl) : (blB L).length = (blF L).length := by unfold blB; simp
theorem bl_txs {w : World} {base : Nat} {ao : Option Addr} {cap : Nat} {L : List Fl} (h : w.ownsRow base 9 1 (.slice ao (blF L).length cap) (blF L).length ((blF L).map encStr)) : IsTxs w ao (blB L) := by
  rcases h.2 with ⟨_, h0⟩ | ⟨g, cap2, cur, hv, _, hh, _⟩
  · exact .inl (List.length_eq_zero_iff.1 (by rw [blB_len]; exact h0))
  · injection hv with hv _ _
    subst hv
    refine .inr ⟨g, 0, rfl, (Array.getElem?_eq_some_iff.1 hh).1, fun j hj => ?_⟩
    have hj2 : j < (blF L).length := by rw [← blB_len]; exact hj
    have h1 := h.cells (show (Value.slice (some ⟨g, 0, none⟩) (blF L).length cap).ownBlock = some g from rfl) j (encStr (blF L)[j]) (by simp [hj2])
    rw [add0] at h1
    have e : (blB L)[j] = ⟨((blF L)[j]'hj2).toArray⟩ := by simp [blB]
    rw [Nat.zero_add, h1, e]

def f0 : Fl := ⟨⟨#[97, 47, 98]⟩, ⟨#[120]⟩, false⟩
def f1 : Fl := ⟨⟨#[98]⟩, ⟨#[120]⟩, false⟩
theorem nm_a : nameOk ⟨#[97]⟩ = true := by
  unfold nameOk
  rw [Lib.toList_data]
  decide
theorem nm_b : nameOk ⟨#[98]⟩ = true := by
  unfold nameOk
  rw [Lib.toList_data]
  decide
theorem pa0 : pathOk f0.pa = true := by
  unfold pathOk
  have e : piecesB f0.pa = [⟨#[97]⟩, ⟨#[98]⟩] := by rfl
  rw [e, List.all_cons, List.all_cons, nm_a, nm_b]
  rfl
theorem ok0 : okT [f0] := by
  refine ⟨by decide, fun f hf => ?_, List.pairwise_singleton _ _⟩
  rw [List.mem_singleton.1 hf]
  unfold flE
  rw [if_neg (by rw [pa0]; decide), if_neg (by decide)]
theorem ch0 : chF [f0] = 0 := by
  unfold chF
  have h : flEs [f0] = 0 := flEs_yes _ fun j hj => ok0.2.1 _ (List.getElem_mem hj)
  rw [if_neg (by decide), if_pos h, if_pos ((fit_iff _).1 ok0.2.2)]
theorem sort1 (x : Nd) : sortN [x] = [x] := by unfold sortN; simp
theorem sx_s : smD ⟨#[120]⟩ = sxD := sx_sum
theorem sb_s : smD sbT = sbD := sb_sum
theorem sa_s : smD saT = saD := sa_sum
theorem tx_of (x : Nd) : txN [x] = ⟨(pk 1 ++ (pkT x.1 ++ (pk x.2.1.toNat ++ pkT x.2.2) ++ [])).toArray⟩ := by
  unfold txN
  rw [sort1]
  rfl
theorem dir1 (n : Nat) : dirF smD (n + 1) [f1] = (sbT, [⟨#[120]⟩, sbT]) := by
  rw [dirF_succ]
  have e1 : tops [f1] = [f1] := by rfl
  have e2 : names [f1] = [] := by rfl
  have e3 : nsF smD n [f1] = [(⟨#[98]⟩, 1, sxD)] := by
    unfold nsF
    rw [e1, e2]
    show [ndF smD f1] = _
    unfold ndF
    rw [show smD f1.tx = sxD from sx_s]
    rfl
  have e4 : txN [(⟨#[98]⟩, 1, sxD)] = sbT := by rw [tx_of]; rfl
  rw [e3, e4, e1, e2]
  rfl
theorem pk0 : pkT1 [f0] = (saT, [⟨#[120]⟩, sbT, saT]) := by
  unfold pkT1
  rw [show (101 : Nat) = 100 + 1 from rfl, dirF_succ]
  have e1 : tops [f0] = [] := by rfl
  have e2 : names [f0] = [[97]] := by rfl
  have e3 : sub [97] [f0] = [f1] := by rfl
  have e4 : dirF smD 100 [f1] = (sbT, [⟨#[120]⟩, sbT]) := dir1 99
  have e5 : nsF smD 100 [f0] = [(⟨#[97]⟩, 3, sbD)] := by
    unfold nsF
    rw [e1, e2]
    show [ndM smD [97] (dirF smD 100 (sub [97] [f0])).1] = _
    rw [e3, e4]
    unfold ndM
    rw [sb_s]
  have e6 : txN [(⟨#[97]⟩, 3, sbD)] = saT := by rw [tx_of]; rfl
  rw [e5, e6, e1, e2]
  show (saT, [] ++ ((dirF smD 100 (sub [97] [f0])).2 ++ []) ++ [saT]) = _
  rw [e3, e4]
  rfl
theorem cl0 : ∀ t ∈ (pkT1 [f0]).2, ∀ b ∈ blB [f0], smD b = smD t → b = t := by
  intro t ht b hb
  rw [blB_mem] at hb
  rw [pk0] at ht hb
  have hxb : sxD ≠ sbD := fun e => absurd (congrArg (fun b => b.data.toList) e) (by decide)
  have hxa : sxD ≠ saD := fun e => absurd (congrArg (fun b => b.data.toList) e) (by decide)
  have hba : sbD ≠ saD := fun e => absurd (congrArg (fun b => b.data.toList) e) (by decide)
  simp only [List.mem_cons, List.not_mem_nil, or_false] at ht hb
  rcases ht with rfl | rfl | rfl <;> rcases hb with rfl | rfl | rfl <;> intro e <;> first | rfl | (simp only [sx_s, sb_s, sa_s] at e; first | exact absurd e hxb | exact absurd e hxa | exact absurd e hba | exact absurd e.symm hxb | exact absurd e.symm hxa | exact absurd e.symm hba)
theorem len0 : (blB [f0]).length ≤ 2000 := by
  rw [blB_len]
  unfold blF
  refine Nat.le_trans (compact_len _) ?_
  rw [(List.mergeSort_perm _ _).length_eq, List.length_map, pk0]
  decide
theorem siz0 : ∀ b ∈ blB [f0], b.size ≤ 100000 := by
  intro b hb
  rw [blB_mem, pk0] at hb
  simp only [List.mem_cons, List.not_mem_nil, or_false] at hb
  rcases hb with rfl | rfl | rfl <;> decide

set_option maxHeartbeats 4000000 in
set_option maxRecDepth 100000 in
theorem treeBegun_any (w : World) (he : Env w) :
    Calls Tryz.prog 12 #[] w fun e w' => e = .returned (.bool true) ∧ Below w.heap.size w w' := by
  have hA : Below w.heap.size w (w.alloc (.cells #[.string ⟨#[97, 47, 98]⟩, .string ⟨#[120]⟩, .bool false] 30)) := (Below.refl _ w).alloc (Nat.le_refl _) _
  have hfl : IsFl (w.alloc (.cells #[.string ⟨#[97, 47, 98]⟩, .string ⟨#[120]⟩, .bool false] 30)) (some ⟨w.heap.size, 0, none⟩) [f0] := by
    refine .inr ⟨w.heap.size, 0, rfl, by rw [World.size_alloc]; omega, fun j hj => ?_⟩
    have hj0 : j = 0 := by simpa using hj
    subst hj0
    have hx := heap_alloc_new w (.cells #[.string ⟨#[97, 47, 98]⟩, .string ⟨#[120]⟩, .bool false] 30)
    exact ⟨Lib.cell_of_heap hx 0, Lib.cell_of_heap hx 1, Lib.cell_of_heap hx 2⟩
  have HB : Hid (Calls Tryz.prog 27 #[.slice (some ⟨w.heap.size, 0, none⟩) 1 1] (w.alloc (.cells #[.string ⟨#[97, 47, 98]⟩, .string ⟨#[120]⟩, .bool false] 30)) (BlP [f0] (w.alloc (.cells #[.string ⟨#[97, 47, 98]⟩, .string ⟨#[120]⟩, .bool false] 30)))) := Blobs_any _ 1 [f0] _ hfl (he.up hA)
  have HR : Hid (∀ W, Below w.heap.size w W → IsFl W (some ⟨w.heap.size, 0, none⟩) [f0] → Calls Tryz.prog 28 #[.slice (some ⟨w.heap.size, 0, none⟩) 1 1] W fun e w' => e = .returned (.tuple #[.string (smD (pkT1 [f0]).1), .int .i64 0]) ∧ Below W.heap.size W w') := fun W hW hf => by
    have := Root_any _ 1 [f0] W hf (he.up hW)
    rw [if_pos ch0, ch0] at this
    exact this
  have HF : Hid (∀ W ba bc, Below w.heap.size w W → IsTxs W ba (blB [f0]) → Calls Tryz.prog 29 #[.string (smD (pkT1 [f0]).1), .slice ba (blF [f0]).length bc] W (FtP [f0] W)) := fun W ba bc hW ht => by
    have := Flat_ok [f0] ba bc (blB [f0]) W ok0 len0 ht siz0 (he.up hW) (fun t h => (blB_mem _ _).2 h) cl0
    rw [blB_len] at this
    exact this
  have HFl : Hid (∀ W, Below (w.alloc (.cells #[.string ⟨#[97, 47, 98]⟩, .string ⟨#[120]⟩, .bool false] 30)).heap.size (w.alloc (.cells #[.string ⟨#[97, 47, 98]⟩, .string ⟨#[120]⟩, .bool false] 30)) W → IsFl W (some ⟨w.heap.size, 0, none⟩) [f0]) := fun W hW => hfl.below hW (Nat.le_refl _)
  have HA : Hid (Below w.heap.size w (w.alloc (.cells #[.string ⟨#[97, 47, 98]⟩, .string ⟨#[120]⟩, .bool false] 30))) := hA
  clear hA hfl he
  generalize smD (pkT1 [f0]).1 = rt at *
  go_enter Tryz.func12, Tryz.ntmps12
  go_wp2_with fail
  refine HB.out.mono ?_
  rintro e w1 ⟨v, rfl, hrow, _, hb1⟩
  have hrow1 := hrow ch0
  obtain ⟨ba, bc, rfl⟩ := own_shape hrow1
  rw [ch0]
  have hB1 : Below w.heap.size w w1 := HA.out.trans (hb1.mono HA.out.size)
  have HR1 : Hid (Calls Tryz.prog 28 #[.slice (some ⟨w.heap.size, 0, none⟩) 1 1] w1 fun e w' => e = .returned (.tuple #[.string rt, .int .i64 0]) ∧ Below w1.heap.size w1 w') := HR.out w1 hB1 (HFl.out w1 hb1)
  have HT1 : Hid (IsTxs w1 ba (blB [f0])) := bl_txs hrow1
  have HF1 : Hid (IsFl w1 (some ⟨w.heap.size, 0, none⟩) [f0]) := HFl.out w1 hb1
  have HB1 : Hid (Below w.heap.size w w1) := hB1
  clear hrow hrow1 hb1 hB1 HR HFl
  generalize (blF [f0]).length = bl at *
  go_wp2_with fail
  refine HR1.out.mono ?_
  rintro e w2 ⟨rfl, hb2⟩
  have hB2 : Below w.heap.size w w2 := HB1.out.trans (hb2.mono HB1.out.size)
  have HF2 : Hid (Calls Tryz.prog 29 #[.string rt, .slice ba bl bc] w2 (FtP [f0] w2)) := HF.out w2 ba bc hB2 (HT1.out.below hb2 (Nat.le_refl _))
  have HFl2 : Hid (IsFl w2 (some ⟨w.heap.size, 0, none⟩) [f0]) := HF1.out.below hb2 (Nat.le_refl _)
  have HB2 : Hid (Below w.heap.size w w2) := hB2
  clear hb2 hB2 HF
  go_wp2_with fail
  refine HF2.out.mono ?_
  rintro e w3 ⟨v, rfl, hrow3, hb3⟩
  obtain ⟨fa, fc, rfl⟩ := own_shape hrow3
  have HS : Hid (Calls Tryz.prog 20 #[.slice (some ⟨w.heap.size, 0, none⟩) 1 1, .slice fa 1 fc] w3 (SmP [f0] [f0] w3)) := SameFiles_any _ fa 1 fc [f0] [f0] w3 (by decide) (HFl2.out.below hb3 (Nat.le_refl _)) (own_files hrow3 rfl)
  have HB3 : Hid (Below w.heap.size w w3) := HB2.out.trans (hb3.mono HB2.out.size)
  rw [show [f0].length = 1 from rfl]
  clear hrow3 hb3
  go_wp2_with fail
  refine HS.out.mono ?_
  rintro e w4 ⟨b, rfl, hb, n, rfl⟩
  rw [hb.2 rfl]
  have HB4 : Hid (Below w.heap.size w (w3.drewN n)) := below_drewN HB3.out n
  clear hb
  go_wp2
  go_ret
  exact ⟨rfl, HB4.out⟩
end Go.Proofs.YtelcflmjagjbfaaGreatDoor

/- What the row of a tree's statement lays: the digest's numbers; the world's shape. -/
namespace Go.Proofs.YtelcflmjagjbfaaGreatDoor
open Go.ChangeShapes Go.WideShapes Go.ChangeAt Go.RowKit Go.Shelf

theorem own : ownKnob Tryz.prog.godebug = none := by kernel_rfl
theorem laid_ints {W : World} {name : String} {l : List Int} {rest : List (String × DataW Unit)} {ps : List MemPlace} {g0 T n : Nat} (h : DataW.LaidVars Tryz.prog W ((name, .agg (l.map fun n => .lit (.int .u32 n))) :: rest) ps)
    (hg0 : Tryz.prog.globalNamed name = some g0) (ht0 : (Tryz.prog.globals[g0]?).map (·.type) = some T) (hT : Tryz.prog.underlying T = some (.array n 106)) (hn : l.length = n) : LaidAt g0 W l ∧ ∃ q, DataW.LaidVars Tryz.prog W rest q := by
  obtain ⟨g, t, cs, fuel, p, q, hg, ht, hv, hd, hrest, _⟩ := h
  obtain rfl := Option.some.inj (hg0.symm.trans hg)
  obtain rfl := Option.some.inj (ht0.symm.trans ht)
  refine ⟨fun r hr => ?_, q, hrest⟩
  obtain ⟨xs, m, _, ex, _, hl, hel⟩ := DataW.trod_array hT hd
  have c5 : Tryz.prog.cellsOf 106 = 1 := by kernel_rfl
  have e3 : (xs.map (·.1)) = l.map fun n => .lit (.int .u32 n) := (DataW.agg.inj (Prod.mk.inj ex).1).symm
  have hxl : xs.length = l.length := by have := congrArg List.length e3; simpa using this
  have hE := hel r (by omega)
  rw [c5, Nat.mul_one, List.getElem?_eq_getElem (by omega)] at hE
  obtain ⟨z, e1, e2, _⟩ := DataW.trod_int Tryz.underlying106 hE
  have e4 : (xs.map (·.1))[r]? = (l.map fun n => (DataW.lit (.int .u32 n) : DataW Unit))[r]? := by rw [e3]
  rw [List.getElem?_map, List.getElem?_map, List.getElem?_eq_getElem (by omega : r < xs.length), List.getElem?_eq_getElem hr, e2] at e4
  have hz : z = l[r] := by
    simpa only [Option.map_some, Option.some.injEq, DataW.lit.injEq, Lit.int.injEq, true_and] using e4
  rw [World.var?_cell hg hv r, ← hz]
  have : cs.toList[r]? = some (.int .u32 z) := by
    have h0 : ((cs.toList.drop r).take 1)[0]? = some (.int .u32 z) := by rw [e1]; rfl
    simpa using h0
  simpa using this


theorem env_of {W : World} (h : laidMetH Tryz.prog [("unicode/utf8.acceptRanges", Rows.laid_unicode_utf8_acceptRanges), ("foundry/digest.squareRoots", Rows.laid_foundry_digest_squareRoots), ("foundry/digest.cubeRoots", Rows.laid_foundry_digest_cubeRoots), ("unicode/utf8.first", Rows.laid_unicode_utf8_first)] W) (hs : W.ShapedOpen Tryz.prog) : Env W := by
  refine ⟨max_of_shaped hs, ?_⟩
  rw [MakeChecks.laidMetH_plain _ _ _ (by kernel_rfl)] at h
  obtain ⟨ps, hv, _, _⟩ := h
  obtain ⟨_, _, _, _, _, q0, _, _, _, _, hv0, _⟩ := hv
  rw [sqL_eq, cuL_eq] at hv0
  obtain ⟨h1, q, hq⟩ := laid_ints (T := 107) hv0 (g0 := 0) (by kernel_rfl) (by kernel_rfl) Tryz.underlying107 sqL_len
  obtain ⟨h2, _⟩ := laid_ints (T := 138) hq (g0 := 1) (by kernel_rfl) (by kernel_rfl) Tryz.underlying138 cuL_len
  exact ⟨by rw [sq8_l]; exact h1, h2⟩
end Go.Proofs.YtelcflmjagjbfaaGreatDoor

/- Files that came in as an argument. -/
namespace Go.Proofs.YtelcflmjagjbfaaGreatDoor
open Go.ChangeShapes Go.WideShapes Go.ChangeAt Go.RowKit Go.Shelf Go.Joins
open Go.Deep (trod_struct3)

theorem bytesFl : Tryz.prog.bytesOf 30 = 40 := by kernel_rfl
theorem addr_addF (b off j : Nat) : (⟨b, off, none⟩ : Addr).add j = ⟨b, off + j, none⟩ := by
  unfold Addr.add
  split <;> simp_all
theorem cellsFl : Tryz.prog.cellsOf 30 = 3 := by kernel_rfl

set_option maxRecDepth 100000 in
theorem arg_file {H : Type} {enc : TypeId × Value → H} {W : World} {cs : List Value} {n : Nat} {y : DataW H × List MemPlace} (hl : cs.length = 3)
    (h : DataW.trod enc Tryz.prog W 0 (fun _ => true) true n 30 cs = some y) : ∃ nd : Fl, cs = [.string nd.pa, .string nd.tx, .bool nd.rn] ∧ nd.pa.size ≤ maxLen ∧ nd.tx.size ≤ maxLen := by
  match cs, hl with
  | [c0, c1, c2], _ =>
    obtain ⟨y0, y1, y2, m, hx, _, h0, h1, h2⟩ := trod_struct3 Tryz.underlying30 h
    have k1 : Tryz.prog.cellsOf 9 = 1 := by kernel_rfl
    have k2 : Tryz.prog.cellsOf 4 = 1 := by kernel_rfl
    simp [k1, k2] at h0 h1 h2
    obtain ⟨s, e0, _, z0⟩ := DataW.trod_string Tryz.underlying9 h0
    obtain ⟨t, e1, _, z2⟩ := DataW.trod_string Tryz.underlying9 h1
    obtain ⟨a, e2, _⟩ := DataW.trod_bool Tryz.underlying4 h2
    simp at e0 e1 e2
    subst e0 e1 e2
    exact ⟨⟨s, t, a⟩, rfl, z0, z2⟩

set_option maxRecDepth 100000 in
/-- A slice of nodes that came in. -/
theorem arg_files {H : Type} {enc : TypeId × Value → H} {W : World} {v : Value} {d : DataW H} {p : List MemPlace} {base : Nat}
    (hv : Value.okWide Tryz.prog W .any base 22 v) (h : DataW.Trod enc Tryz.prog W 0 (fun _ => true) true 22 v d p) (hr : ∀ elems sp, d = .slice elems sp → elems.length ≤ 4611686018427387904) : ∃ (L : List Fl) (ao : Option Addr) (cap : Nat), v = .slice ao L.length cap ∧ IsFl W ao L ∧ L.length ≤ 4611686018427387904 := by
  obtain ⟨a, len, cap, rfl⟩ := okWide_slice Tryz.underlying22 hv
  obtain ⟨fuel, hf⟩ := h
  rcases DataW.trod_slice Tryz.underlying22 hf with ⟨hcs, _⟩ | ⟨x, l, c, elems, rest, n, _, hcs, hx, _, _, _, hlen, hel, _, _⟩
  · simp [Value.cells] at hcs
    obtain ⟨rfl, rfl, rfl⟩ := hcs
    exact ⟨[], none, 0, rfl, Or.inl rfl, by decide⟩
  · simp [Value.cells] at hcs
    obtain ⟨rfl, rfl, rfl⟩ := hcs
    have hb : len ≤ 4611686018427387904 := by
      have := hr _ _ (congrArg Prod.fst hx)
      simp at this
      omega
    have each : ∀ i : Fin len, ∃ nd : Fl, (nd.pa.size ≤ maxLen ∧ nd.tx.size ≤ maxLen) ∧ W.cell? (x.add (i.val * 3)) = some (.string nd.pa) ∧ W.cell? ((x.add (i.val * 3)).add 1) = some (.string nd.tx) ∧ W.cell? ((x.add (i.val * 3)).add 2) = some (.bool nd.rn) := by
      intro i
      have h1 := hel i.val i.isLt
      rw [cellsFl, List.getElem?_eq_getElem (by omega : i.val < elems.length), Option.bind_eq_some_iff] at h1
      obtain ⟨cs', hc, hy⟩ := h1
      have hs := World.cells?_some hc
      obtain ⟨nd, rfl, z⟩ := arg_file (by simpa using hs.2.1) hy
      refine ⟨nd, z, ?_, ?_, ?_⟩
      · have := hs.2.2 0 (by omega); simpa [Addr.add] using this
      · have := hs.2.2 1 (by omega); simpa using this
      · have := hs.2.2 2 (by omega); simpa using this
    obtain ⟨f, hf2⟩ := Classical.axiomOfChoice each
    have hlen2 : (List.ofFn f).length = len := by simp
    refine ⟨List.ofFn f, some x, cap, by rw [hlen2], ?_, by rw [hlen2]; exact hb⟩
    by_cases h0 : len = 0
    · exact Or.inl (List.length_eq_zero_iff.1 (hlen2.trans h0))
    · obtain ⟨b, off, spot⟩ := x
      have c0 := (hf2 ⟨0, by omega⟩).2.1
      have hspot : spot = none := by simpa [Addr.add] using World.cell?_spot c0
      subst hspot
      refine Or.inr ⟨b, off, rfl, by simpa [Addr.add] using World.block_lt_of_cell? W _ c0, fun j hj => ?_⟩
      rw [hlen2] at hj
      rw [List.getElem_ofFn]
      have k := (hf2 ⟨j, hj⟩).2
      rw [addr_addF, addr_addF, addr_addF] at k
      exact k
end Go.Proofs.YtelcflmjagjbfaaGreatDoor

/- What is under a directory. -/
namespace Go.Proofs.YtelcflmjagjbfaaGreatDoor
open Go.RowKit Go.Shelf Go.Maps Go.WideMaps Go.Sort
attribute [local go_sem ↓] appS_eq

/-- One file more, at the end of a row. -/
theorem rowF_add {B : Nat} {F : List Fl} {v : Value} {w : World} (h : w.ownsRow B 30 3 v F.length (flCells F)) (hB : B ≤ w.heap.size) (x : Fl) (hF : F.length ≤ 1000) (d : Nat) :
    ∃ G C w', (appS #[22, 22] 22 #[v, .slice (some ⟨w.heap.size, 0, none⟩) 1 1]).run Tryz.prog ((w.alloc (.cells #[.string x.pa, .string x.tx, .bool x.rn] 30)).drewN d) = .ok (.slice (some ⟨G, 0, none⟩) (F.length + 1) C) w' ∧
      w'.ownsRow B 30 3 (.slice (some ⟨G, 0, none⟩) (F.length + 1) C) (F ++ [x]).length (flCells (F ++ [x])) ∧ Below B w w' := by
  obtain ⟨i0, hi, hz0, hz1, hz2⟩ := info_p infF
  have hsz : ((w.alloc (.cells #[.string x.pa, .string x.tx, .bool x.rn] 30)).drewN d).heap.size = w.heap.size + 1 := World.size_alloc _ _
  have hA : Below w.heap.size w ((w.alloc (.cells #[.string x.pa, .string x.tx, .bool x.rn] 30)).drewN d) := below_drewN ((Below.refl _ w).alloc (Nat.le_refl _) _) d
  have hr := row_heap h fun b hb => hA.block b (h.lt b hb).2
  obtain ⟨G, C, w3, hrun, hrow, hgr, hat, hlt⟩ := run_append_lies (P := Tryz.prog) ((w.alloc (.cells #[.string x.pa, .string x.tx, .bool x.rn] 30)).drewN d) 22 22 B 30 i0 (.agg #[.string ⟨#[]⟩, .string ⟨#[]⟩, .bool false]) 3 40 Tryz.underlying22 hi hz0 hz1 hz2 rfl (by decide) v F.length (flCells F) hr ⟨w.heap.size, 0, none⟩ 1 1 [.string x.pa, .string x.tx, .bool x.rn] rfl (new_cells w _ _) (fun u hu => by simp at hu; rcases hu with rfl | rfl | rfl <;> rfl) (by decide) (by unfold maxLen; omega) (by omega) (by omega) (w.heap.size + 1) hsz
  refine ⟨G, C, w3, hrun, ?_, (hA.mono hB).grown hgr (by omega) fun k hk => (hr.lt k hk).1⟩
  have e : flCells (F ++ [x]) = flCells F ++ [.string x.pa, .string x.tx, .bool x.rn] := by simp [flCells]
  rw [e, List.length_append]
  exact hrow

/-- How files are answered, with an error. -/
def RsP (er : Int) (L : List Fl) (w : World) (e : Ending) (w' : World) : Prop := ∃ ao cap, e = .returned (.tuple #[.slice ao L.length cap, .int .i64 er]) ∧ w'.ownsRow w.heap.size 30 3 (.slice ao L.length cap) L.length (flCells L) ∧ Below w.heap.size w w'
theorem RsP_nil (er : Int) {w w' : World} (hb : Below w.heap.size w w') : RsP er [] w (.returned (.tuple #[.slice none 0 0, .int .i64 er])) w' := ⟨none, 0, rfl, World.ownsRow_nil _ _ _ _, hb⟩

/-- A path further in. -/
def cutP (d : ByteArray) (f : Fl) : Fl := ⟨f.pa.extract (d.size + 1) f.pa.size, f.tx, f.rn⟩
def undF (L : List Fl) (d : ByteArray) : List Fl := (L.filter fun f => inB f.pa d).map (cutP d)
theorem undF_snoc (L : List Fl) (d : ByteArray) (f : Fl) : undF (L ++ [f]) d = if inB f.pa d = true then undF L d ++ [cutP d f] else undF L d := by
  unfold undF
  rw [List.filter_append, List.map_append]
  by_cases h : inB f.pa d = true
  · rw [if_pos h]; simp [h]
  · rw [if_neg h]; simp [h]
theorem undF_len (L : List Fl) (d : ByteArray) : (undF L d).length ≤ L.length := by
  unfold undF
  rw [List.length_map]
  exact List.length_filter_le _ _
theorem inB_lt {p d : ByteArray} (h : inB p d = true) : d.size < p.size := by
  unfold inB at h
  rw [Bool.and_eq_true, Bool.and_eq_true] at h
  exact of_decide_eq_true h.1.1
def unE (L : List Fl) (d : ByteArray) : Int := if chF L ≠ 0 then chF L else if pathOk d = false then 1 else if undF L d = [] then 5 else 0
def unL (L : List Fl) (d : ByteArray) : List Fl := if unE L d = 0 then undF L d else []

set_option maxHeartbeats 8000000 in
set_option maxRecDepth 100000 in
theorem Under_any (ao : Option Addr) (cap : Nat) (L : List Fl) (d : ByteArray) (w : World) (hl : IsFl w ao L) (hm : MaxIs w) :
    Calls Tryz.prog 8 #[.slice ao L.length cap, .string d] w (RsP (unE L d) (unL L d) w) := by
  have HC : Hid (Calls Tryz.prog 22 #[.slice ao L.length cap] w fun e w' => e = .returned (.int .i64 (chF L)) ∧ Below w.heap.size w w') := Check_any ao cap L w hl hm
  by_cases h0 : chF L = 0
  · rw [h0] at HC
    have hok := okT_of h0
    have HP : Hid (∀ W, Below w.heap.size w W → Calls Tryz.prog 23 #[.string d] W fun e w' => e = .returned (.bool (pathOk d)) ∧ Below W.heap.size W w') := fun W hW => IsPath_any d W (hm.up hW)
    by_cases hp : pathOk d = true
    · rw [hp] at HP
      have HE : Hid (unE L d = if undF L d = [] then 5 else 0) := by
        show _ = _
        unfold unE
        rw [if_neg (by simp [h0]), if_neg (by rw [hp]; decide)]
      have HI : Hid (∀ (x : ByteArray) (W : World), Calls Tryz.prog 24 #[.string x, .string d] W fun e w' => e = .returned (.bool (inB x d)) ∧ w' = W) := fun x W => isInside_any x d W
      have HL : Hid (IsFl w ao L) := hl
      have hn1 : (L.length : Int) ≤ 60 := by have := hok.1; omega
      have hds : d.size ≤ 100 := pathOk_size hp
      have hds2 : (d.size : Int) ≤ 100 := by omega
      clear hl hm h0 hp hok
      go_enter Tryz.func8, Tryz.ntmps8
      go_wp2_with fail
      refine HC.out.mono ?_
      rintro e w1 ⟨rfl, hb1⟩
      go_wp2_with fail
      refine (HP.out _ hb1).mono ?_
      rintro e w2 ⟨rfl, hb2⟩
      have hB2 : Below w.heap.size w w2 := hb1.trans (hb2.mono hb1.size)
      have HB2 : Hid (Below w.heap.size w w2) := hB2
      clear hb1 hb2 hB2 HC HP
      go_wp2
      go_loopw [7, 20] (fun uv i wr => ∃ k : Nat, k ≤ L.length ∧ i = .int .i64 k ∧ wr.ownsRow w.heap.size 30 3 uv (undF (L.take k) d).length (flCells (undF (L.take k) d)) ∧ Below w.heap.size w wr) (fun _ i _ => L.length - (intOf i).toNat)
      case atStart => exact ⟨0, by omega, rfl, World.ownsRow_nil _ _ _ _, HB2.out⟩
      case round =>
        obtain ⟨k, hk, rfl, hrow, hb⟩ := hrel
        have hsz := hb.size
        by_cases hlt : k < L.length
        · rcases HL.out.below hb (Nat.le_refl _) with h | ⟨g, o, rfl, hg, hc⟩
          · exfalso; rw [h] at hlt; exact absurd hlt (by simp)
          obtain ⟨c0, c1, c2⟩ := hc k hlt
          have htk : L.take (k + 1) = L.take k ++ [L[k]] := List.take_succ_eq_append_getElem hlt
          have hul := undF_len (L.take k) d
          have hkl : (L.take k).length ≤ 60 := by rw [List.length_take]; omega
          have HRow : Hid (wr.ownsRow w.heap.size 30 3 u7 (undF (L.take k) d).length (flCells (undF (L.take k) d))) := hrow
          have HB : Hid (Below w.heap.size w wr) := hb
          have HU : Hid (undF (L.take (k + 1)) d = if inB L[k].pa d = true then undF (L.take k) d ++ [cutP d L[k]] else undF (L.take k) d) := by
            show _ = _
            rw [htk, undF_snoc]
          clear hc htk
          generalize L[k] = x at *
          generalize undF (L.take k) d = U at *
          have hAx := heap_alloc_new wr (.cells #[.string x.pa, .string x.tx, .bool x.rn] 30)
          have hAz : (wr.alloc (.cells #[.string x.pa, .string x.tx, .bool x.rn] 30)).heap.size = wr.heap.size + 1 := World.size_alloc _ _
          have hA : Below w.heap.size w (wr.alloc (.cells #[.string x.pa, .string x.tx, .bool x.rn] 30)) := hb.alloc hsz _
          have HIx : Hid (∀ W, Calls Tryz.prog 24 #[.string x.pa, .string d] W fun e w' => e = .returned (.bool (inB x.pa d)) ∧ w' = W) := HI.out x.pa
          cases hin : inB x.pa d with
          | false =>
            rw [hin] at HIx HU
            have HA : Hid (Below w.heap.size w (wr.alloc (.cells #[.string x.pa, .string x.tx, .bool x.rn] 30))) := hA
            have HRow2 : Hid ((wr.alloc (.cells #[.string x.pa, .string x.tx, .bool x.rn] 30)).ownsRow w.heap.size 30 3 u7 U.length (flCells U)) := HRow.out.alloc _
            clear hAx hAz hA hin hrow hb
            go_wp2_with fail
            refine (HIx.out _).mono ?_
            rintro e w3 ⟨rfl, rfl⟩
            go_wp2
            refine ⟨⟨k + 1, by omega, by go_num, ?_, HA.out⟩, by simp [intOf]; omega⟩
            rw [HU.out, if_neg (by decide)]
            exact HRow2.out
          | true =>
            rw [hin] at HIx HU
            have hdl := inB_lt hin
            have hdl2 : (d.size : Int) + 1 ≤ (x.pa.size : Int) := by omega
            have hW : (wr.alloc (.cells #[.string (x.pa.extract (d.size + 1) x.pa.size), .string x.tx, .bool x.rn] 30)).heap.size = wr.heap.size + 1 := World.size_alloc _ _
            obtain ⟨G, C, w4, hap, hrow4, hb4⟩ := rowF_add (w := wr.alloc (.cells #[.string (x.pa.extract (d.size + 1) x.pa.size), .string x.tx, .bool x.rn] 30)) (HRow.out.alloc _) (by omega) (cutP d x) (by omega) 0
            rw [hW] at hap
            have hap2 : (appS #[22, 22] 22 #[u7, .slice (some ⟨wr.heap.size + 1, 0, none⟩) 1 1]).run Tryz.prog ((wr.alloc (.cells #[.string (x.pa.extract (d.size + 1) x.pa.size), .string x.tx, .bool x.rn] 30)).alloc (.cells #[.string (x.pa.extract (d.size + 1) x.pa.size), .string x.tx, .bool x.rn] 30)) = .ok (.slice (some ⟨G, 0, none⟩) (U.length + 1) C) w4 := hap
            have HR4 : Hid (w4.ownsRow w.heap.size 30 3 (.slice (some ⟨G, 0, none⟩) (U.length + 1) C) (U ++ [cutP d x]).length (flCells (U ++ [cutP d x])) ∧ Below w.heap.size w w4) := ⟨hrow4, (HB.out.alloc hsz _).trans hb4⟩
            clear hAx hAz hA hin hrow hb hW hap hrow4 hb4
            go_wp2_with fail
            refine (HIx.out _).mono ?_
            rintro e w3 ⟨rfl, rfl⟩
            go_wp2
            refine ⟨⟨k + 1, by omega, by go_num, ?_, HR4.out.2⟩, by simp [intOf]; omega⟩
            rw [HU.out, if_pos trivial]
            exact HR4.out.1
        · obtain rfl : k = L.length := by omega
          have hki : ¬ (L.length : Int) < (L.length : Int) := by omega
          rw [List.take_length] at hrow
          have HB : Hid (Below w.heap.size w wr) := hb
          obtain ⟨ua, uc, rfl⟩ := own_shape hrow
          have HRow : Hid (wr.ownsRow w.heap.size 30 3 (.slice ua (undF L d).length uc) (undF L d).length (flCells (undF L d))) := hrow
          clear hrow hb
          by_cases hu : undF L d = []
          · have HZ : Hid (unE L d = 5 ∧ unL L d = []) := by
              have e : unE L d = 5 := by rw [HE.out, if_pos hu]
              exact ⟨e, by unfold unL; rw [e, if_neg (by decide)]⟩
            have hul : (undF L d).length = 0 := by rw [hu]; rfl
            clear hu
            go_wp2
            refine bodyPost_ret (v := .tuple #[.slice none 0 0, .int .i64 5]) (by simp [results, Tryz.results8, go_sem]) rfl ?_
            rw [HZ.out.1, HZ.out.2]
            exact RsP_nil 5 HB.out
          · have HZ : Hid (unE L d = 0 ∧ unL L d = undF L d) := by
              have e : unE L d = 0 := by rw [HE.out, if_neg hu]
              exact ⟨e, by unfold unL; rw [e, if_pos rfl]⟩
            have hul : ((undF L d).length : Int) ≠ 0 := by
              intro e
              exact hu (List.length_eq_zero_iff.1 (by omega))
            clear hu
            go_wp2
            refine bodyPost_ret (v := .tuple #[.slice ua (undF L d).length uc, .int .i64 0]) (by simp [results, Tryz.results8, go_sem]) rfl ?_
            rw [HZ.out.1, HZ.out.2]
            exact ⟨ua, uc, rfl, HRow.out, HB.out⟩
    · have hp' : pathOk d = false := by simpa using hp
      rw [hp'] at HP
      have HZ : Hid (unE L d = 1 ∧ unL L d = []) := by
        have e : unE L d = 1 := by unfold unE; rw [if_neg (by simp [h0]), if_pos hp']
        exact ⟨e, by unfold unL; rw [e, if_neg (by decide)]⟩
      clear hl hm h0 hp hp' hok
      go_enter Tryz.func8, Tryz.ntmps8
      go_wp2_with fail
      refine HC.out.mono ?_
      rintro e w1 ⟨rfl, hb1⟩
      go_wp2_with fail
      refine (HP.out _ hb1).mono ?_
      rintro e w2 ⟨rfl, hb2⟩
      have HB : Hid (Below w.heap.size w w2) := hb1.trans (hb2.mono hb1.size)
      clear hb1 hb2
      go_wp2
      refine bodyPost_ret (v := .tuple #[.slice none 0 0, .int .i64 1]) (by simp [results, Tryz.results8, go_sem]) rfl ?_
      rw [HZ.out.1, HZ.out.2]
      exact RsP_nil 1 HB.out
  · have HZ : Hid (unE L d = chF L ∧ unL L d = []) := by
      have e : unE L d = chF L := by unfold unE; rw [if_pos h0]
      exact ⟨e, by unfold unL; rw [e, if_neg h0]⟩
    clear hl hm
    rw [HZ.out.1, HZ.out.2]
    generalize chF L = c at *
    have h0' : (c != 0) = true := by simpa using h0
    clear h0 HZ
    go_enter Tryz.func8, Tryz.ntmps8
    go_wp2_with fail
    refine HC.out.mono ?_
    rintro e w1 ⟨rfl, hb1⟩
    have HB : Hid (Below w.heap.size w w1) := hb1
    clear hb1
    go_wp2
    refine bodyPost_ret (v := .tuple #[.slice none 0 0, .int .i64 c]) (by simp [results, Tryz.results8, go_sem]) rfl ?_
    exact RsP_nil c HB.out
end Go.Proofs.YtelcflmjagjbfaaGreatDoor
