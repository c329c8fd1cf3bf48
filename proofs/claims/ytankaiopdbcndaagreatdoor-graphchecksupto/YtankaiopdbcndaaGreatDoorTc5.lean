/- Sorts, and sorted keys: the contracts of the shelf, laid at this program (by wip/trlay.py). -/
import Derived.Shelf.SlIter.Nil
import Derived.Shelf.SortM.Plain
import Derived.Shelf.SortM.SortNone
import Derived.Ground.GgzProg
import Derived.Ground.SlgmProg
import Derived.Test.YtankaiopdbcndaaGreatDoorChecked
import Derived.Test.YtankaiopdbcndaaGreatDoorTie
import Derived.Test.YtankaiopdbcndaaGreatDoorCards
import Derived.ProofKit
import Derived.OpenShut
import Derived.ShutString
import Derived.ChangeOld
import Derived.SliceStrings
import Derived.Below
import Derived.Lib.SmallJoins
import Derived.Test.YtankaiopdbcndaaGreatDoorTc4
namespace Go.Proofs.YtankaiopdbcndaaGreatDoor
open Go.RowKit Go.Maps Go.Sort Go.Shelf Go.Lib

def keysS_ren : Go.Shelf.Ren := ⟨fun | 7 => 38 | 10 => 61 | n => n, fun | 23 => 53 | 26 => 9 | 3 => 23 | 28 => 65 | 0 => 0 | 27 => 64 | 33 => 57 | 4 => 4 | n => n, fun | n => n⟩
theorem keysS : Go.Proofs.SlLaysZ.n7 Tryz.prog keysS_ren := {
  mixed := by kernel_rfl
  f7 := ⟨Tryz.f38.name, by decide, Tryz.func38.trans (congrArg some (by kernel_rfl))⟩
  f10 := ⟨Tryz.f61.name, by decide, Tryz.func61.trans (congrArg some (by kernel_rfl))⟩
  t0 := Tryz.underlying0
  a0 := Tryz.isAgg0
  z0 := Tryz.sizeOf0
  v0 := Tryz.zeroValue0
  t4 := Tryz.underlying4
  a4 := Tryz.isAgg4
  z4 := Tryz.sizeOf4
  v4 := Tryz.zeroValue4
  t23 := Tryz.underlying53
  a23 := Tryz.isAgg53
  z23 := Tryz.sizeOf53
  v23 := Tryz.zeroValue53
  t26 := Tryz.underlying9
  a26 := Tryz.isAgg9
  z26 := Tryz.sizeOf9
  v26 := Tryz.zeroValue9
  t27 := Tryz.underlying64
  a27 := Tryz.isAgg64
  z27 := Tryz.sizeOf64
  v27 := Tryz.zeroValue64
  t28 := Tryz.underlying65
  a28 := Tryz.isAgg65
  z28 := Tryz.sizeOf65
  v28 := Tryz.zeroValue65
  t33 := Tryz.underlying57
  a33 := Tryz.isAgg57
  z33 := Tryz.sizeOf57
  v33 := Tryz.zeroValue57 }

def sortedS_ren : Go.Shelf.Ren := ⟨fun | 6 => 37 | 8 => 59 | 9 => 60 | 11 => 77 | 13 => 79 | 12 => 78 | 23 => 97 | 24 => 98 | 14 => 88 | 15 => 89 | 16 => 90 | 17 => 91 | 18 => 92 | 19 => 93 | 20 => 94 | 21 => 95 | 22 => 96 | 25 => 103 | 26 => 104 | 27 => 105 | 28 => 106 | 29 => 107 | 30 => 100 | 31 => 109 | n => n, fun | 26 => 9 | 28 => 65 | 24 => 23 | 0 => 0 | 3 => 3 | 37 => 116 | 48 => 132 | 50 => 134 | 4 => 4 | 40 => 125 | 39 => 124 | 45 => 129 | 5 => 5 | 9 => 9 | 51 => 137 | 55 => 141 | 57 => 144 | 58 => 145 | 33 => 57 | n => n, fun | n => n⟩
theorem sortedS : Go.Proofs.SlLaysZ.n6 Tryz.prog sortedS_ren := {
  mixed := by kernel_rfl
  f6 := ⟨Tryz.f37.name, by decide, Tryz.func37.trans (congrArg some (by kernel_rfl))⟩
  f8 := ⟨Tryz.f59.name, by decide, Tryz.func59.trans (congrArg some (by kernel_rfl))⟩
  f11 := ⟨Tryz.f77.name, by decide, Tryz.func77.trans (congrArg some (by kernel_rfl))⟩
  t0 := Tryz.underlying0
  a0 := Tryz.isAgg0
  z0 := Tryz.sizeOf0
  v0 := Tryz.zeroValue0
  t24 := Tryz.underlying23
  a24 := Tryz.isAgg23
  z24 := Tryz.sizeOf23
  v24 := Tryz.zeroValue23
  t26 := Tryz.underlying9
  a26 := Tryz.isAgg9
  z26 := Tryz.sizeOf9
  v26 := Tryz.zeroValue9
  t28 := Tryz.underlying65
  a28 := Tryz.isAgg65
  z28 := Tryz.sizeOf65
  v28 := Tryz.zeroValue65
  i26 := by kernel_rfl }

def sortS_ren : Go.Shelf.Ren := ⟨fun | 6 => 60 | 8 => 79 | 9 => 78 | 19 => 97 | 20 => 98 | 21 => 88 | 22 => 89 | 23 => 90 | 24 => 91 | 25 => 92 | 26 => 93 | 27 => 94 | 28 => 95 | 29 => 96 | 36 => 103 | 31 => 104 | 32 => 105 | 37 => 106 | 38 => 107 | 39 => 100 | 41 => 109 | n => n, fun | 27 => 23 | 29 => 9 | 3 => 3 | 32 => 116 | 26 => 23 | 0 => 0 | 44 => 132 | 46 => 134 | 4 => 4 | 36 => 125 | 35 => 124 | 41 => 129 | 5 => 5 | 9 => 9 | 53 => 137 | 57 => 141 | 63 => 144 | 64 => 145 | n => n, fun | n => n⟩
theorem sortS : Go.Proofs.SlLaysM.n6 Tryz.prog sortS_ren := {
  mixed := by kernel_rfl
  f6 := ⟨Tryz.f60.name, by decide, Tryz.func60.trans (congrArg some (by kernel_rfl))⟩
  f8 := Tryz.func79.trans (congrArg some (by kernel_rfl))
  f9 := ⟨Tryz.f78.name, by decide, Tryz.func78.trans (congrArg some (by kernel_rfl))⟩
  f19 := Tryz.func97.trans (congrArg some (by kernel_rfl))
  f20 := Tryz.func98.trans (congrArg some (by kernel_rfl))
  f21 := ⟨Tryz.f88.name, by decide, Tryz.func88.trans (congrArg some (by kernel_rfl))⟩
  f22 := ⟨Tryz.f89.name, by decide, Tryz.func89.trans (congrArg some (by kernel_rfl))⟩
  f23 := ⟨Tryz.f90.name, by decide, Tryz.func90.trans (congrArg some (by kernel_rfl))⟩
  f24 := ⟨Tryz.f91.name, by decide, Tryz.func91.trans (congrArg some (by kernel_rfl))⟩
  f25 := ⟨Tryz.f92.name, by decide, Tryz.func92.trans (congrArg some (by kernel_rfl))⟩
  f26 := ⟨Tryz.f93.name, by decide, Tryz.func93.trans (congrArg some (by kernel_rfl))⟩
  f27 := ⟨Tryz.f94.name, by decide, Tryz.func94.trans (congrArg some (by kernel_rfl))⟩
  f28 := ⟨Tryz.f95.name, by decide, Tryz.func95.trans (congrArg some (by kernel_rfl))⟩
  f29 := ⟨Tryz.f96.name, by decide, Tryz.func96.trans (congrArg some (by kernel_rfl))⟩
  f31 := Tryz.func104.trans (congrArg some (by kernel_rfl))
  f32 := Tryz.func105.trans (congrArg some (by kernel_rfl))
  f36 := ⟨Tryz.f103.name, by decide, Tryz.func103.trans (congrArg some (by kernel_rfl))⟩
  f37 := ⟨Tryz.f106.name, by decide, Tryz.func106.trans (congrArg some (by kernel_rfl))⟩
  f38 := ⟨Tryz.f107.name, by decide, Tryz.func107.trans (congrArg some (by kernel_rfl))⟩
  f39 := ⟨Tryz.f100.name, by decide, Tryz.func100.trans (congrArg some (by kernel_rfl))⟩
  f41 := ⟨Tryz.f109.name, by decide, Tryz.func109.trans (congrArg some (by kernel_rfl))⟩
  t0 := Tryz.underlying0
  a0 := Tryz.isAgg0
  z0 := Tryz.sizeOf0
  v0 := Tryz.zeroValue0
  t3 := Tryz.underlying3
  a3 := Tryz.isAgg3
  z3 := Tryz.sizeOf3
  v3 := Tryz.zeroValue3
  t4 := Tryz.underlying4
  a4 := Tryz.isAgg4
  z4 := Tryz.sizeOf4
  v4 := Tryz.zeroValue4
  t5 := Tryz.underlying5
  a5 := Tryz.isAgg5
  z5 := Tryz.sizeOf5
  v5 := Tryz.zeroValue5
  t9 := Tryz.underlying9
  a9 := Tryz.isAgg9
  z9 := Tryz.sizeOf9
  v9 := Tryz.zeroValue9
  t26 := Tryz.underlying23
  a26 := Tryz.isAgg23
  z26 := Tryz.sizeOf23
  v26 := Tryz.zeroValue23
  t27 := Tryz.underlying23
  a27 := Tryz.isAgg23
  z27 := Tryz.sizeOf23
  v27 := Tryz.zeroValue23
  t29 := Tryz.underlying9
  a29 := Tryz.isAgg9
  z29 := Tryz.sizeOf9
  v29 := Tryz.zeroValue9
  t32 := Tryz.underlying116
  a32 := Tryz.isAgg116
  z32 := Tryz.sizeOf116
  v32 := Tryz.zeroValue116
  t35 := Tryz.underlying124
  a35 := Tryz.isAgg124
  z35 := Tryz.sizeOf124
  v35 := Tryz.zeroValue124
  t36 := Tryz.underlying125
  a36 := Tryz.isAgg125
  z36 := Tryz.sizeOf125
  v36 := Tryz.zeroValue125
  t41 := Tryz.underlying129
  a41 := Tryz.isAgg129
  z41 := Tryz.sizeOf129
  v41 := Tryz.zeroValue129
  t44 := Tryz.underlying132
  a44 := Tryz.isAgg132
  z44 := Tryz.sizeOf132
  v44 := Tryz.zeroValue132
  t46 := Tryz.underlying134
  a46 := Tryz.isAgg134
  z46 := Tryz.sizeOf134
  v46 := Tryz.zeroValue134
  t53 := Tryz.underlying137
  a53 := Tryz.isAgg137
  z53 := Tryz.sizeOf137
  v53 := Tryz.zeroValue137
  t57 := Tryz.underlying141
  a57 := Tryz.isAgg141
  z57 := Tryz.sizeOf141
  v57 := Tryz.zeroValue141
  t63 := Tryz.underlying144
  a63 := Tryz.isAgg144
  z63 := Tryz.sizeOf144
  v63 := Tryz.zeroValue144
  t64 := Tryz.underlying145
  a64 := Tryz.isAgg145
  z64 := Tryz.sizeOf145
  v64 := Tryz.zeroValue145 }

theorem sortS_any (blk off cap : Nat) (ss : List (List UInt8)) (w : World) (hH : Go.Sort.Holds encStr w blk off ss.toArray) (hblk : blk < w.heap.size) (hsz : ss.length < 4611686018427387904) :
    Calls Tryz.prog 60 #[.slice (some ⟨blk, off, none⟩) ss.length cap] w fun e w' => e = .returned (.tuple #[]) ∧ ∃ n os, w' = Go.Sort.grow (Go.Sort.putRow encStr (Go.Sort.ahead w n) blk off (ss.mergeSort fun x y => decide (x ≤ y)).toArray) os :=
  AnyM.slices_Sort_string sortS blk off cap ss w hH hblk hsz

theorem sortS_none (p : Option Addr) (cap : Nat) (w : World) : Calls Tryz.prog 60 #[.slice p 0 cap] w fun e w' => e = .returned (.tuple #[]) ∧ w' = w :=
  AnyM.slices_Sort_string_none sortS p cap w

theorem sortsS (m : Nat) : AnyZ.SortsIn Tryz.prog sortedS_ren Fence.wide m :=
  ⟨fun blk off cap ss W hH hblk hsz => callsIn_wide.2 (AnyM.slices_Sort_string sortS blk off cap ss W hH hblk hsz),
   fun p cap W => callsIn_wide.2 (AnyM.slices_Sort_string_none sortS p cap W)⟩

theorem keysS_any (mb : Option Nat) (w : World) : Calls Tryz.prog 38 #[.map mb] w fun e w' => e = .returned (.func (.func 61) #[] #[.pointer (some ⟨w.heap.size, 0, none⟩)]) ∧ w' = w.alloc (.cells #[.map mb] 53) :=
  (callsIn_wide (n := 5)).1 (AnyZ.keys_in keysS Fence.wide 5 trivial rfl mb w)

set_option maxHeartbeats 1000000 in
theorem sortedS_any {H : Type} (b nn : Nat) (D0 : DataW H) (R : Value → Option (DataW H × List MemPlace)) (w : World) (hown : w.ownsMap Tryz.prog 9 R b nn D0) (hmax : Maps.size D0 ≤ maxLen) (hbytes : Maps.size D0 * 16 ≤ 140737488355328) :
    Calls Tryz.prog 37 #[.func (.func 61) #[] #[.pointer (some ⟨w.heap.size, 0, none⟩)]] (w.alloc (.cells #[.map (some b)] 53)) fun e w' => ∃ (v : Value) (ss : List (List UInt8)), e = .returned v ∧ ss.Perm (strKeys D0) ∧
      w'.ownsRow (w.alloc (.cells #[.map (some b)] 53)).heap.size 9 1 v ss.length ((ss.mergeSort (fun x y => decide (x ≤ y))).map encStr) ∧ (v = .slice none 0 0 ↔ ss = []) ∧ Below (w.alloc (.cells #[.map (some b)] 53)).heap.size (w.alloc (.cells #[.map (some b)] 53)) w' := by
  have hbl := hown.lt
  have hseq : SeqGives Fence.wide 2 Tryz.prog 61 #[.pointer (some ⟨w.heap.size, 0, none⟩)] encStr (fun ss => ss.Perm (strKeys D0)) (Maps.size D0) (w.alloc (.cells #[.map (some b)] 53)) :=
    AnyZ.keys_gives (ρ := keysS_ren) { keysS with } Fence.wide _ trivial rfl (by omega) w.heap.size b nn D0 _ (by simp) (by simp) (by
      obtain ⟨es, clock, hb, Ft, hs, hD⟩ := hown
      exact ⟨es, clock, (Below.heap_alloc _ _ b hbl).trans hb, Ft, hs, hD⟩)
  exact (callsIn_wide (n := 5)).1 (AnyZ.sorted_in sortedS Fence.wide 5 trivial trivial trivial trivial rfl (by omega) (sortsS _) (enters_of Tryz.func60 (by kernel_rfl) rfl) 61 #[.pointer (some ⟨w.heap.size, 0, none⟩)] trivial (enters_of Tryz.func61 (by kernel_rfl) rfl) _ _ hmax hbytes _ hseq)
end Go.Proofs.YtankaiopdbcndaaGreatDoor

/- Users of a target, whole. -/
namespace Go.Proofs.YtankaiopdbcndaaGreatDoor
open Go.RowKit Go.Shelf Go.Maps Go.WideMaps Go.Sort
/-- By at least one step, one comes from a to b. -/
def Rp (nd : List UInt8 → List (List UInt8)) (a b : List UInt8) : Prop := Rs nd (fun j => j ∈ nd a) b
theorem Rp.tail {nd : List UInt8 → List (List UInt8)} {a b c : List UInt8} (h : b ∈ nd a) (h2 : Rp nd b c) : Rp nd a c := Rs.mono h2 fun _ hz => Rs.step (Rs.base h) hz
theorem Rp.head {nd : List UInt8 → List (List UInt8)} {a b c : List UInt8} (h : Rp nd a b) (h2 : c ∈ nd b) : Rp nd a c := Rs.step h h2
theorem usF_iff (nf : List UInt8 → List ByteArray) (o : List UInt8) : ∀ (ks : List (List UInt8)) (u : List UInt8), u ∈ ndT (usF nf ks) o ↔ u ∈ ks ∧ o ∈ ndT nf u
  | [], u => by simp [usF, ndT]
  | k :: ks, u => by
    have ih := usF_iff nf o ks u
    have e : ndT (usF nf (k :: ks)) o = ndT (usF nf ks) o ++ (((nf k).filter fun y => decide (y.data.toList = o)).map fun _ => bN k).map tl := by
      show (usF nf ks o ++ ((nf k).filter fun y => decide (y.data.toList = o)).map fun _ => bN k).map tl = _
      rw [List.map_append]
      rfl
    rw [e, List.mem_append, ih, List.mem_cons, List.map_map]
    constructor
    · rintro (⟨h1, h2⟩ | h)
      · exact ⟨.inr h1, h2⟩
      · obtain ⟨y, hy, e⟩ := List.mem_map.1 h
        have e2 : k = u := by rw [← e]; exact (tl_bN k).symm
        subst e2
        obtain ⟨h1, h2⟩ := List.mem_filter.1 hy
        exact ⟨.inl rfl, List.mem_map.2 ⟨y, h1, of_decide_eq_true h2⟩⟩
    · rintro ⟨rfl | h1, h2⟩
      · obtain ⟨y, hy, e⟩ := List.mem_map.1 h2
        exact .inr (List.mem_map.2 ⟨y, List.mem_filter.2 ⟨hy, decide_eq_true e⟩, tl_bN u⟩)
      · exact .inl ⟨h1, h2⟩
/-- Who is come to by users on: just those that need it, at once or by others. -/
theorem us_reach {nf : List UInt8 → List ByteArray} {ks : List (List UInt8)} (hcl : ∀ k ∈ ks, ∀ y ∈ ndT nf k, y ∈ ks) (x k : List UInt8) : Rs (ndT (usF nf ks)) (fun j => j ∈ ndT (usF nf ks) x) k ↔ k ∈ ks ∧ Rp (ndT nf) k x := by
  constructor
  · intro h
    refine h (fun k => k ∈ ks ∧ Rp (ndT nf) k x) (fun j hj => ?_) (fun a ha y hy => ?_)
    · obtain ⟨h1, h2⟩ := (usF_iff nf x ks j).1 hj
      exact ⟨h1, Rs.base h2⟩
    · obtain ⟨h1, h2⟩ := (usF_iff nf a ks y).1 hy
      exact ⟨h1, Rp.tail h2 ha.2⟩
  · rintro ⟨hk, h⟩
    have : x ∈ ks ∧ Rs (ndT (usF nf ks)) (fun j => j ∈ ndT (usF nf ks) x) k := h (fun b => b ∈ ks ∧ Rs (ndT (usF nf ks)) (fun j => j ∈ ndT (usF nf ks) b) k) (fun b hb => ⟨hcl k hk b hb, Rs.base ((usF_iff nf b ks k).2 ⟨hk, hb⟩)⟩) (fun a ha y hy => ⟨hcl a ha.1 y hy, ha.2.mono fun z hz => Rs.step (Rs.base ((usF_iff nf y ks a).2 ⟨ha.1, hy⟩)) hz⟩)
    exact this.2
/-- What Users tells. -/
def UsA (c : Int) (T : List UInt8 → Prop) (out : List ByteArray) (code : Int) : Prop := (c ≠ 0 ∧ out = [] ∧ code = c) ∨ (c = 0 ∧ code = 0 ∧ (out.map tl).Pairwise (fun a b => a < b) ∧ ∀ k, k ∈ out.map tl ↔ T k)
theorem lt_nodup {l : List (List UInt8)} (h : l.Pairwise (fun a b => a < b)) : l.Nodup := h.imp fun {a b} hab e => by subst e; exact List.lt_irrefl a hab
theorem lt_uniq {a b : List (List UInt8)} (ha : a.Pairwise (fun a b => a < b)) (hb : b.Pairwise (fun a b => a < b)) (h : ∀ k, k ∈ a ↔ k ∈ b) : a = b :=
  List.Perm.eq_of_pairwise (le := fun a b : List UInt8 => a < b) (fun _ _ _ _ h1 h2 => absurd (List.lt_trans h1 h2) (List.lt_irrefl _)) ha hb ((List.perm_ext_iff_of_nodup (lt_nodup ha) (lt_nodup hb)).2 h)
theorem UsA.uniq {c : Int} {T T2 : List UInt8 → Prop} {o o2 : List ByteArray} {e e2 : Int} (h : UsA c T o e) (h2 : UsA c T2 o2 e2) (hs : c = 0 → ∀ k, T k ↔ T2 k) : o = o2 ∧ e = e2 := by
  rcases h with ⟨a, rfl, rfl⟩ | ⟨a, rfl, q, hq⟩
  · rcases h2 with ⟨_, rfl, rfl⟩ | ⟨b, _⟩
    · exact ⟨rfl, rfl⟩
    · exact absurd b a
  · rcases h2 with ⟨b, _⟩ | ⟨_, rfl, q2, hq2⟩
    · exact absurd a b
    · exact ⟨tl_inj (lt_uniq q q2 fun k => (hq k).trans ((hs a k).trans (hq2 k).symm)), rfl⟩
theorem sum_needs {L : List Tg} (hn : (L.map tnm).Nodup) {ks : List (List UInt8)} (hk : ks.Nodup) (h : ∀ k, k ∈ ks ↔ k ∈ L.map tnm) : (ks.map fun k => (nfL L k).length).sum = (L.map fun t => t.ns.length).sum := by
  rw [(((List.perm_ext_iff_of_nodup hk hn).2 h).map fun k => (nfL L k).length).sum_nat, List.map_map]
  congr 1
  exact List.map_congr_left fun t ht => by show (nfL L (tnm t)).length = _; rw [nfL_of hn ht]
theorem ML.lt {B M N : Nat} {us : List UInt8 → List ByteArray} {vf : List UInt8 → Value} {D : DataW Unit} {w : World} (h : ML B M N us vf D w) (hl : ∀ k, (us k).length ≤ 1048576) (hs : ∀ k, ∀ y ∈ us k, y.size ≤ maxLen) : LT M N D us (lkV us vf) w := by
  refine ⟨h.own, fun k => ?_, fun k => row_tx (h.lrow k) (hl k), hs⟩
  unfold lkV
  by_cases he : us k = []
  · rw [if_pos he]
    exact atKey_of_not_has (by rw [h.has, he]; rfl) _
  · rw [if_neg he, h.get k he]
/-- Keys of links, sorted. -/
theorem sorted_keys {M n : Nat} {D : DataW Unit} {ks : List (List UInt8)} {w : World} (h : w.ownsMap Tryz.prog 9 slE M n D) (hn : n ≤ 60) (hk : ks.Nodup) (hm : ∀ k, k ∈ ks ↔ Maps.has D (.string k) = true) :
    Calls Tryz.prog 37 #[.func (.func 61) #[] #[.pointer (some ⟨w.heap.size, 0, none⟩)]] (w.alloc (.cells #[.map (some M)] 53)) fun e w' => ∃ (v : Value) (out : List ByteArray), e = .returned v ∧ w'.ownsRow w.heap.size 9 1 v out.length (out.map Value.string) ∧ (out.map tl).Pairwise (fun a b => a < b) ∧ (∀ k, k ∈ out.map tl ↔ k ∈ ks) ∧ Below w.heap.size w w' := by
  have hz : Maps.size D ≤ 60 := Nat.le_trans h.size_le hn
  refine (sortedS_any M n D slE w h (by unfold maxLen; omega) (by omega)).mono fun e w' ⟨v, ss, q1, q2, q3, _, q5⟩ => ?_
  have hc : Collected D (fun _ => false) ks := ⟨hk, fun x => by rw [hm]; simp⟩
  have hp := hc.perm h lawS Tryz.underlying9 (fun _ => rfl)
  have hA : Below w.heap.size w (w.alloc (.cells #[.map (some M)] 53)) := (Below.refl _ w).alloc (Nat.le_refl _) _
  have hpp : (ss.mergeSort fun x y => decide (x ≤ y)).Perm ks := (List.mergeSort_perm ss _).trans (q2.trans hp.symm)
  have e1 : ((ss.mergeSort fun x y => decide (x ≤ y)).map bN).map tl = ss.mergeSort fun x y => decide (x ≤ y) := by
    rw [List.map_map]
    exact (List.map_congr_left fun x _ => tl_bN x).trans (List.map_id _)
  refine ⟨v, (ss.mergeSort fun x y => decide (x ≤ y)).map bN, q1, ?_, ?_, ?_, hA.trans (q5.mono hA.size)⟩
  · rw [List.length_map, List.length_mergeSort, List.map_map]
    exact row_low q3 hA.size
  · rw [e1]
    have hs := List.pairwise_mergeSort (le := fun x y : List UInt8 => decide (x ≤ y)) (fun a b c h1 h2 => by rw [decide_eq_true_eq] at *; exact List.le_trans h1 h2) (fun a b => by rw [Bool.or_eq_true, decide_eq_true_eq, decide_eq_true_eq]; exact List.le_total _ _) ss
    have hnd : (ss.mergeSort fun x y => decide (x ≤ y)).Nodup := hpp.nodup_iff.2 hk
    refine (hs.and hnd).imp fun {a b} hab => ?_
    have h1 : a ≤ b := of_decide_eq_true hab.1
    rcases List.le_iff_lt_or_eq.1 h1 with h2 | h2
    · exact h2
    · exact absurd h2 hab.2
  · intro k
    rw [e1]
    exact hpp.mem_iff

/-- Who needs x, at once or by others. -/
def UsT (L : List Tg) (x : ByteArray) (k : List UInt8) : Prop := k ∈ L.map tnm ∧ Rp (ndT (nfL L)) k (tl x)

set_option maxHeartbeats 4000000 in
set_option maxRecDepth 100000 in
theorem Users_tw (ao : Option Addr) (cap : Nat) (L : List Tg) (x : ByteArray) (w : World) (hl : IsTg w ao L) (hn : L.length ≤ 1048576) (hs : ∀ t ∈ L, ∀ y ∈ t.ns, y.size ≤ maxLen) (hk : ∀ t ∈ L, (tnm t).length ≤ maxLen) (hx : x.size ≤ maxLen) (hsum : (L.map fun t => t.ns.length).sum ≤ 1048576) :
    Calls Tryz.prog 22 #[.slice ao L.length cap, .string x] w (TwP (UsA (ckW L x) (UsT L x)) w) := by
  have H1 := needsWith_any ao cap L x w hl hn hs hx
  have HZ : Hid (∀ w', ckW L x ≠ 0 → Below w.heap.size w w' → TwP (UsA (ckW L x) (UsT L x)) w (.returned (.tuple #[.slice none 0 0, .int .i64 (ckW L x)])) w') := fun w' h0 hb => TwP.bad hb (.inl ⟨h0, rfl, rfl⟩)
  unfold NwP at H1
  by_cases h0 : ckW L x = 0
  · obtain ⟨hN, hxm⟩ := ckW_ok.1 h0
    have HT : Hid (∀ M n w1, w1.ownsMap Tryz.prog 9 slE M n (ndD L) → n ≤ 60 → Below w.heap.size w w1 → Calls Tryz.prog 36 #[.map (some M)] w1 fun e w' => ∃ M2 v, e = .returned (.map (some M2)) ∧ (Instr.lookup 53 (.map (some M2)) (.string x) false).run Tryz.prog w' = .ok v w' ∧ Calls Tryz.prog 35 #[.map (some M2), v] w' fun e w2 => ∃ (M3 n3 : Nat) (D3 : DataW Unit) (ks : List (List UInt8)), e = .returned (.map (some M3)) ∧ Hid (w2.ownsMap Tryz.prog 9 slE M3 n3 D3 ∧ n3 ≤ 60 ∧ ks.Nodup ∧ (∀ k, k ∈ ks ↔ Maps.has D3 (.string k) = true) ∧ (∀ k, k ∈ ks ↔ UsT L x k) ∧ Below w.heap.size w w2)) := fun M n w1 h1 h2 h3 => by
      have hK := lk_of h1 (fun t ht => ((hl.tx t ht).2.1).below h3 (Nat.le_refl _)) hs hk
      refine (turned_any M n _ _ _ w1 hK (Nat.le_trans h1.size_le h2)).mono fun e w' ⟨M2, n2, vf, D2, ks, q1, q2, q3, q4, q5, q6⟩ => ?_
      have hkm : ∀ k, k ∈ ks ↔ k ∈ L.map tnm := fun k => (q4 k).trans has_mem
      have hus : ∀ k, ∀ y ∈ usF (nfL L) ks k, tl y ∈ L.map tnm := fun k y hy => (hkm _).1 (usF_mem _ k ks y hy)
      have hsz : ∀ k ∈ L.map tnm, k.length ≤ maxLen := fun k hk2 => by
        obtain ⟨t, ht, rfl⟩ := List.mem_map.1 hk2
        exact hk t ht
      have hT := q2.lt (fun k => Nat.le_trans (usF_len (nfL L) k ks) (by rw [sum_needs hN.nod q3 hkm]; exact hsum)) (fun k y hy => by have := hsz _ (hus k y hy); simpa [tl] using this)
      refine ⟨M2, _, q1, hT.look x hx, (from_any M2 n2 D2 (L.map tnm) _ _ w' hT (by rw [List.length_map]; exact hN.len) (fun k _ y hy => hus k y hy) hsz _ _ (hT.tx _) (hus _)).mono fun e w2 ⟨M3, n3, D3, k3, p1, p2, p3, p4, p5, p6, p7, p8, p9⟩ => ⟨M3, n3, D3, k3, p1, p2.own, p3, p4, p5, fun k => ?_, ?_⟩⟩
      · rw [p6]
        refine (us_reach (fun k hk2 y hy => ?_) (tl x) k).trans ?_
        · obtain ⟨z, hz, rfl⟩ := List.mem_map.1 hy
          exact (hkm _).2 (hN.cl k ((hkm k).1 hk2) z hz)
        · unfold UsT
          rw [hkm]
      · exact h3.trans ((q6.trans (p9.mono q6.size)).mono h3.size)
    have HS : Hid (∀ (M3 n3 : Nat) (D3 : DataW Unit) (ks : List (List UInt8)) (w2 : World), (w2.ownsMap Tryz.prog 9 slE M3 n3 D3 ∧ n3 ≤ 60 ∧ ks.Nodup ∧ (∀ k, k ∈ ks ↔ Maps.has D3 (.string k) = true) ∧ (∀ k, k ∈ ks ↔ UsT L x k) ∧ Below w.heap.size w w2) → Calls Tryz.prog 37 #[.func (.func 61) #[] #[.pointer (some ⟨w2.heap.size, 0, none⟩)]] (w2.alloc (.cells #[.map (some M3)] 53)) fun e w' => ∃ v, e = .returned v ∧ Hid (TwP (UsA 0 (UsT L x)) w (.returned (.tuple #[v, .int .i64 0])) w')) := fun M3 n3 D3 ks w2 ⟨g1, g2, g3, g4, g5, g6⟩ => (sorted_keys g1 g2 g3 g4).mono fun e w' ⟨v, out, q1, q2, q3, q4, q5⟩ => ⟨v, q1, out, 0, v, .inr ⟨rfl, rfl, q3, fun k => (q4 k).trans (g5 k)⟩, rfl, row_low q2 g6.size, g6.trans (q5.mono g6.size)⟩
    have HKs := keysS_any
    rw [h0] at H1 ⊢
    clear HZ hl hn hs hk hx hN hxm hsum
    generalize L.length = ln at *
    go_enter Tryz.func22, Tryz.ntmps22
    go_wp2_with (first
      | (go_at_call 34; refine H1.mono ?_; rintro e w1 ⟨mo, rfl, g1, g2, g3⟩; obtain ⟨M, n, rfl, g4, g5, g6⟩ := g2 rfl; have H2 := HT.out M n w1 g6 g5 g3; clear g1 g2 g3 g4 g5 g6 H1 HT)
      | (go_at_call 36; refine H2.mono ?_; rintro e w2 ⟨M2, v, rfl, hlk, H3⟩)
      | (go_at_call 35; refine H3.mono ?_; rintro e w3 ⟨M3, n3, D3, ks, rfl, H4⟩; have H5 := HS.out M3 n3 D3 ks w3 H4.out)
      | (go_at_call 38; refine (HKs _ _).mono ?_; rintro e w4 ⟨rfl, rfl⟩)
      | (go_at_call 37; refine H5.mono ?_; rintro e w5 ⟨v5, rfl, H6⟩)
      | go_in)
    go_ret2
    exact H6.out
  · have HC : Hid (ckW L x ≠ 0) := h0
    generalize ckW L x = c at *
    have hc1 : ¬(c : Int) = 0 := h0
    clear h0 hl hn hs hk hx hsum
    generalize L.length = ln at *
    go_enter Tryz.func22, Tryz.ntmps22
    go_wp2_with (first
      | (go_at_call 34; refine H1.mono ?_; rintro e w1 ⟨mo, rfl, g1, g2, g3⟩; have HB : Hid (Below w.heap.size w w1) := g3; clear g1 g2 g3 H1)
      | go_in)
    go_ret2
    exact HZ.out _ HC.out HB.out
end Go.Proofs.YtankaiopdbcndaaGreatDoor

/- Check: do paths rise? -/
namespace Go.Proofs.YtankaiopdbcndaaGreatDoor
open Go.RowKit Go.Shelf Go.Maps Go.WideMaps

theorem cmpB_neg (x y : ByteArray) : decide (cmpB x y < 0) = decide (x.data.toList < y.data.toList) := by
  unfold cmpB
  rw [Lib.toList_data, Lib.toList_data, tlt]
  by_cases h : x.data.toList < y.data.toList
  · simp [h]
  · by_cases h2 : x.data.toList = y.data.toList
    · simp [h2, List.lt_irrefl]
    · simp [h, h2]

/-- How the look ends. -/
def SortedP (L : List Fl) (w : World) (e : Ending) (w' : World) : Prop := ∃ b, e = .returned (.bool b) ∧ (b = true ↔ adjF L) ∧ Below w.heap.size w w'

set_option maxHeartbeats 2000000 in
set_option maxRecDepth 100000 in
theorem isSorted_any (ao : Option Addr) (cap : Nat) (L : List Fl) (w : World) (hn : L.length ≤ 1000000) (hl : IsFl w ao L) :
    Calls Tryz.prog 64 #[.slice ao L.length cap, .func (.func 65) #[] #[]] w (SortedP L w) := by
  have HL : Hid (IsFl w ao L) := hl
  have hn1 : (L.length : Int) ≤ 1000000 := by omega
  clear hl
  go_enter Tryz.func64, Tryz.ntmps64
  go_wp2
  go_loopw [5] (fun i wr => ∃ k : Nat, k ≤ L.length ∧ i = .int .i64 ((k : Int) - 1) ∧ (∀ j, (hj : j + 1 < L.length) → k ≤ j + 1 → ¬ pth L[j + 1] < pth L[j]) ∧ Below w.heap.size w wr) (fun i _ => (intOf i + 1).toNat)
  case atStart => exact ⟨L.length, Nat.le_refl _, by go_num, fun j hj hjk => by omega, Below.refl _ _⟩
  case round =>
    obtain ⟨k, hk, rfl, hlo, hb⟩ := hrel
    have HO : Hid (∀ j, (hj : j + 1 < L.length) → k ≤ j + 1 → ¬ pth L[j + 1] < pth L[j]) := hlo
    have HB : Hid (Below w.heap.size w wr) := hb
    have hsz := hb.size
    clear hlo
    by_cases hlt : 2 ≤ k
    · obtain ⟨m, rfl⟩ : ∃ m, k = m + 2 := ⟨k - 2, by omega⟩
      have HLB := HL.out.below hb (Nat.le_refl _)
      clear hb
      rcases HLB with h | ⟨g, o, rfl, hgr, hc⟩
      · exfalso; rw [h] at hk; simp at hk
      obtain ⟨a0, a1, a2⟩ := hc m (by omega)
      obtain ⟨b0, b1, b2⟩ := hc (m + 1) (by omega)
      have i0 : (((m + 2 : Nat) : Int) - 1) = (m : Int) + 1 := by omega
      rw [i0]
      have i1 : (0 : Int) ≤ (m : Int) := by omega
      have i2 : (m : Int) < L.length := by omega
      have i3 : (0 : Int) ≤ (m : Int) + 1 := by omega
      have i4 : (m : Int) + 1 < L.length := by omega
      have i5 : IntKind.i64.wrap ((m : Int) + 1 - 1) = m := by rw [wraps_i64 _ (by omega) (by omega)]; omega
      have i6 : IntKind.i64.wrap (m : Int) = m := wraps_i64 _ (by omega) (by omega)
      have i7 : ((m : Int) + 1).toNat = m + 1 := by omega
      generalize hx : L[m] = x at a0 a1 a2
      generalize hy : L[m + 1] = y at b0 b1 b2
      obtain ⟨xp, xt, xr⟩ := x
      obtain ⟨yp, yt, yr⟩ := y
      have HX : Hid (L[m] = ⟨xp, xt, xr⟩) := hx
      have HY : Hid (L[m + 1] = ⟨yp, yt, yr⟩) := hy
      simp only at a0 a1 a2 b0 b1 b2
      clear hx hy hc
      obtain ⟨cv, hcv⟩ : ∃ cv, cv = cmpB yp xp := ⟨_, rfl⟩
      have HC : Hid (∀ W, Calls Tryz.prog 65 #[.agg #[.string yp, .string yt, .bool yr], .agg #[.string xp, .string xt, .bool xr]] W fun e w' => e = .returned (.int .i64 cv) ∧ Below W.heap.size W w') := fun W => by
        rw [hcv]
        exact comparePaths_any ⟨yp, yt, yr⟩ ⟨xp, xt, xr⟩ W
      have HD : Hid (decide (cv < 0) = decide (pth L[m + 1] < pth L[m])) := by
        show _ = _
        rw [hcv, cmpB_neg, HX.out, HY.out]
        rfl
      clear hcv
      by_cases hls : cv < 0
      · have HLS : Hid (cv < 0) := hls
        go_wp2_with fail
        go_region_held3 (fun w' => w'.cell? ⟨g, o + m * 3, none⟩ = some (.string xp) ∧ w'.cell? ⟨g, o + m * 3 + 1, none⟩ = some (.string xt) ∧ w'.cell? ⟨g, o + m * 3 + 2, none⟩ = some (.bool xr) ∧ w'.cell? ⟨g, o + (m + 1) * 3, none⟩ = some (.string yp) ∧ w'.cell? ⟨g, o + (m + 1) * 3 + 1, none⟩ = some (.string yt) ∧ w'.cell? ⟨g, o + (m + 1) * 3 + 2, none⟩ = some (.bool yr) ∧ g < w'.heap.size)
          (first | (simp [go_sem, *]; done) | (go_split_ands; refine ⟨?_, ?_, ?_, ?_, ?_, ?_, ?_⟩ <;> first | (exact Nat.lt_of_lt_of_le (by assumption) hb1.size) | (rw [hb1.cell (p := ⟨g, _, none⟩) (by assumption)]; assumption)))
          (first
            | (go_at_call 65; refine (HC.out _).mono ?_; rintro e w1 ⟨rfl, hb1⟩)
            | fail)
        have HB3 : Hid (Below w.heap.size w w1) := HB.out.drew.trans (hb1.mono HB.out.drew.size)
        clear hb1
        go_wp2
        go_ret
        refine ⟨false, rfl, ⟨fun h => absurd h (by decide), fun h => ?_⟩, HB3.out⟩
        have := h m (by omega)
        have h2 := HD.out
        rw [decide_eq_true HLS.out] at h2
        exact absurd (of_decide_eq_true h2.symm) this
      · have HLS : Hid (0 ≤ cv) := by
          show 0 ≤ cv
          omega
        go_wp2_with fail
        go_region_held3 (fun w' => w'.cell? ⟨g, o + m * 3, none⟩ = some (.string xp) ∧ w'.cell? ⟨g, o + m * 3 + 1, none⟩ = some (.string xt) ∧ w'.cell? ⟨g, o + m * 3 + 2, none⟩ = some (.bool xr) ∧ w'.cell? ⟨g, o + (m + 1) * 3, none⟩ = some (.string yp) ∧ w'.cell? ⟨g, o + (m + 1) * 3 + 1, none⟩ = some (.string yt) ∧ w'.cell? ⟨g, o + (m + 1) * 3 + 2, none⟩ = some (.bool yr) ∧ g < w'.heap.size)
          (first | (simp [go_sem, *]; done) | (go_split_ands; refine ⟨?_, ?_, ?_, ?_, ?_, ?_, ?_⟩ <;> first | (exact Nat.lt_of_lt_of_le (by assumption) hb1.size) | (rw [hb1.cell (p := ⟨g, _, none⟩) (by assumption)]; assumption)))
          (first
            | (go_at_call 65; refine (HC.out _).mono ?_; rintro e w1 ⟨rfl, hb1⟩)
            | fail)
        have HB3 : Hid (Below w.heap.size w w1) := HB.out.drew.trans (hb1.mono HB.out.drew.size)
        clear hb1
        go_wp2
        refine ⟨⟨m + 1, by omega, by go_num, fun j hj hjk => ?_, HB3.out⟩, by simp [intOf]; omega⟩
        by_cases h : m + 2 ≤ j + 1
        · exact HO.out j hj h
        · obtain rfl : j = m := by omega
          intro h3
          have h2 := HD.out
          rw [decide_eq_true h3] at h2
          have h4 : cv < 0 := of_decide_eq_true h2
          have h5 : 0 ≤ cv := HLS.out
          omega
    · clear hb
      have i0 : ¬ (0 : Int) < (k : Int) - 1 := by omega
      go_wp2
      go_ret
      exact ⟨true, rfl, ⟨fun _ => fun j hj => HO.out j hj (by omega), fun _ => rfl⟩, HB.out⟩
end Go.Proofs.YtankaiopdbcndaaGreatDoor

/- Check: does a path go through a file? -/
namespace Go.Proofs.YtankaiopdbcndaaGreatDoor
open Go.RowKit Go.Shelf Go.Maps Go.WideMaps

theorem ownsMap_heap {H : Type} {w w' : World} {P : Program} {k : TypeId} {R : Value → Option (DataW H × List MemPlace)} {b n : Nat} {D : DataW H} (h : w.ownsMap P k R b n D) (hh : w'.heap[b]? = w.heap[b]?) : w'.ownsMap P k R b n D := by
  obtain ⟨es, clock, hb, rest⟩ := h
  exact ⟨es, clock, hh.trans hb, rest⟩

theorem lookF {M n : Nat} {D : DataW Unit} {w : World} (hown : w.ownsMap Tryz.prog 9 fileE M n D) (s : ByteArray) (hs : s.size ≤ maxLen) :
    ∃ f, fD f = D.atKey (.string s.data.toList) (fD ⟨⟨#[]⟩, ⟨#[]⟩, false⟩) ∧ ∀ W : World, W.heap[M]? = w.heap[M]? → (Instr.lookup 94 (.map (some M)) (.string s) true).run Tryz.prog W = .ok (.tuple #[encF f, .bool (Maps.has D (.string s.data.toList))]) W := by
  obtain ⟨v, ps, _, hv⟩ := hown.look_ok lawS Tryz.underlying94 (zeroF w) (fileE_mk ⟨⟨#[]⟩, ⟨#[]⟩, false⟩) (keyOf_string_mk Tryz.underlying9 hs)
  obtain ⟨f, rfl, hf⟩ := fileE_inv hv
  refine ⟨f, hf.symm, fun W hW => ?_⟩
  obtain ⟨v2, ps2, hr2, hv2⟩ := (ownsMap_heap hown hW).look_ok lawS Tryz.underlying94 (zeroF W) (fileE_mk ⟨⟨#[]⟩, ⟨#[]⟩, false⟩) (keyOf_string_mk Tryz.underlying9 hs)
  obtain ⟨f2, rfl, hf2⟩ := fileE_inv hv2
  rw [fD_inj (hf.symm.trans hf2)]
  exact hr2

/-- Does a path go through something that is there? -/
def thrB (p : ByteArray) (D : DataW Unit) : Bool := (List.range p.size).any fun i => decide (p.data.toList.getD i 0 = 47) && Maps.has D (.string (p.extract 0 i).data.toList)

theorem ne47 (x : UInt8) : ((x.toNat : Int) != 47) = !decide (x = 47) := by
  rw [← is47]
  rfl

set_option maxHeartbeats 4000000 in
set_option maxRecDepth 100000 in
theorem thr1_any (f : Fl) (bx M n : Nat) (D : DataW Unit) (w : World) (hbx : w.cell? ⟨bx, 0, none⟩ = some (.map (some M))) (hown : w.ownsMap Tryz.prog 9 fileE M n D) (hs : f.pa.size ≤ 1000000) :
    Calls Tryz.prog 84 #[encF f, .pointer (some ⟨bx, 0, none⟩)] w fun e w' => e = .returned (.bool (thrB f.pa D)) ∧ Below w.heap.size w w' := by
  obtain ⟨p, t, r⟩ := f
  have hbl : bx < w.heap.size := by simpa using World.block_lt_of_cell? w _ hbx
  have hMl := hown.lt
  have HX : Hid (w.cell? ⟨bx, 0, none⟩ = some (.map (some M))) := hbx
  have HO : Hid (w.ownsMap Tryz.prog 9 fileE M n D) := hown
  have hs1 : (p.size : Int) ≤ 1000000 := by simp only at hs; omega
  unfold encF
  simp only at hs ⊢
  clear hbx hown
  go_enter Tryz.func84, Tryz.ntmps84
  go_wp2
  go_loopw [10] (fun i wr => ∃ k : Nat, k ≤ p.size ∧ i = .int .i64 k ∧ (∀ j, j < k → (decide (p.data.toList.getD j 0 = 47) && Maps.has D (.string (p.extract 0 j).data.toList)) = false) ∧ Below (w.heap.size + 1) (w.alloc (.cells #[.string p, .string t, .bool r] 77)) wr) (fun i _ => p.size - (intOf i).toNat)
  case atStart => exact ⟨0, by omega, rfl, by omega, Below.refl _ _⟩
  case round =>
    obtain ⟨k, hk, rfl, hlo, hb⟩ := hrel
    have HL : Hid (∀ j, j < k → (decide (p.data.toList.getD j 0 = 47) && Maps.has D (.string (p.extract 0 j).data.toList)) = false) := hlo
    have HB : Hid (Below (w.heap.size + 1) (w.alloc (.cells #[.string p, .string t, .bool r] 77)) wr) := hb
    have hx := heap_alloc_new w (.cells #[.string p, .string t, .bool r] 77)
    have hwz : (w.alloc (.cells #[.string p, .string t, .bool r] 77)).heap.size = w.heap.size + 1 := World.size_alloc _ _
    have HF : Hid (Below w.heap.size w wr) := ((Below.refl _ w).alloc (Nat.le_refl _) _).trans (hb.mono (by omega))
    have hsz : w.heap.size + 1 ≤ wr.heap.size := by rw [← hwz]; exact hb.size
    have c0 : wr.cell? ⟨w.heap.size, 0, none⟩ = some (.string p) := by
      rw [hb.cell (p := ⟨w.heap.size, 0, none⟩) (by show w.heap.size < _; omega)]
      exact Lib.cell_of_heap hx 0
    have cb : wr.cell? ⟨bx, 0, none⟩ = some (.map (some M)) := by
      rw [HF.out.cell (p := ⟨bx, 0, none⟩) hbl]
      exact HX.out
    have hownr : wr.ownsMap Tryz.prog 9 fileE M n D := ownsMap_heap HO.out (HF.out.block M hMl)
    clear hlo hb hx hwz
    by_cases hlt : k < p.size
    · have hki : (k : Int) < p.size := by omega
      have hq : ((p[k].toNat : Int) != 47) = !decide (p.data.toList.getD k 0 = 47) := by rw [ne47, at_getD]
      by_cases h47 : p.data.toList.getD k 0 = 47
      · have H47 : Hid (p.data.toList.getD k 0 = 47) := h47
        rw [decide_eq_true h47] at hq
        have hq' : ((p[k].toNat : Int) != 47) = false := hq
        clear hq h47
        have hex : (p.extract 0 k).size ≤ maxLen := by rw [ByteArray.size_extract]; unfold maxLen; omega
        obtain ⟨f2, _, hlk⟩ := lookF hownr (p.extract 0 k) hex
        obtain ⟨fp, ft, fr⟩ := f2
        have l0 : (Instr.lookup 94 (.map (some M)) (.string (p.extract 0 k)) true).run Tryz.prog wr.drew = .ok (.tuple #[.agg #[.string fp, .string ft, .bool fr], .bool (Maps.has D (.string (p.extract 0 k).data.toList))]) wr.drew := hlk wr.drew rfl
        have l1 : ∀ o, (Instr.lookup 94 (.map (some M)) (.string (p.extract 0 k)) true).run Tryz.prog (wr.alloc o).drew = .ok (.tuple #[.agg #[.string fp, .string ft, .bool fr], .bool (Maps.has D (.string (p.extract 0 k).data.toList))]) (wr.alloc o).drew := fun o => hlk _ (Below.heap_alloc _ _ M hownr.lt)
        have hle : k ≤ p.size := by omega
        have HH : Hid ((decide (p.data.toList.getD k 0 = 47) && Maps.has D (.string (p.extract 0 k).data.toList)) = Maps.has D (.string (p.extract 0 k).data.toList)) := by
          show _ = _
          rw [decide_eq_true H47.out, Bool.true_and]
        have cA : ∀ o, (wr.alloc o).cell? ⟨w.heap.size, 0, none⟩ = some (.string p) := fun o => (((Below.refl _ wr).alloc (Nat.le_refl _) o).cell (p := ⟨w.heap.size, 0, none⟩) (by show w.heap.size < wr.heap.size; omega)).trans c0
        have cB : ∀ o, (wr.alloc o).cell? ⟨bx, 0, none⟩ = some (.map (some M)) := fun o => (((Below.refl _ wr).alloc (Nat.le_refl _) o).cell (p := ⟨bx, 0, none⟩) (by show bx < wr.heap.size; omega)).trans cb
        have HE : Hid (∀ o, Below (w.heap.size + 1) (w.alloc (.cells #[.string p, .string t, .bool r] 77)) (wr.alloc o).drew ∧ Below w.heap.size w (wr.alloc o).drew) := fun o => ⟨(HB.out.alloc (by omega) o).drew, (HF.out.alloc (by omega) o).drew⟩
        clear hlk hownr
        have HQ : Hid (∀ hb, Maps.has D (.string (p.extract 0 k).data.toList) = hb → (decide (p.data.toList.getD k 0 = 47) && Maps.has D (.string (p.extract 0 k).data.toList)) = hb) := fun hb h => HH.out.trans h
        obtain ⟨hb, hhb⟩ : ∃ hb, Maps.has D (.string (p.extract 0 k).data.toList) = hb := ⟨_, rfl⟩
        have HR : Hid ((decide (p.data.toList.getD k 0 = 47) && Maps.has D (.string (p.extract 0 k).data.toList)) = hb) := HQ.out hb hhb
        rw [hhb] at l0
        simp only [hhb] at l1
        clear hhb HH HQ
        cases hb with
        | true =>
          go_wp2
          go_region
          go_wp2
          go_ret
          refine ⟨?_, (HE.out _).2⟩
          have : thrB p D = true := List.any_eq_true.2 ⟨k, List.mem_range.2 hlt, HR.out⟩
          rw [this]
          rfl
        | false =>
          go_wp2
          go_region
          go_wp2
          refine ⟨⟨k + 1, by omega, by go_num, fun j hj => ?_, (HE.out _).1⟩, by simp [intOf]; omega⟩
          by_cases h : j < k
          · exact HL.out j h
          · obtain rfl : j = k := by omega
            exact HR.out
      · have H47 : Hid (¬ p.data.toList.getD k 0 = 47) := h47
        rw [decide_eq_false h47] at hq
        have hq' : ((p[k].toNat : Int) != 47) = true := hq
        clear hq h47 hownr
        go_wp2
        refine ⟨⟨k + 1, by omega, by go_num, fun j hj => ?_, HB.out⟩, by simp [intOf]; omega⟩
        by_cases h : j < k
        · exact HL.out j h
        · obtain rfl : j = k := by omega
          rw [decide_eq_false H47.out, Bool.false_and]
    · have hki : ¬ (k : Int) < p.size := by omega
      have e : thrB p D = false := by
        unfold thrB
        rw [List.any_eq_false]
        intro j hj
        rw [HL.out j (by have := List.mem_range.1 hj; omega)]
        decide
      have HE : Hid (thrB p D = false) := e
      clear e hownr
      go_wp2
      go_ret
      exact ⟨by rw [HE.out]; rfl, HF.out⟩

theorem thrB_byD (p : ByteArray) (M : List Fl) : thrB p (byD M) = M.any fun g => inB p g.pa := by
  rw [Bool.eq_iff_iff]
  unfold thrB
  rw [List.any_eq_true, List.any_eq_true]
  constructor
  · rintro ⟨i, hi, h⟩
    rw [Bool.and_eq_true, has_byD, List.any_eq_true] at h
    obtain ⟨h1, g, hg, h2⟩ := h
    exact ⟨g, hg, (inB_iff _ _).2 ⟨i, List.mem_range.1 hi, of_decide_eq_true h1, of_decide_eq_true h2⟩⟩
  · rintro ⟨g, hg, h⟩
    obtain ⟨i, h1, h2, h3⟩ := (inB_iff _ _).1 h
    refine ⟨i, List.mem_range.2 h1, ?_⟩
    rw [Bool.and_eq_true, has_byD, List.any_eq_true]
    exact ⟨decide_eq_true h2, g, hg, decide_eq_true h3⟩

theorem anyD (L M : List Fl) : (L.any fun f => thrB f.pa (byD M)) = thruF L M := by
  unfold thruF
  congr 1
  funext f
  exact thrB_byD _ _
end Go.Proofs.YtankaiopdbcndaaGreatDoor

/- Check: does some path go through a file? -/
namespace Go.Proofs.YtankaiopdbcndaaGreatDoor
open Go.RowKit Go.Shelf Go.Maps Go.WideMaps

/-- How the search ends. -/
def IdxP (b : Bool) (w : World) (e : Ending) (w' : World) : Prop := ∃ r : Int, e = .returned (.int .i64 r) ∧ decide (0 ≤ r) = b ∧ Below w.heap.size w w'

set_option maxHeartbeats 4000000 in
set_option maxRecDepth 100000 in
theorem idxT_any (ao : Option Addr) (cap : Nat) (L : List Fl) (bx M n : Nat) (D : DataW Unit) (w : World) (hn : L.length ≤ 1000000) (hl : IsFl w ao L) (hs : ∀ f ∈ L, f.pa.size ≤ 1000000) (hbx : w.cell? ⟨bx, 0, none⟩ = some (.map (some M))) (hown : w.ownsMap Tryz.prog 9 fileE M n D) :
    Calls Tryz.prog 101 #[.slice ao L.length cap, .func (.func 84) #[] #[.pointer (some ⟨bx, 0, none⟩)]] w (IdxP (L.any fun f => thrB f.pa D) w) := by
  have hbl : bx < w.heap.size := by simpa using World.block_lt_of_cell? w _ hbx
  have hMl := hown.lt
  have HL : Hid (IsFl w ao L) := hl
  have HS : Hid (∀ f ∈ L, f.pa.size ≤ 1000000) := hs
  have HX : Hid (w.cell? ⟨bx, 0, none⟩ = some (.map (some M))) := hbx
  have HO : Hid (w.ownsMap Tryz.prog 9 fileE M n D) := hown
  have hn1 : (L.length : Int) ≤ 1000000 := by omega
  clear hl hs hbx hown
  go_enter Tryz.func101, Tryz.ntmps101
  go_wp2
  go_loopw [8] (fun i wr => ∃ k : Nat, k ≤ L.length ∧ i = .int .i64 k ∧ (∀ j, (hj : j < L.length) → j < k → thrB L[j].pa D = false) ∧ Below w.heap.size w wr) (fun i _ => L.length - (intOf i).toNat)
  case atStart => exact ⟨0, by omega, rfl, by omega, Below.refl _ _⟩
  case round =>
    obtain ⟨k, hk, rfl, hlo, hb⟩ := hrel
    have HN : Hid (∀ j, (hj : j < L.length) → j < k → thrB L[j].pa D = false) := hlo
    have HB : Hid (Below w.heap.size w wr) := hb
    have hsz := hb.size
    clear hlo
    by_cases hlt : k < L.length
    · have HLB := HL.out.below hb (Nat.le_refl _)
      rcases HLB with h | ⟨g, o, rfl, hgr, hc⟩
      · exfalso; rw [h] at hlt; exact absurd hlt (by simp)
      obtain ⟨c0, c1, c2⟩ := hc k hlt
      have hpa := HS.out _ (List.getElem_mem hlt)
      have HC : Hid (Calls Tryz.prog 84 #[encF L[k], .pointer (some ⟨bx, 0, none⟩)] wr fun e w' => e = .returned (.bool (thrB L[k].pa D)) ∧ Below wr.heap.size wr w') :=
        thr1_any L[k] bx M n D wr ((hb.cell (p := ⟨bx, 0, none⟩) hbl).trans HX.out) (ownsMap_heap HO.out (hb.block M hMl)) hpa
      have HP : Hid (∀ b, thrB L[k].pa D = b → b = true → (L.any fun f => thrB f.pa D) = true) := fun b h1 h2 => List.any_eq_true.2 ⟨L[k], List.getElem_mem hlt, h1.trans h2⟩
      clear hc hb hpa
      unfold encF at HC
      generalize hx : L[k] = x at c0 c1 c2 HC HP
      have HK : Hid (L[k] = x) := hx
      clear hx
      obtain ⟨p, t, r⟩ := x
      simp only at c0 c1 c2 HC HP
      obtain ⟨b, hb2⟩ : ∃ b, thrB p D = b := ⟨_, rfl⟩
      have HE : Hid (thrB p D = b) := hb2
      rw [hb2] at HC
      clear hb2
      cases b with
      | true =>
        go_wp2_with (first | (go_at_call 84; refine HC.out.mono ?_; rintro e w1 ⟨rfl, hb1⟩) | go_in)
        go_ret
        refine ⟨k, rfl, ?_, HB.out.trans (hb1.mono hsz)⟩
        rw [HP.out true HE.out rfl]
        simp
      | false =>
        go_wp2_with (first | (go_at_call 84; refine HC.out.mono ?_; rintro e w1 ⟨rfl, hb1⟩) | go_in)
        refine ⟨⟨k + 1, by omega, by go_num, fun j hj hjk => ?_, HB.out.trans (hb1.mono hsz)⟩, by simp [intOf]; omega⟩
        by_cases h : j < k
        · exact HN.out j hj h
        · obtain rfl : j = k := by omega
          rw [HK.out]
          exact HE.out
    · clear hb
      go_wp2
      go_ret
      refine ⟨-1, rfl, ?_, HB.out⟩
      rw [show (L.any fun f => thrB f.pa D) = false from List.any_eq_false.2 fun f hf => by
        obtain ⟨j, hj, rfl⟩ := List.getElem_of_mem hf
        rw [HN.out j hj (by omega)]
        decide]
      rfl

set_option maxHeartbeats 2000000 in
set_option maxRecDepth 100000 in
theorem cfT_of (ao : Option Addr) (ln cap bx : Nat) (b : Bool) (w : World) (HI : Hid (Calls Tryz.prog 101 #[.slice ao ln cap, .func (.func 84) #[] #[.pointer (some ⟨bx, 0, none⟩)]] w (IdxP b w))) :
    Calls Tryz.prog 83 #[.slice ao ln cap, .func (.func 84) #[] #[.pointer (some ⟨bx, 0, none⟩)]] w fun e w' => e = .returned (.bool b) ∧ Below w.heap.size w w' := by
  go_enter Tryz.func83, Tryz.ntmps83
  go_wp2_with fail
  refine HI.out.mono ?_
  rintro e w1 ⟨r, rfl, hr, hb1⟩
  have HB1 : Hid (Below w.heap.size w w1) := hb1
  have HR : Hid (decide (0 ≤ r) = b) := hr
  clear hb1 hr
  go_wp2
  go_ret
  exact ⟨by rw [← HR.out]; rfl, HB1.out⟩

set_option maxHeartbeats 2000000 in
set_option maxRecDepth 100000 in
theorem someGo_any (ao : Option Addr) (cap : Nat) (L : List Fl) (M n : Nat) (D : DataW Unit) (w : World) (hn : L.length ≤ 1000000) (hl : IsFl w ao L) (hs : ∀ f ∈ L, f.pa.size ≤ 1000000) (hown : w.ownsMap Tryz.prog 9 fileE M n D) :
    Calls Tryz.prog 66 #[.slice ao L.length cap, .map (some M)] w fun e w' => e = .returned (.bool (L.any fun f => thrB f.pa D)) ∧ Below w.heap.size w w' := by
  have hA : Below w.heap.size w (w.alloc (.cells #[.map (some M)] 94)) := (Below.refl _ w).alloc (Nat.le_refl _) _
  have HC : Hid (Calls Tryz.prog 83 #[.slice ao L.length cap, .func (.func 84) #[] #[.pointer (some ⟨w.heap.size, 0, none⟩)]] (w.alloc (.cells #[.map (some M)] 94)) fun e w' => e = .returned (.bool (L.any fun f => thrB f.pa D)) ∧ Below w.heap.size w w') :=
    (cfT_of ao L.length cap w.heap.size _ _ (idxT_any ao cap L w.heap.size M n D (w.alloc (.cells #[.map (some M)] 94)) hn (hl.below hA (Nat.le_refl _)) hs (Lib.cell_of_heap (heap_alloc_new w _) 0) (hown.alloc _))).mono fun e w' h => ⟨h.1, hA.trans (h.2.mono hA.size)⟩
  clear hA hl hs hown
  go_enter Tryz.func66, Tryz.ntmps66
  go_wp2_with (first | (go_at_call 83; refine HC.out.mono ?_; rintro e w1 ⟨rfl, hb1⟩) | go_in)
  go_ret
  exact ⟨rfl, hb1⟩
end Go.Proofs.YtankaiopdbcndaaGreatDoor

/- Check, whole. -/
namespace Go.Proofs.YtankaiopdbcndaaGreatDoor
open Go.RowKit Go.Shelf Go.Maps Go.WideMaps

theorem pathOk_size {p : ByteArray} (h : pathOk p = true) : p.size ≤ 100 := by
  unfold pathOk at h
  rw [Bool.and_eq_true] at h
  exact of_decide_eq_true h.1

set_option maxHeartbeats 2000000 in
set_option maxRecDepth 100000 in
theorem Check_many (ao : Option Addr) (n cap : Nat) (w : World) (hn : 60 < n) :
    Calls Tryz.prog 40 #[.slice ao n cap] w fun e w' => e = .returned (.int .i64 2) ∧ Below w.heap.size w w' := by
  have hn1 : 60 < (n : Int) := by omega
  clear hn
  go_enter Tryz.func40, Tryz.ntmps40
  go_wp2
  go_ret
  exact ⟨rfl, Below.refl _ _⟩

set_option maxHeartbeats 4000000 in
set_option maxRecDepth 100000 in
theorem Check_few (ao : Option Addr) (cap : Nat) (L : List Fl) (w : World) (hn : L.length ≤ 60) (hl : IsFl w ao L) (hm : MaxIs w) :
    Calls Tryz.prog 40 #[.slice ao L.length cap] w fun e w' => e = .returned (.int .i64 (chF L)) ∧ Below w.heap.size w w' := by
  have HL : Hid (IsFl w ao L) := hl
  have HM : Hid (MaxIs w) := hm
  have HN : Hid (L.length ≤ 60) := hn
  have hn1 : (L.length : Int) ≤ 60 := by omega
  clear hl hm hn
  go_enter Tryz.func40, Tryz.ntmps40
  go_wp2
  go_loopw [12] (fun i wr => ∃ k : Nat, k ≤ L.length ∧ i = .int .i64 k ∧ (∀ j, (hj : j < L.length) → j < k → flE L[j] = 0) ∧ Below w.heap.size w wr) (fun i _ => L.length - (intOf i).toNat)
  case atStart => exact ⟨0, by omega, rfl, by omega, Below.refl _ _⟩
  case round =>
    obtain ⟨k, hk, rfl, hlo, hb⟩ := hrel
    have HO : Hid (∀ j, (hj : j < L.length) → j < k → flE L[j] = 0) := hlo
    have HB : Hid (Below w.heap.size w wr) := hb
    have hsz := hb.size
    have HLB : Hid (IsFl wr ao L) := HL.out.below hb (Nat.le_refl _)
    clear hlo
    by_cases hlt : k < L.length
    · rcases HLB.out with h | ⟨g, o, rfl, hgr, hc⟩
      · exfalso; rw [h] at hlt; exact absurd hlt (by simp)
      obtain ⟨c0, c1, c2⟩ := hc k hlt
      have HF : Hid (Calls Tryz.prog 62 #[encF L[k]] (wr.alloc (.cells #[.string L[k].pa, .string L[k].tx, .bool L[k].rn] 77)) fun e w' => e = .returned (.int .i64 (flE L[k])) ∧ Below w.heap.size w w') := by
        have hA : Below w.heap.size w (wr.alloc (.cells #[.string L[k].pa, .string L[k].tx, .bool L[k].rn] 77)) := hb.alloc hsz _
        refine (fileError_any L[k] _ ?_).mono fun e w' h => ⟨h.1, hA.trans (h.2.mono hA.size)⟩
        exact HM.out.up (hA.trans ((flW_bel _ _).mono hA.size))
      have HQ : Hid (flE L[k] ≠ 0 → chF L = flE L[k]) := fun hne => by
        have h1 := flEs_no L k hlt (fun j hj hjk => HO.out j hj hjk) hne
        unfold chF
        have := HN.out
        rw [if_neg (by omega), h1, if_neg hne]
      clear hc hb HLB
      unfold encF at HF
      generalize hx : L[k] = x at c0 c1 c2 HF HQ
      have HK : Hid (L[k] = x) := hx
      clear hx
      obtain ⟨p, t, r⟩ := x
      simp only at c0 c1 c2 HF
      obtain ⟨ev, hev⟩ : ∃ ev, flE ⟨p, t, r⟩ = ev := ⟨_, rfl⟩
      have HE : Hid (flE ⟨p, t, r⟩ = ev) := hev
      rw [hev] at HF HQ
      clear hev
      by_cases h0 : ev = 0
      · subst h0
        go_wp2_with (first | (go_at_call 62; refine HF.out.mono ?_; rintro e w1 ⟨rfl, hb1⟩) | go_in)
        refine ⟨⟨k + 1, by omega, by go_num, fun j hj hjk => ?_, hb1⟩, by simp [intOf]; omega⟩
        by_cases h : j < k
        · exact HO.out j hj h
        · obtain rfl : j = k := by omega
          rw [HK.out]
          exact HE.out
      · have H0 : Hid (ev ≠ 0) := h0
        have h0' : (ev != 0) = true := by simpa using h0
        clear h0
        go_wp2_with (first | (go_at_call 62; refine HF.out.mono ?_; rintro e w1 ⟨rfl, hb1⟩) | go_in)
        go_ret
        exact ⟨by rw [HQ.out H0.out]; rfl, hb1⟩
    · have h0 : flEs L = 0 := flEs_yes L fun j hj => HO.out j hj (by omega)
      have hall : ∀ f ∈ L, f.pa.size ≤ 100 := fun f hf => pathOk_size (flE_pa (flEs_all h0 f hf)).1
      have hN := HN.out
      have hki : ¬ (k : Int) < (L.length : Int) := by omega
      have HV : Hid (chF L = if (upF L && !thruF L L) = true then 0 else 6) := by
        show _ = _
        unfold chF
        rw [if_neg (by omega), if_pos h0]
      have HBy : Hid (Calls Tryz.prog 63 #[.slice ao L.length cap] wr fun e w' => e = .returned (.map (some wr.heap.size)) ∧ w'.ownsMap Tryz.prog 9 fileE wr.heap.size L.length (byD L) ∧ Below wr.heap.size wr w') :=
        byPath_any ao cap L wr (by omega) HLB.out (fun f hf => by have := hall f hf; unfold maxLen; omega)
      have HSo : Hid (∀ W, Below wr.heap.size wr W → Calls Tryz.prog 64 #[.slice ao L.length cap, .func (.func 65) #[] #[]] W (SortedP L W)) := fun W hW =>
        isSorted_any ao cap L W (by omega) (HLB.out.below hW (Nat.le_refl _))
      have HGo : Hid (∀ W, Below wr.heap.size wr W → W.ownsMap Tryz.prog 9 fileE wr.heap.size L.length (byD L) → Calls Tryz.prog 66 #[.slice ao L.length cap, .map (some wr.heap.size)] W fun e w' => e = .returned (.bool (thruF L L)) ∧ Below W.heap.size W w') := fun W hW ho => by
        have := someGo_any ao cap L wr.heap.size L.length (byD L) W (by omega) (HLB.out.below hW (Nat.le_refl _)) (fun f hf => by have := hall f hf; omega) ho
        rw [anyD] at this
        exact this
      have HU1 : Hid (adjF L → Maps.size (byD L) = L.length → upF L = true) := fun h1 h2 => up_of h1 ((size_byD L).2.1 h2)
      have HU2 : Hid (upF L = true → adjF L ∧ Maps.size (byD L) = L.length) := fun h => ⟨up_adj h, (size_byD L).2.2 (up_nodup h)⟩
      have hle := (size_byD L).1
      clear hb h0 hall HM HO HL HLB
      go_wp2_with fail
      refine HBy.out.mono ?_
      rintro e w1 ⟨rfl, hown1, hb1⟩
      have HO1 : Hid (w1.ownsMap Tryz.prog 9 fileE wr.heap.size L.length (byD L)) := hown1
      have HB1 : Hid (Below wr.heap.size wr w1) := hb1
      clear hown1 hb1
      go_wp2_with fail
      refine (HSo.out w1 HB1.out).mono ?_
      rintro e w2 ⟨b, rfl, hbi, hb2⟩
      have HB2 : Hid (Below wr.heap.size wr w2) := HB1.out.trans (hb2.mono HB1.out.size)
      have HO2 : Hid (w2.ownsMap Tryz.prog 9 fileE wr.heap.size L.length (byD L)) := ownsMap_heap HO1.out (hb2.block _ HO1.out.lt)
      have HI : Hid (b = true ↔ adjF L) := hbi
      have hln : ∀ ty, (Builtin.len_ #[94] ty #[.map (some wr.heap.size)]).run Tryz.prog w2 = .ok (.int .i64 (Maps.size (byD L) : Int)) w2 := fun ty => HO2.out.len Tryz.underlying94 ty
      have HGo2 : Hid (Calls Tryz.prog 66 #[.slice ao L.length cap, .map (some wr.heap.size)] w2 fun e w' => e = .returned (.bool (thruF L L)) ∧ Below w2.heap.size w2 w') := HGo.out w2 HB2.out HO2.out
      have HBw : Hid (Below w.heap.size w w2) := HB.out.trans (HB2.out.mono hsz)
      have hsz2 : w.heap.size ≤ w2.heap.size := HBw.out.size
      clear hbi hb2 HGo HSo HBy HO1 HB1 HB2 HO2 HB
      cases b with
      | false =>
        have HZ : Hid (chF L = 6) := by
          show _ = _
          rw [HV.out, if_neg]
          intro h
          rw [Bool.and_eq_true] at h
          exact absurd (HI.out.2 (HU2.out h.1).1) (by decide)
        go_wp2
        go_ret
        exact ⟨by rw [HZ.out]; rfl, HBw.out⟩
      | true =>
        by_cases hlt2 : Maps.size (byD L) < L.length
        · have HZ : Hid (chF L = 6) := by
            show _ = _
            rw [HV.out, if_neg]
            intro h
            rw [Bool.and_eq_true] at h
            have := (HU2.out h.1).2
            omega
          have hlt3 : (Maps.size (byD L) : Int) < (L.length : Int) := by omega
          clear hlt2
          go_wp2
          go_ret
          exact ⟨by rw [HZ.out]; rfl, HBw.out⟩
        · have hlt3 : ¬ (Maps.size (byD L) : Int) < (L.length : Int) := by omega
          have hup : upF L = true := HU1.out (HI.out.1 rfl) (by omega)
          obtain ⟨b, hb⟩ : ∃ b, thruF L L = b := ⟨_, rfl⟩
          have HV2 : Hid (chF L = if (!b) = true then 0 else 6) := by
            show _ = _
            rw [HV.out, hup, hb, Bool.true_and]
          rw [hb] at HGo2
          clear hlt2 hup hb HV HI
          cases b with
          | true =>
            go_wp2_with (first | (go_at_call 66; refine HGo2.out.mono ?_; rintro e w3 ⟨rfl, hb3⟩) | go_in)
            go_ret
            exact ⟨by rw [HV2.out]; rfl, HBw.out.trans (hb3.mono hsz2)⟩
          | false =>
            go_wp2_with (first | (go_at_call 66; refine HGo2.out.mono ?_; rintro e w3 ⟨rfl, hb3⟩) | go_in)
            go_ret
            exact ⟨by rw [HV2.out]; rfl, HBw.out.trans (hb3.mono hsz2)⟩

/-- Check, at whatever list. -/
theorem Check_any (ao : Option Addr) (cap : Nat) (L : List Fl) (w : World) (hl : IsFl w ao L) (hm : MaxIs w) :
    Calls Tryz.prog 40 #[.slice ao L.length cap] w fun e w' => e = .returned (.int .i64 (chF L)) ∧ Below w.heap.size w w' := by
  by_cases h : 60 < L.length
  · have e : chF L = 2 := by unfold chF; rw [if_pos h]
    rw [e]
    exact Check_many ao _ cap w h
  · exact Check_few ao cap L w (by omega) hl hm
end Go.Proofs.YtankaiopdbcndaaGreatDoor

/- Texts that are the same, as the laws ask it; Check where names are wrong. -/
namespace Go.Proofs.YtankaiopdbcndaaGreatDoor
open Go.RowKit Go.Shelf Go.Maps
theorem TxIn.drewN {w : World} {v : Value} {l : List ByteArray} (h : TxIn w v l) (n : Nat) : TxIn (w.drewN n) v l := h
theorem below_drw {B : Nat} {w w' : World} (h : Below B w w') (n : Nat) : Below B w (w'.drewN n) := ⟨h.os, h.tape, h.output, h.size, h.block⟩
/-- Two lists of texts: are they the same? -/
def smB (l m : List ByteArray) : Bool := decide (l = m)

set_option maxHeartbeats 4000000 in
set_option maxRecDepth 100000 in
theorem Same_yes (v u : Value) (l : List ByteArray) (w : World) (hx : TxIn w v l) (hy : TxIn w u l) :
    Calls Tryz.prog 32 #[v, u] w fun e w' => e = .returned (.bool true) ∧ Hid (Below w.heap.size w w') := by
  obtain ⟨_, hn, xa, xc, rfl, hx⟩ := hx
  obtain ⟨_, _, ya, yc, rfl, hy⟩ := hy
  have HX : Hid (l = [] ∨ ∃ g o, xa = some ⟨g, o, none⟩ ∧ g < w.heap.size ∧ ∀ j (hj : j < l.length), w.cell? ⟨g, o + j, none⟩ = some (.string l[j])) := hx
  have HY : Hid (l = [] ∨ ∃ g o, ya = some ⟨g, o, none⟩ ∧ g < w.heap.size ∧ ∀ j (hj : j < l.length), w.cell? ⟨g, o + j, none⟩ = some (.string l[j])) := hy
  have hn1 : (l.length : Int) ≤ 1048576 := by omega
  clear hx hy
  go_enter Tryz.func32, Tryz.ntmps32
  go_wp2
  go_loopw [5] (fun i wr => ∃ k m : Nat, k ≤ l.length ∧ i = .int .i64 k ∧ wr = w.drewN m) (fun i _ => l.length - (intOf i).toNat)
  case atStart => exact ⟨0, 0, Nat.zero_le _, rfl, rfl⟩
  case round =>
    obtain ⟨k, m, hk, rfl, rfl⟩ := hrel
    by_cases hlt : k < l.length
    · rcases HX.out with h | ⟨g, o, rfl, _, ca⟩
      · exfalso; rw [h] at hlt; exact absurd hlt (by simp)
      rcases HY.out with h | ⟨g2, o2, rfl, _, cb⟩
      · exfalso; rw [h] at hlt; exact absurd hlt (by simp)
      have a0 := ca k hlt
      have b0 := cb k hlt
      have hki : (k : Int) < (l.length : Int) := by omega
      clear ca cb
      generalize l[k] = x at a0 b0
      go_wp2
      go_region
      all_goals go_wp2
      all_goals exact ⟨⟨k + 1, m + 1, by omega, by go_num, rfl⟩, by simp [intOf]; omega⟩
    · obtain rfl : k = l.length := by omega
      have hki : ¬ (l.length : Int) < (l.length : Int) := by omega
      go_wp2
      go_ret
      exact ⟨rfl, below_drw (Below.refl _ w) m⟩

set_option maxHeartbeats 2000000 in
set_option maxRecDepth 100000 in
theorem textsAre_yes (er : Int) (v u : Value) (X Y : List ByteArray) (w : World) (hx : TxIn w v X) (hy : TxIn w u Y) (h1 : er ≠ 0 → X = []) (h2 : er = 0 → X = Y) :
    Calls Tryz.prog 15 #[v, .int .i64 er, .int .i64 er, u] w fun e w' => e = .returned (.bool true) ∧ Below w.heap.size w w' := by
  by_cases h0 : er = 0
  · obtain rfl := h2 h0
    subst h0
    have HS := Same_yes v u X w hx hy
    clear hx hy h1 h2
    go_enter Tryz.func15, Tryz.ntmps15
    go_wp2_with fail
    refine HS.mono ?_
    rintro e w1 ⟨rfl, H1⟩
    go_wp2
    go_ret
    exact ⟨rfl, H1.out⟩
  · obtain rfl := h1 h0
    have HS := Same_yes v (.slice none 0 0) [] w hx ⟨⟨none, 0, 0, rfl⟩, Nat.zero_le _, none, 0, rfl, .inl rfl⟩
    have h0' : (er != 0) = true := by simpa using h0
    clear hx hy h1 h2 h0
    go_enter Tryz.func15, Tryz.ntmps15
    go_wp2_with fail
    refine HS.mono ?_
    rintro e w1 ⟨rfl, H1⟩
    go_wp2
    go_ret
    exact ⟨rfl, H1.out⟩

set_option maxHeartbeats 2000000 in
set_option maxRecDepth 100000 in
theorem Check_bad (ao : Option Addr) (cap : Nat) (L : List Tg) (w : World) (hl : IsTg w ao L) (hn : L.length ≤ 1048576) (hs : ∀ t ∈ L, ∀ y ∈ t.ns, y.size ≤ maxLen) (hm : MaxIs w) (hc : ckN L ≠ 0) :
    Calls Tryz.prog 27 #[.slice ao L.length cap, .slice none 0 0] w fun e w' => e = .returned (.tuple #[.string ⟨#[]⟩, .int .i64 (ckN L)]) ∧ Hid (Below w.heap.size w w') := by
  have HT : Hid (Calls Tryz.prog 40 #[.slice none 0 0] w fun e w' => e = .returned (.int .i64 0) ∧ Hid (Below w.heap.size w w')) := (Check_any none 0 [] w (.inl rfl) hm).mono fun e w' h => ⟨h.1, h.2⟩
  have HN : Hid (∀ w1, Below w.heap.size w w1 → Calls Tryz.prog 29 #[.slice ao L.length cap] w1 fun e w' => ∃ mo, e = .returned (.tuple #[.map mo, .int .i64 (ckN L)]) ∧ Hid (Below w.heap.size w w')) := fun w1 hb => (needsOf_any ao cap L w1 (hl.below hb (Nat.le_refl _)) hn hs).mono fun e w' ⟨mo, q1, _, _, q4⟩ => ⟨mo, q1, hb.trans (q4.mono hb.size)⟩
  clear hl hn hs hm
  generalize L.length = ln at *
  generalize ckN L = c at *
  have hc1 : ¬(c : Int) = 0 := hc
  go_enter Tryz.func27, Tryz.ntmps27
  go_wp2_with (first
    | (go_at_call 40; refine HT.out.mono ?_; rintro e w1 ⟨rfl, H1⟩; have H2 := HN.out w1 H1.out)
    | (go_at_call 29; refine H2.mono ?_; rintro e w2 ⟨mo, rfl, H3⟩)
    | go_in)
  go_ret2
  exact ⟨rfl, H3⟩
end Go.Proofs.YtankaiopdbcndaaGreatDoor

/- Targets that came in as an argument, of little bulk. -/
namespace Go.Proofs.YtankaiopdbcndaaGreatDoor
open Go.ChangeShapes Go.WideShapes Go.ChangeAt Go.RowKit Go.Shelf Go.Joins
/-- What holds of targets that came in. -/
structure Fine (w : World) (ao : Option Addr) (L : List Tg) : Prop where
  is : IsTg w ao L
  len : L.length ≤ 1048576
  sz : ∀ t ∈ L, ∀ y ∈ t.ns, y.size ≤ maxLen
  nm : ∀ t ∈ L, (tnm t).length ≤ maxLen
  sum : (L.map fun t => t.ns.length).sum ≤ 1048576
theorem Fine.below {w w' : World} {ao : Option Addr} {L : List Tg} (h : Fine w ao L) (hb : Below w.heap.size w w') : Fine w' ao L := ⟨h.is.below hb (Nat.le_refl _), h.len, h.sz, h.nm, h.sum⟩
def totG : List ByteArray → Nat
  | [] => 0
  | s :: l => s.size + 1 + totG l
theorem totG_len (ss : List ByteArray) : ss.length ≤ totG ss := by
  induction ss with
  | nil => simp [totG]
  | cons s l ih => simp only [totG, List.length_cons]; omega
theorem totG_mem {ss : List ByteArray} {s : ByteArray} (h : s ∈ ss) : s.size ≤ totG ss := by
  induction ss with
  | nil => cases h
  | cons a l ih =>
    simp only [totG]
    rcases List.mem_cons.1 h with rfl | h
    · omega
    · have := ih h; omega
theorem totG_strs {H : Type} (ss : List ByteArray) : Rows.uptoBulkAll (Go.ChangeShapes.strs (H := H) ss) = totG ss := by
  induction ss with
  | nil => simp [Go.ChangeShapes.strs, Rows.uptoBulkAll, totG]
  | cons s l ih =>
    have e : Go.ChangeShapes.strs (H := H) (s :: l) = .lit (.string s.data.toList) :: Go.ChangeShapes.strs l := rfl
    have e2 : s.data.toList.length = s.size := by simp
    rw [e]
    simp only [Rows.uptoBulkAll, Rows.uptoBulk, totG, ih, e2]
theorem bulkG_sum {H : Type} : ∀ (a : List Nat) (ds : List (DataW H)), a.length = ds.length → (∀ i (h1 : i < a.length) (h2 : i < ds.length), a[i] ≤ Rows.uptoBulk ds[i]) → a.sum ≤ Rows.uptoBulkAll ds
  | [], _, _, _ => Nat.zero_le _
  | x :: a, [], h, _ => by simp at h
  | x :: a, d :: ds, h, hp => by
    have h0 := hp 0 (by simp) (by simp)
    have ih := bulkG_sum a ds (by simpa using h) fun i h1 h2 => hp (i + 1) (by simp; omega) (by simp; omega)
    simp only [Rows.uptoBulkAll, List.sum_cons]
    simp at h0
    omega
theorem bulkG_mem {H : Type} : ∀ (ds : List (DataW H)) (i : Nat) (h : i < ds.length), Rows.uptoBulk ds[i] ≤ Rows.uptoBulkAll ds
  | d :: ds, 0, _ => by simp only [Rows.uptoBulkAll, List.getElem_cons_zero]; omega
  | d :: ds, i + 1, h => by
    have := bulkG_mem ds i (by simpa using h)
    simp only [Rows.uptoBulkAll, List.getElem_cons_succ]
    omega
theorem bulkG_len {H : Type} (l : List (DataW H)) : l.length ≤ Rows.uptoBulkAll l := by
  induction l with
  | nil => exact Nat.zero_le _
  | cons d r ih =>
    have h1 : 1 ≤ Rows.uptoBulk d := by
      cases d with
      | lit x => cases x <;> simp [Rows.uptoBulk]
      | _ => simp [Rows.uptoBulk]
    simp only [Rows.uptoBulkAll, List.length_cons]
    omega

set_option maxRecDepth 100000 in
/-- A slice of texts that stands in a field. -/
theorem fieldG {H : Type} {enc : TypeId × Value → H} {W : World} {v : Value} {n : Nat} {y : DataW H × List MemPlace}
    (hf : DataW.trod enc Tryz.prog W 0 (fun _ => true) true n 23 [v] = some y) (hr : Rows.uptoBulk y.1 ≤ 1048576) : ∃ ss, TxIn W v ss ∧ (∀ s ∈ ss, s.size ≤ maxLen) ∧ ss.length + 1 ≤ Rows.uptoBulk y.1 := by
  rcases open_strings Tryz.underlying23 Tryz.underlying9 (by kernel_rfl) hf with ⟨hcs, hx⟩ | ⟨x, l, c, ss, hcs, _, hl, hm, hz, hx, hcell, hws⟩
  · obtain rfl : v = .slice none 0 0 := by simpa using hcs
    exact ⟨[], ⟨⟨none, 0, 0, rfl⟩, Nat.zero_le _, none, 0, rfl, .inl rfl⟩, (fun s hs => by cases hs), by rw [hx]; simp [Rows.uptoBulk]⟩
  · obtain rfl : v = .slice (some x) l c := by simpa using hcs
    have hz' : ss.length = c := by simpa using hz
    have hlen : (ss.take l).length = l := by rw [List.length_take]; omega
    have hT : totG (ss.take l) + 1 ≤ Rows.uptoBulk y.1 := by
      rw [hx]
      simp only [Rows.uptoBulk, totG_strs]
      omega
    have hb := totG_len (ss.take l)
    refine ⟨ss.take l, ⟨⟨_, _, _, rfl⟩, by omega, some x, c, by rw [hlen], ?_⟩, fun s hs => hws s (List.mem_of_mem_take hs), by omega⟩
    by_cases h0 : l = 0
    · exact .inl (by rw [h0]; rfl)
    · obtain ⟨b, off, spot⟩ := x
      have hc0 := hcell 0 (by omega)
      have hspot : spot = none := by simpa [Addr.add] using World.cell?_spot hc0
      subst hspot
      refine .inr ⟨b, off, rfl, by simpa [Addr.add] using World.block_lt_of_cell? W _ hc0, fun j hj => ?_⟩
      rw [hlen] at hj
      rw [← Go.WideShapes.add_plain, hcell j (by omega)]
      simp [List.getD, List.getElem?_eq_getElem (show j < ss.length by omega)]
theorem cellsTg : Tryz.prog.cellsOf 38 = 5 := by kernel_rfl

set_option maxRecDepth 100000 in
theorem arg_target {H : Type} {enc : TypeId × Value → H} {W : World} {cs : List Value} {n : Nat} {y : DataW H × List MemPlace} (hl : cs.length = 5)
    (h : DataW.trod enc Tryz.prog W 0 (fun _ => true) true n 38 cs = some y) (hr : Rows.uptoBulk y.1 ≤ 1048576) : ∃ t : Tg, cs = tgC t ∧ (TxIn W t.vs t.ss ∧ TxIn W t.vn t.ns ∧ TxIn W t.vo t.os ∧ TxIn W t.vc t.cs) ∧ t.nm.size ≤ 1048576 ∧ t.nm.size ≤ maxLen ∧ (∀ s ∈ t.ns, s.size ≤ maxLen) ∧ t.ns.length ≤ Rows.uptoBulk y.1 := by
  match cs, hl with
  | [c0, c1, c2, c3, c4], _ =>
    obtain ⟨xs, m, _, rfl, _, hlen, hf⟩ := DataW.trod_struct Tryz.underlying38 h
    match xs, hlen with
    | [y0, y1, y2, y3, y4], _ =>
      have k1 : Tryz.prog.cellsOf 9 = 1 := by kernel_rfl
      have k2 : Tryz.prog.cellsOf 23 = 1 := by kernel_rfl
      have h0 := hf 0 _ rfl
      have h1 := hf 1 _ rfl
      have h2 := hf 2 _ rfl
      have h3 := hf 3 _ rfl
      have h4 := hf 4 _ rfl
      simp [k1, k2] at h0 h1 h2 h3 h4
      simp only [Rows.uptoBulk, Rows.uptoBulkAll, List.map_cons, List.map_nil] at hr ⊢
      obtain ⟨s, e0, e1, z0⟩ := DataW.trod_string Tryz.underlying9 h0
      simp at e0
      subst e0
      have hs0 : s.size ≤ 1048576 := by
        have e2 : s.data.toList.length = s.size := by simp
        rw [e1] at hr
        simp only [Rows.uptoBulk, e2] at hr
        omega
      obtain ⟨s1, t1, q1, r1⟩ := fieldG h1 (by omega)
      obtain ⟨s2, t2, q2, r2⟩ := fieldG h2 (by omega)
      obtain ⟨s3, t3, q3, r3⟩ := fieldG h3 (by omega)
      obtain ⟨s4, t4, q4, r4⟩ := fieldG h4 (by omega)
      exact ⟨⟨s, c1, c2, c3, c4, s1, s2, s3, s4⟩, rfl, ⟨t1, t2, t3, t4⟩, hs0, z0, q2, by show s2.length ≤ _; omega⟩

set_option maxRecDepth 100000 in
theorem arg_targets {H : Type} {enc : TypeId × Value → H} {W : World} {v : Value} {d : DataW H} {p : List MemPlace} {base : Nat}
    (hv : Value.okWide Tryz.prog W .any base 22 v) (h : DataW.Trod enc Tryz.prog W 0 (fun _ => true) true 22 v d p) (hr : Rows.uptoBulk d ≤ 1048576) : ∃ (L : List Tg) (ao : Option Addr) (cap : Nat), v = .slice ao L.length cap ∧ Fine W ao L ∧ L.length ≤ cap ∧ (ao = none → cap = 0) := by
  obtain ⟨a, len, cap, rfl⟩ := okWide_slice Tryz.underlying22 hv
  obtain ⟨fuel, hf⟩ := h
  rcases DataW.trod_slice Tryz.underlying22 hf with ⟨hcs, _⟩ | ⟨x, l, c, elems, rest, n, _, hcs, hx, _, hlc, _, hlen, hel, _, _⟩
  · simp [Value.cells] at hcs
    obtain ⟨rfl, rfl, rfl⟩ := hcs
    exact ⟨[], none, 0, rfl, ⟨⟨.inl rfl, (fun t ht => by cases ht), (fun t ht => by cases ht)⟩, Nat.zero_le _, (fun t ht => by cases ht), (fun t ht => by cases ht), Nat.zero_le _⟩, Nat.le_refl _, fun _ => rfl⟩
  · simp [Value.cells] at hcs
    obtain ⟨rfl, rfl, rfl⟩ := hcs
    have hd : d = .slice (elems.map (·.1)) (rest.map (·.1)) := congrArg Prod.fst hx
    have hbk : Rows.uptoBulkAll (elems.map (·.1)) ≤ 1048576 := by
      rw [hd] at hr
      simp only [Rows.uptoBulk] at hr
      omega
    have hb : len ≤ 1048576 := by
      have := bulkG_len (elems.map (·.1))
      rw [List.length_map] at this
      omega
    have each : ∀ i : Fin len, ∃ t : Tg, (TxIn W t.vs t.ss ∧ TxIn W t.vn t.ns ∧ TxIn W t.vo t.os ∧ TxIn W t.vc t.cs) ∧ t.nm.size ≤ 1048576 ∧ t.nm.size ≤ maxLen ∧ (∀ s ∈ t.ns, s.size ≤ maxLen) ∧ t.ns.length ≤ Rows.uptoBulk (elems[i.val]'(by omega)).1 ∧
        W.cell? (x.add (i.val * 5)) = some (.string t.nm) ∧ W.cell? ((x.add (i.val * 5)).add 1) = some t.vs ∧ W.cell? ((x.add (i.val * 5)).add 2) = some t.vn ∧ W.cell? ((x.add (i.val * 5)).add 3) = some t.vo ∧ W.cell? ((x.add (i.val * 5)).add 4) = some t.vc := by
      intro i
      have hi : i.val < elems.length := by omega
      have h1 := hel i.val i.isLt
      rw [cellsTg, List.getElem?_eq_getElem hi, Option.bind_eq_some_iff] at h1
      obtain ⟨cs', hc, hy⟩ := h1
      have hs := World.cells?_some hc
      have hbi := bulkG_mem (elems.map (·.1)) i.val (by simpa using hi)
      rw [List.getElem_map] at hbi
      obtain ⟨t, rfl, q1, q2, q3, q4, q5⟩ := arg_target (by simpa using hs.2.1) hy (by omega)
      refine ⟨t, q1, q2, q3, q4, q5, ?_, ?_, ?_, ?_, ?_⟩
      · have := hs.2.2 0 (by omega); simpa [Addr.add, tgC] using this
      · have := hs.2.2 1 (by omega); simpa [tgC] using this
      · have := hs.2.2 2 (by omega); simpa [tgC] using this
      · have := hs.2.2 3 (by omega); simpa [tgC] using this
      · have := hs.2.2 4 (by omega); simpa [tgC] using this
    obtain ⟨f, hf2⟩ := Classical.axiomOfChoice each
    have hlen2 : (List.ofFn f).length = len := by simp
    have hmem : ∀ t ∈ List.ofFn f, ∃ i, t = f i := fun t ht => by
      obtain ⟨i, hi⟩ := List.mem_ofFn.1 ht
      exact ⟨i, hi.symm⟩
    refine ⟨List.ofFn f, some x, cap, by rw [hlen2], ⟨⟨?_, fun t ht => ?_, fun t ht => ?_⟩, by rw [hlen2]; exact hb, fun t ht => ?_, fun t ht => ?_, ?_⟩, by rw [hlen2]; exact hlc, fun e => by cases e⟩
    · by_cases h0 : len = 0
      · exact .inl (List.length_eq_zero_iff.1 (hlen2.trans h0))
      · obtain ⟨b, off, spot⟩ := x
        have c0 := (hf2 ⟨0, by omega⟩).2.2.2.2.2.1
        have hspot : spot = none := by simpa [Addr.add] using World.cell?_spot c0
        subst hspot
        refine .inr ⟨b, off, rfl, by simpa [Addr.add] using World.block_lt_of_cell? W _ c0, fun j hj => ?_⟩
        rw [hlen2] at hj
        rw [List.getElem_ofFn]
        have k := (hf2 ⟨j, hj⟩).2.2.2.2.2
        simp only [addr_add] at k
        exact k
    · obtain ⟨i, rfl⟩ := hmem t ht
      exact (hf2 i).1
    · obtain ⟨i, rfl⟩ := hmem t ht
      exact (hf2 i).2.1
    · obtain ⟨i, rfl⟩ := hmem t ht
      exact (hf2 i).2.2.2.1
    · obtain ⟨i, rfl⟩ := hmem t ht
      have := (hf2 i).2.2.1
      simpa [tnm] using this
    · refine Nat.le_trans (bulkG_sum _ (elems.map (·.1)) (by simp [hlen]) fun i h1 h2 => ?_) hbk
      have hi : i < len := by simpa using h1
      have k := (hf2 ⟨i, hi⟩).2.2.2.2.1
      simpa using k
end Go.Proofs.YtankaiopdbcndaaGreatDoor

/- The document's own: where a target stands; whether a text is among others. -/
namespace Go.Proofs.YtankaiopdbcndaaGreatDoor
open Go.RowKit Go.Shelf Go.Maps
theorem bq_ext {a b : ByteArray} (h : a.toList = b.toList) : a = b := by
  rw [Lib.toList_data, Lib.toList_data] at h
  cases a; cases b
  simp at h
  rw [h]
theorem tl_ext {a b : ByteArray} (h : tl a = tl b) : a = b := bq_ext (by rw [Lib.toList_data, Lib.toList_data]; exact h)
/-- Where the first target of a name stands; or minus one. -/
def tgI (L : List Tg) (k : List UInt8) : Int := match L.findIdx? (fun t => decide (tnm t = k)) with
  | some j => (j : Int)
  | none => -1
theorem tgI_at {L : List Tg} {k : List UInt8} (j : Nat) (hj : j < L.length) (h1 : tnm L[j] = k) (h2 : ∀ i (hi : i < j), tnm L[i] ≠ k) : tgI L k = (j : Int) := by
  have : L.findIdx? (fun t => decide (tnm t = k)) = some j := List.findIdx?_eq_some_iff_getElem.2 ⟨hj, by simpa using h1, fun i hi => by simpa using h2 i hi⟩
  rw [tgI, this]
theorem tgI_no {L : List Tg} {k : List UInt8} (h : ∀ t ∈ L, tnm t ≠ k) : tgI L k = -1 := by
  have : L.findIdx? (fun t => decide (tnm t = k)) = none := List.findIdx?_eq_none_iff.2 fun t ht => by simpa using h t ht
  rw [tgI, this]
theorem tgI_cases (L : List Tg) (k : List UInt8) : (tgI L k = -1 ∧ k ∉ L.map tnm) ∨ ∃ j, ∃ (hj : j < L.length), tgI L k = (j : Int) ∧ tnm L[j] = k ∧ ∀ i (hi : i < j), tnm L[i] ≠ k := by
  cases e : L.findIdx? (fun t => decide (tnm t = k)) with
  | none =>
    have h := List.findIdx?_eq_none_iff.1 e
    refine .inl ⟨by rw [tgI, e], fun hm => ?_⟩
    obtain ⟨t, ht, he⟩ := List.mem_map.1 hm
    have := h t ht
    simp [he] at this
  | some j =>
    obtain ⟨h1, h2, h3⟩ := List.findIdx?_eq_some_iff_getElem.1 e
    exact .inr ⟨j, h1, by rw [tgI, e], by simpa using h2, fun i hi => by simpa using h3 i hi⟩

set_option maxHeartbeats 2000000 in
set_option maxRecDepth 100000 in
theorem TargetAt_any (ao : Option Addr) (cap : Nat) (L : List Tg) (x : ByteArray) (w : World) (hl : IsTg w ao L) (hn : L.length ≤ 1048576) :
    Calls Tryz.prog 17 #[.slice ao L.length cap, .string x] w fun e w' => e = .returned (.int .i64 (tgI L (tl x))) ∧ w' = w := by
  have HL : Hid (IsTg w ao L) := hl
  have hn1 : (L.length : Int) ≤ 1048576 := by omega
  clear hl
  go_enter Tryz.func17, Tryz.ntmps17
  go_wp2
  go_loop [5] (fun i => ∃ k : Nat, k ≤ L.length ∧ i = .int .i64 (k : Int) ∧ Hid (∀ j, (hj : j < L.length) → j < k → tnm L[j] ≠ tl x)) (fun i => L.length - (intOf i).toNat)
  case atStart =>
    refine ⟨0, Nat.zero_le _, rfl, ?_⟩
    exact (fun j hj h => absurd h (Nat.not_lt_zero _) : ∀ j, (hj : j < L.length) → j < 0 → tnm L[j] ≠ tl x)
  case round =>
    obtain ⟨k, hk, rfl, HN⟩ := hrel
    by_cases hlt : k < L.length
    · have hki : (k : Int) < (L.length : Int) := by omega
      rcases HL.out.at_ with h | ⟨g, o, rfl, hg, hcc⟩
      · exfalso; rw [h] at hlt; exact absurd hlt (by simp)
      obtain ⟨c0, _⟩ := hcc k hlt
      by_cases he : L[k].nm = x
      · have hq : (L[k].nm.toList == x.toList) = true := by rw [he]; simp
        have HR : Hid (tgI L (tl x) = (k : Int)) := tgI_at k hlt (by rw [← he]; rfl) fun i hi => HN.out i (by omega) hi
        clear he hcc HN
        generalize L[k].nm = y at c0 hq
        go_wp2
        go_ret
        exact ⟨by rw [HR.out]; rfl, rfl⟩
      · have hq : (L[k].nm.toList == x.toList) = false := by
          rw [beq_eq_false_iff_ne]
          exact fun h => he (bq_ext h)
        have HN2 : Hid (∀ j, (hj : j < L.length) → j < k + 1 → tnm L[j] ≠ tl x) := fun j hj hjk => by
          rcases (show j < k ∨ j = k by omega) with e | e
          · exact HN.out j hj e
          · subst e; exact fun h => he (tl_ext h)
        clear he hcc HN
        generalize L[k].nm = y at c0 hq
        go_wp2
        exact ⟨⟨k + 1, by omega, by go_num, HN2⟩, by simp [intOf]; omega⟩
    · obtain rfl : k = L.length := by omega
      have HR : Hid (tgI L (tl x) = -1) := tgI_no fun t ht => by
        obtain ⟨j, hj, rfl⟩ := List.mem_iff_getElem.1 ht
        exact HN.out j hj hj
      clear HN
      go_wp2
      go_ret
      exact ⟨by rw [HR.out]; rfl, rfl⟩

set_option maxHeartbeats 2000000 in
set_option maxRecDepth 100000 in
theorem HasText_any (v : Value) (xs : List ByteArray) (s : ByteArray) (w : World) (h : TxIn w v xs) (b : Bool) (hb : b = true ↔ s ∈ xs) :
    Calls Tryz.prog 18 #[v, .string s] w fun e w' => e = .returned (.bool b) ∧ w' = w := by
  obtain ⟨_, hn, ao, c, rfl, hmem⟩ := h
  have HB : Hid (b = true ↔ s ∈ xs) := hb
  have HM : Hid (xs = [] ∨ ∃ g o, ao = some ⟨g, o, none⟩ ∧ g < w.heap.size ∧ ∀ j (hj : j < xs.length), w.cell? ⟨g, o + j, none⟩ = some (.string xs[j])) := hmem
  have hn1 : (xs.length : Int) ≤ 1048576 := by omega
  clear hb hmem hn
  go_enter Tryz.func18, Tryz.ntmps18
  go_wp2
  go_loop [5] (fun i => ∃ k : Nat, k ≤ xs.length ∧ i = .int .i64 (k : Int) ∧ Hid (s ∉ xs.take k)) (fun i => xs.length - (intOf i).toNat)
  case atStart => exact ⟨0, Nat.zero_le _, rfl, by show _ ∉ _; simp⟩
  case round =>
    obtain ⟨k, hk, rfl, HK⟩ := hrel
    by_cases hlt : k < xs.length
    · have hki : (k : Int) < (xs.length : Int) := by omega
      rcases HM.out with h | ⟨g, o, rfl, hg, hcc⟩
      · exfalso; rw [h] at hlt; exact absurd hlt (by simp)
      have c1 := hcc k hlt
      by_cases he : xs[k] = s
      · have hq : (xs[k].toList == s.toList) = true := by rw [he]; simp
        have hbt : b = true := HB.out.2 (by rw [← he]; exact List.getElem_mem hlt)
        subst hbt
        clear he HB hcc
        generalize xs[k] = x at c1 hq
        go_wp2
        go_ret
        exact ⟨rfl, rfl⟩
      · have hq : (xs[k].toList == s.toList) = false := by
          rw [beq_eq_false_iff_ne]
          exact fun h => he (bq_ext h)
        have HN : Hid (s ∉ xs.take (k + 1)) := by
          show _ ∉ _
          rw [List.take_succ_eq_append_getElem hlt, List.mem_append]
          rintro (h | h)
          · exact HK.out h
          · simp at h; exact he h.symm
        clear he hcc
        generalize xs[k] = x at c1 hq
        go_wp2
        exact ⟨⟨k + 1, by omega, by go_num, HN⟩, by simp [intOf]; omega⟩
    · obtain rfl : k = xs.length := by omega
      have hbf : b = false := by
        cases hb : b with
        | false => rfl
        | true => exact absurd (HB.out.1 hb) (by have := HK.out; rwa [List.take_length] at this)
      subst hbf
      clear HB HK
      go_wp2
      go_ret
      exact ⟨rfl, rfl⟩
end Go.Proofs.YtankaiopdbcndaaGreatDoor

/- The document's own look at names. -/
namespace Go.Proofs.YtankaiopdbcndaaGreatDoor
open Go.RowKit Go.Shelf Go.Maps
theorem tgI_lt {L : List Tg} {i : Nat} (hi : i < L.length) (h : tgI L (tnm L[i]) < (i : Int)) : ¬ (L.map tnm).Nodup := fun hn => by
  rcases tgI_cases L (tnm L[i]) with ⟨_, h2⟩ | ⟨j, hj, h1, h2, _⟩
  · exact h2 (List.mem_map.2 ⟨_, List.getElem_mem hi, rfl⟩)
  · rw [h1] at h
    have := List.pairwise_iff_getElem.1 (List.nodup_iff_pairwise_ne.1 hn) j i (by simpa using hj) (by simpa using hi) (by omega)
    simp at this
    exact this h2
theorem tgI_nodup {L : List Tg} (h : ∀ i (hi : i < L.length), ¬ tgI L (tnm L[i]) < (i : Int)) : (L.map tnm).Nodup := by
  rw [List.nodup_iff_pairwise_ne, List.pairwise_iff_getElem]
  intro j i hj hi hji e
  have hi2 : i < L.length := by simpa using hi
  have hj2 : j < L.length := by simpa using hj
  simp at e
  refine h i hi2 ?_
  rcases tgI_cases L (tnm L[i]) with ⟨h1, _⟩ | ⟨m, hm, h1, h2, h3⟩
  · omega
  · rw [h1]
    apply Classical.byContradiction
    intro hge
    exact h3 j (by omega) e
theorem ck_many {L : List Tg} (h : 60 < L.length) : ckN L = 2 := by unfold ckN; rw [if_pos h]
theorem ck_form {L : List Tg} (h : ¬ 60 < L.length) (i : Nat) (hi : i < L.length) (hx : nameOk L[i].nm = false) : ckN L = 1 := by
  unfold ckN
  rw [if_neg h, if_pos (List.any_eq_true.2 ⟨L[i], List.getElem_mem hi, by rw [hx]; rfl⟩)]
theorem ck_named {L : List Tg} (h : ∀ i (hi : i < L.length), nameOk L[i].nm = true) : ¬ (L.any fun t => !nameOk t.nm) = true := fun hh => by
  obtain ⟨t, ht, hx⟩ := List.any_eq_true.1 hh
  obtain ⟨i, hi, rfl⟩ := List.mem_iff_getElem.1 ht
  rw [h i hi] at hx
  cases hx
theorem ck_twice {L : List Tg} (h : ¬ 60 < L.length) (hm : ∀ i (hi : i < L.length), nameOk L[i].nm = true) (hn : ¬ (L.map tnm).Nodup) : ckN L = 6 := by
  unfold ckN
  rw [if_neg h, if_neg (ck_named hm), if_neg hn]
theorem ck_none {L : List Tg} (h : ¬ 60 < L.length) (hm : ∀ i (hi : i < L.length), nameOk L[i].nm = true) (hn : (L.map tnm).Nodup) (t : Tg) (ht : t ∈ L) (y : ByteArray) (hy : y ∈ t.ns) (hx : tgI L (tl y) < 0) : ckN L = 5 := by
  unfold ckN
  rw [if_neg h, if_neg (ck_named hm), if_pos hn, if_pos]
  refine List.any_eq_true.2 ⟨t, ht, List.any_eq_true.2 ⟨y, hy, ?_⟩⟩
  rcases tgI_cases L (tl y) with ⟨_, h2⟩ | ⟨j, hj, h1, _⟩
  · have : Maps.has (ndD L) (.string y.data.toList) = false := Bool.eq_false_iff.2 fun e => h2 (has_mem.1 e)
    rw [this]
    rfl
  · omega
theorem ck_fine {L : List Tg} (h : ¬ 60 < L.length) (hm : ∀ i (hi : i < L.length), nameOk L[i].nm = true) (hn : (L.map tnm).Nodup) (hx : ∀ t ∈ L, ∀ y ∈ t.ns, ¬ tgI L (tl y) < 0) : ckN L = 0 := by
  refine ckN_ok.2 ⟨by omega, fun t ht => ?_, hn, fun t ht y hy => ?_⟩
  · obtain ⟨i, hi, rfl⟩ := List.mem_iff_getElem.1 ht
    exact hm i hi
  · rcases tgI_cases L (tl y) with ⟨h1, _⟩ | ⟨j, hj, _, h2, _⟩
    · exact absurd (by rw [h1]; decide) (hx t ht y hy)
    · rw [← h2]; exact List.mem_map.2 ⟨_, List.getElem_mem hj, rfl⟩

set_option maxHeartbeats 4000000 in
set_option maxRecDepth 100000 in
theorem CheckNames_any (ao : Option Addr) (cap : Nat) (L : List Tg) (w : World) (h : Fine w ao L) :
    Calls Tryz.prog 10 #[.slice ao L.length cap] w fun e w' => e = .returned (.int .i64 (ckN L)) ∧ w' = w := by
  have hln := h.len
  have hli : (L.length : Int) ≤ 1048576 := by omega
  have HF : Hid (Fine w ao L) := h
  have HT : Hid (∀ x, Calls Tryz.prog 17 #[.slice ao L.length cap, .string x] w fun e w' => e = .returned (.int .i64 (tgI L (tl x))) ∧ w' = w) := fun x => TargetAt_any ao cap L x w h.is h.len
  have HI : Hid (∀ i (hi : i < L.length), Calls Tryz.prog 31 #[.string L[i].nm] w fun e w' => e = .returned (.bool (nameOk L[i].nm)) ∧ w' = w) := fun i hi => RIsName_any L[i].nm w (by have := h.nm L[i] (List.getElem_mem hi); simpa [tnm] using this)
  clear h
  by_cases h60 : 60 < L.length
  · have hk : (60 : Int) < (L.length : Int) := by omega
    have HR : Hid (ckN L = 2) := ck_many h60
    clear h60 HF HT HI
    go_enter Tryz.func10, Tryz.ntmps10
    go_wp2
    go_ret
    exact ⟨by rw [HR.out]; rfl, rfl⟩
  · have hk : ¬ (60 : Int) < (L.length : Int) := by omega
    go_enter Tryz.func10, Tryz.ntmps10
    go_wp2
    go_loop [3] (fun u => ∃ k : Nat, k ≤ L.length ∧ u = .int .i64 (k : Int) ∧ Hid (∀ i (hi : i < L.length), i < k → nameOk L[i].nm = true)) (fun u => L.length - (intOf u).toNat)
    case atStart =>
      refine ⟨0, Nat.zero_le _, rfl, ?_⟩
      exact (fun i hi h => absurd h (Nat.not_lt_zero _) : ∀ i (hi : i < L.length), i < 0 → nameOk L[i].nm = true)
    case round =>
      obtain ⟨k, hkl, rfl, HN⟩ := hrel
      by_cases hlt : k < L.length
      · have hki : (k : Int) < (L.length : Int) := by omega
        obtain ⟨g, o, rfl, hg, hat⟩ := HF.out.is.at_.resolve_left (fun e => by rw [e] at hlt; exact absurd hlt (by simp))
        obtain ⟨c0, _⟩ := hat k hlt
        have HC := HI.out k hlt
        have HR : Hid (nameOk L[k].nm = false → ckN L = 1) := ck_form h60 k hlt
        have HN2 : Hid (nameOk L[k].nm = true → ∀ i (hi : i < L.length), i < k + 1 → nameOk L[i].nm = true) := fun hx i hi hik => by
          rcases (show i < k ∨ i = k by omega) with e | e
          · exact HN.out i hi e
          · subst e; exact hx
        generalize L[k].nm = y at *
        clear hat HN
        cases hb : nameOk y with
        | true =>
          have HN3 : Hid (∀ i (hi : i < L.length), i < k + 1 → nameOk L[i].nm = true) := HN2.out hb
          rw [hb] at HC
          clear HN2 HR hb
          go_wp2_with (first | (go_at_call 31; refine HC.mono ?_; rintro e wx ⟨rfl, rfl⟩) | go_in)
          exact ⟨⟨k + 1, by omega, by go_num, HN3⟩, by simp [intOf]; omega⟩
        | false =>
          have HR2 : Hid (ckN L = 1) := HR.out hb
          rw [hb] at HC
          clear HN2 HR hb
          go_wp2_with (first | (go_at_call 31; refine HC.mono ?_; rintro e wx ⟨rfl, rfl⟩) | go_in)
          go_ret
          exact ⟨by rw [HR2.out]; rfl, rfl⟩
      · obtain rfl : k = L.length := by omega
        have HM : Hid (∀ i (hi : i < L.length), nameOk L[i].nm = true) := fun i hi => HN.out i hi hi
        clear HN HI
        go_wp2
        go_loop [4] (fun u => ∃ k : Nat, k ≤ L.length ∧ u = .int .i64 (k : Int) ∧ Hid (∀ i (hi : i < L.length), i < k → (i : Int) ≤ tgI L (tnm L[i]))) (fun u => L.length - (intOf u).toNat)
        case atStart =>
          refine ⟨0, Nat.zero_le _, rfl, ?_⟩
          exact (fun i hi h => absurd h (Nat.not_lt_zero _) : ∀ i (hi : i < L.length), i < 0 → (i : Int) ≤ tgI L (tnm L[i]))
        case round =>
          obtain ⟨k, hkl, rfl, HN⟩ := hrel
          by_cases hlt : k < L.length
          · have hki : (k : Int) < (L.length : Int) := by omega
            obtain ⟨g, o, rfl, hg, hat⟩ := HF.out.is.at_.resolve_left (fun e => by rw [e] at hlt; exact absurd hlt (by simp))
            obtain ⟨c0, _⟩ := hat k hlt
            have HC := HT.out L[k].nm
            have HR : Hid (tgI L (tl L[k].nm) < (k : Int) → ckN L = 6) := fun hx => ck_twice h60 HM.out (tgI_lt hlt hx)
            have HN2 : Hid ((k : Int) ≤ tgI L (tl L[k].nm) → ∀ i (hi : i < L.length), i < k + 1 → (i : Int) ≤ tgI L (tnm L[i])) := fun hx i hi hik => by
              rcases (show i < k ∨ i = k by omega) with e | e
              · exact HN.out i hi e
              · subst e; exact hx
            generalize L[k].nm = y at *
            generalize tgI L (tl y) = z at *
            clear hat HN
            by_cases hb : z < (k : Int)
            · have HR2 : Hid (ckN L = 6) := HR.out hb
              clear HN2 HR
              go_wp2_with (first | (go_at_call 17; refine HC.mono ?_; rintro e wx ⟨rfl, rfl⟩) | go_in)
              go_ret
              exact ⟨by rw [HR2.out]; rfl, rfl⟩
            · have HN3 : Hid (∀ i (hi : i < L.length), i < k + 1 → (i : Int) ≤ tgI L (tnm L[i])) := HN2.out (by omega)
              clear HN2 HR
              go_wp2_with (first | (go_at_call 17; refine HC.mono ?_; rintro e wx ⟨rfl, rfl⟩) | go_in)
              exact ⟨⟨k + 1, by omega, by go_num, HN3⟩, by simp [intOf]; omega⟩
          · obtain rfl : k = L.length := by omega
            have HD : Hid ((L.map tnm).Nodup) := tgI_nodup fun i hi => by have := HN.out i hi hi; omega
            clear HN
            go_wp2
            go_loop [5] (fun u => ∃ k : Nat, k ≤ L.length ∧ u = .int .i64 (k : Int) ∧ Hid (∀ i (hi : i < L.length), i < k → ∀ y ∈ L[i].ns, 0 ≤ tgI L (tl y))) (fun u => L.length - (intOf u).toNat)
            case atStart =>
              refine ⟨0, Nat.zero_le _, rfl, ?_⟩
              exact (fun i hi h => absurd h (Nat.not_lt_zero _) : ∀ i (hi : i < L.length), i < 0 → ∀ y ∈ L[i].ns, 0 ≤ tgI L (tl y))
            case round =>
              obtain ⟨k, hkl, rfl, HN⟩ := hrel
              by_cases hlt : k < L.length
              · have hki : (k : Int) < (L.length : Int) := by omega
                obtain ⟨g, o, rfl, hg, hat⟩ := HF.out.is.at_.resolve_left (fun e => by rw [e] at hlt; exact absurd hlt (by simp))
                have c2 : w.cell? ⟨g, o + k * 5 + 2, none⟩ = some L[k].vn := (hat k hlt).2.2.1
                have hN := (HF.out.is.tx L[k] (List.getElem_mem hlt)).2.1
                have HR : Hid (∀ y ∈ L[k].ns, tgI L (tl y) < 0 → ckN L = 5) := fun y hy hx => ck_none h60 HM.out HD.out L[k] (List.getElem_mem hlt) y hy hx
                have HN2 : Hid ((∀ y ∈ L[k].ns, 0 ≤ tgI L (tl y)) → ∀ i (hi : i < L.length), i < k + 1 → ∀ y ∈ L[i].ns, 0 ≤ tgI L (tl y)) := fun hx i hi hik => by
                  rcases (show i < k ∨ i = k by omega) with e | e
                  · exact HN.out i hi e
                  · subst e; exact hx
                generalize L[k].vn = nv at c2 hN
                obtain ⟨_, hnl, na, nc, rfl, hmem⟩ := hN
                generalize L[k].ns = nl at *
                have HNm : Hid (nl = [] ∨ ∃ g o, na = some ⟨g, o, none⟩ ∧ g < w.heap.size ∧ ∀ q (hq : q < nl.length), w.cell? ⟨g, o + q, none⟩ = some (.string nl[q])) := hmem
                have hnli : (nl.length : Int) ≤ 1048576 := by omega
                clear hat HN hmem hnl
                go_wp2
                go_loop [6] (fun u => ∃ q : Nat, q ≤ nl.length ∧ u = .int .i64 (q : Int) ∧ Hid (∀ j (hj : j < nl.length), j < q → 0 ≤ tgI L (tl nl[j]))) (fun u => nl.length - (intOf u).toNat)
                case atStart =>
                  refine ⟨0, Nat.zero_le _, rfl, ?_⟩
                  exact (fun i hi h => absurd h (Nat.not_lt_zero _) : ∀ j (hj : j < nl.length), j < 0 → 0 ≤ tgI L (tl nl[j]))
                case round =>
                  obtain ⟨q, hql, rfl, HQ⟩ := hrel
                  by_cases hqt : q < nl.length
                  · have hqi : (q : Int) < (nl.length : Int) := by omega
                    rcases HNm.out with hz | ⟨ng, no, rfl, _, hcn⟩
                    · exfalso; rw [hz] at hqt; exact absurd hqt (by simp)
                    have cn := hcn q hqt
                    have HC := HT.out nl[q]
                    have HR3 : Hid (tgI L (tl nl[q]) < 0 → ckN L = 5) := HR.out _ (List.getElem_mem hqt)
                    have HQ2 : Hid (0 ≤ tgI L (tl nl[q]) → ∀ j (hj : j < nl.length), j < q + 1 → 0 ≤ tgI L (tl nl[j])) := fun hx i hi hik => by
                      rcases (show i < q ∨ i = q by omega) with e | e
                      · exact HQ.out i hi e
                      · subst e; exact hx
                    generalize nl[q] = y at *
                    generalize tgI L (tl y) = z at *
                    clear hcn HQ
                    by_cases hb : z < 0
                    · have HR4 : Hid (ckN L = 5) := HR3.out hb
                      clear HQ2 HR3 HR HN2
                      go_wp2_with (first | (go_at_call 17; refine HC.mono ?_; rintro e wx ⟨rfl, rfl⟩) | go_in)
                      go_ret
                      exact ⟨by rw [HR4.out]; rfl, rfl⟩
                    · have HQ3 : Hid (∀ j (hj : j < nl.length), j < q + 1 → 0 ≤ tgI L (tl nl[j])) := HQ2.out (by omega)
                      clear HQ2 HR3
                      go_wp2_with (first | (go_at_call 17; refine HC.mono ?_; rintro e wx ⟨rfl, rfl⟩) | go_in)
                      exact ⟨⟨q + 1, by omega, by go_num, HQ3⟩, by simp [intOf]; omega⟩
                  · obtain rfl : q = nl.length := by omega
                    have HN3 : Hid (∀ i (hi : i < L.length), i < k + 1 → ∀ y ∈ L[i].ns, 0 ≤ tgI L (tl y)) := HN2.out fun y hy => by
                      obtain ⟨j, hj, rfl⟩ := List.mem_iff_getElem.1 hy
                      exact HQ.out j hj hj
                    clear HN2 HQ HR
                    go_wp2
                    exact ⟨⟨k + 1, by omega, by go_num, HN3⟩, by simp [intOf]; omega⟩
              · obtain rfl : k = L.length := by omega
                have HR : Hid (ckN L = 0) := ck_fine h60 HM.out HD.out fun t ht y hy => by
                  obtain ⟨i, hi, rfl⟩ := List.mem_iff_getElem.1 ht
                  have := HN.out i hi hi y hy
                  omega
                clear HN
                go_wp2
                go_ret
                exact ⟨by rw [HR.out]; rfl, rfl⟩
end Go.Proofs.YtankaiopdbcndaaGreatDoor
