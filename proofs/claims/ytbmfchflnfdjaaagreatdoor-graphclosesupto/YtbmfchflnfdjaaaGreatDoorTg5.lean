/- Sorts, and sorted keys: the contracts of the shelf, laid at this program (by wip/trlay.py). -/
import Derived.Shelf.SlIter.Nil
import Derived.Shelf.SortM.Plain
import Derived.Shelf.SortM.SortNone
import Derived.Ground.GgzProg
import Derived.Ground.SlgmProg
import Derived.Test.YtbmfchflnfdjaaaGreatDoorChecked
import Derived.Deep.AppendLies
import Derived.Test.YtbmfchflnfdjaaaGreatDoorTg4
namespace Go.Proofs.YtbmfchflnfdjaaaGreatDoor
open Go.RowKit Go.Maps Go.Sort Go.Shelf Go.Lib

def keysS_ren : Go.Shelf.Ren := ⟨fun | 7 => 21 | 10 => 38 | n => n, fun | 23 => 42 | 26 => 9 | 3 => 25 | 28 => 51 | 0 => 0 | 27 => 50 | 33 => 62 | 4 => 4 | n => n, fun | n => n⟩
theorem keysS : Go.Proofs.SlLaysZ.n7 Tryz.prog keysS_ren := {
  mixed := by kernel_rfl
  f7 := ⟨Tryz.f21.name, by decide, Tryz.func21.trans (congrArg some (by kernel_rfl))⟩
  f10 := ⟨Tryz.f38.name, by decide, Tryz.func38.trans (congrArg some (by kernel_rfl))⟩
  t0 := Tryz.underlying0
  a0 := Tryz.isAgg0
  z0 := Tryz.sizeOf0
  v0 := Tryz.zeroValue0
  t4 := Tryz.underlying4
  a4 := Tryz.isAgg4
  z4 := Tryz.sizeOf4
  v4 := Tryz.zeroValue4
  t23 := Tryz.underlying42
  a23 := Tryz.isAgg42
  z23 := Tryz.sizeOf42
  v23 := Tryz.zeroValue42
  t26 := Tryz.underlying9
  a26 := Tryz.isAgg9
  z26 := Tryz.sizeOf9
  v26 := Tryz.zeroValue9
  t27 := Tryz.underlying50
  a27 := Tryz.isAgg50
  z27 := Tryz.sizeOf50
  v27 := Tryz.zeroValue50
  t28 := Tryz.underlying51
  a28 := Tryz.isAgg51
  z28 := Tryz.sizeOf51
  v28 := Tryz.zeroValue51
  t33 := Tryz.underlying62
  a33 := Tryz.isAgg62
  z33 := Tryz.sizeOf62
  v33 := Tryz.zeroValue62 }

def sortedS_ren : Go.Shelf.Ren := ⟨fun | 6 => 20 | 8 => 36 | 9 => 37 | 11 => 55 | 13 => 57 | 12 => 56 | 23 => 75 | 24 => 76 | 14 => 66 | 15 => 67 | 16 => 68 | 17 => 69 | 18 => 70 | 19 => 71 | 20 => 72 | 21 => 73 | 22 => 74 | 25 => 81 | 26 => 82 | 27 => 83 | 28 => 84 | 29 => 85 | 30 => 78 | 31 => 87 | n => n, fun | 26 => 9 | 28 => 51 | 24 => 25 | 0 => 0 | 3 => 3 | 37 => 101 | 48 => 118 | 50 => 120 | 4 => 4 | 40 => 111 | 39 => 110 | 45 => 115 | 5 => 5 | 9 => 9 | 51 => 123 | 55 => 127 | 57 => 130 | 58 => 131 | 33 => 62 | n => n, fun | n => n⟩
theorem sortedS : Go.Proofs.SlLaysZ.n6 Tryz.prog sortedS_ren := {
  mixed := by kernel_rfl
  f6 := ⟨Tryz.f20.name, by decide, Tryz.func20.trans (congrArg some (by kernel_rfl))⟩
  f8 := ⟨Tryz.f36.name, by decide, Tryz.func36.trans (congrArg some (by kernel_rfl))⟩
  f11 := ⟨Tryz.f55.name, by decide, Tryz.func55.trans (congrArg some (by kernel_rfl))⟩
  t0 := Tryz.underlying0
  a0 := Tryz.isAgg0
  z0 := Tryz.sizeOf0
  v0 := Tryz.zeroValue0
  t24 := Tryz.underlying25
  a24 := Tryz.isAgg25
  z24 := Tryz.sizeOf25
  v24 := Tryz.zeroValue25
  t26 := Tryz.underlying9
  a26 := Tryz.isAgg9
  z26 := Tryz.sizeOf9
  v26 := Tryz.zeroValue9
  t28 := Tryz.underlying51
  a28 := Tryz.isAgg51
  z28 := Tryz.sizeOf51
  v28 := Tryz.zeroValue51
  i26 := by kernel_rfl }

def sortS_ren : Go.Shelf.Ren := ⟨fun | 6 => 37 | 8 => 57 | 9 => 56 | 19 => 75 | 20 => 76 | 21 => 66 | 22 => 67 | 23 => 68 | 24 => 69 | 25 => 70 | 26 => 71 | 27 => 72 | 28 => 73 | 29 => 74 | 36 => 81 | 31 => 82 | 32 => 83 | 37 => 84 | 38 => 85 | 39 => 78 | 41 => 87 | n => n, fun | 27 => 25 | 29 => 9 | 3 => 3 | 32 => 101 | 26 => 25 | 0 => 0 | 44 => 118 | 46 => 120 | 4 => 4 | 36 => 111 | 35 => 110 | 41 => 115 | 5 => 5 | 9 => 9 | 53 => 123 | 57 => 127 | 63 => 130 | 64 => 131 | n => n, fun | n => n⟩
theorem sortS : Go.Proofs.SlLaysM.n6 Tryz.prog sortS_ren := {
  mixed := by kernel_rfl
  f6 := ⟨Tryz.f37.name, by decide, Tryz.func37.trans (congrArg some (by kernel_rfl))⟩
  f8 := Tryz.func57.trans (congrArg some (by kernel_rfl))
  f9 := ⟨Tryz.f56.name, by decide, Tryz.func56.trans (congrArg some (by kernel_rfl))⟩
  f19 := Tryz.func75.trans (congrArg some (by kernel_rfl))
  f20 := Tryz.func76.trans (congrArg some (by kernel_rfl))
  f21 := ⟨Tryz.f66.name, by decide, Tryz.func66.trans (congrArg some (by kernel_rfl))⟩
  f22 := ⟨Tryz.f67.name, by decide, Tryz.func67.trans (congrArg some (by kernel_rfl))⟩
  f23 := ⟨Tryz.f68.name, by decide, Tryz.func68.trans (congrArg some (by kernel_rfl))⟩
  f24 := ⟨Tryz.f69.name, by decide, Tryz.func69.trans (congrArg some (by kernel_rfl))⟩
  f25 := ⟨Tryz.f70.name, by decide, Tryz.func70.trans (congrArg some (by kernel_rfl))⟩
  f26 := ⟨Tryz.f71.name, by decide, Tryz.func71.trans (congrArg some (by kernel_rfl))⟩
  f27 := ⟨Tryz.f72.name, by decide, Tryz.func72.trans (congrArg some (by kernel_rfl))⟩
  f28 := ⟨Tryz.f73.name, by decide, Tryz.func73.trans (congrArg some (by kernel_rfl))⟩
  f29 := ⟨Tryz.f74.name, by decide, Tryz.func74.trans (congrArg some (by kernel_rfl))⟩
  f31 := Tryz.func82.trans (congrArg some (by kernel_rfl))
  f32 := Tryz.func83.trans (congrArg some (by kernel_rfl))
  f36 := ⟨Tryz.f81.name, by decide, Tryz.func81.trans (congrArg some (by kernel_rfl))⟩
  f37 := ⟨Tryz.f84.name, by decide, Tryz.func84.trans (congrArg some (by kernel_rfl))⟩
  f38 := ⟨Tryz.f85.name, by decide, Tryz.func85.trans (congrArg some (by kernel_rfl))⟩
  f39 := ⟨Tryz.f78.name, by decide, Tryz.func78.trans (congrArg some (by kernel_rfl))⟩
  f41 := ⟨Tryz.f87.name, by decide, Tryz.func87.trans (congrArg some (by kernel_rfl))⟩
  t0 := Tryz.underlying0
  a0 := Tryz.isAgg0
  z0 := Tryz.sizeOf0
  v0 := Tryz.zeroValue0
  t3 := Tryz.underlying3
  a3 := Tryz.isAgg3
  z3 := Tryz.sizeOf3
  v3 := Tryz.zeroValue3
  t4 := Tryz.underlying4
  a4 := Tryz.isAgg4
  z4 := Tryz.sizeOf4
  v4 := Tryz.zeroValue4
  t5 := Tryz.underlying5
  a5 := Tryz.isAgg5
  z5 := Tryz.sizeOf5
  v5 := Tryz.zeroValue5
  t9 := Tryz.underlying9
  a9 := Tryz.isAgg9
  z9 := Tryz.sizeOf9
  v9 := Tryz.zeroValue9
  t26 := Tryz.underlying25
  a26 := Tryz.isAgg25
  z26 := Tryz.sizeOf25
  v26 := Tryz.zeroValue25
  t27 := Tryz.underlying25
  a27 := Tryz.isAgg25
  z27 := Tryz.sizeOf25
  v27 := Tryz.zeroValue25
  t29 := Tryz.underlying9
  a29 := Tryz.isAgg9
  z29 := Tryz.sizeOf9
  v29 := Tryz.zeroValue9
  t32 := Tryz.underlying101
  a32 := Tryz.isAgg101
  z32 := Tryz.sizeOf101
  v32 := Tryz.zeroValue101
  t35 := Tryz.underlying110
  a35 := Tryz.isAgg110
  z35 := Tryz.sizeOf110
  v35 := Tryz.zeroValue110
  t36 := Tryz.underlying111
  a36 := Tryz.isAgg111
  z36 := Tryz.sizeOf111
  v36 := Tryz.zeroValue111
  t41 := Tryz.underlying115
  a41 := Tryz.isAgg115
  z41 := Tryz.sizeOf115
  v41 := Tryz.zeroValue115
  t44 := Tryz.underlying118
  a44 := Tryz.isAgg118
  z44 := Tryz.sizeOf118
  v44 := Tryz.zeroValue118
  t46 := Tryz.underlying120
  a46 := Tryz.isAgg120
  z46 := Tryz.sizeOf120
  v46 := Tryz.zeroValue120
  t53 := Tryz.underlying123
  a53 := Tryz.isAgg123
  z53 := Tryz.sizeOf123
  v53 := Tryz.zeroValue123
  t57 := Tryz.underlying127
  a57 := Tryz.isAgg127
  z57 := Tryz.sizeOf127
  v57 := Tryz.zeroValue127
  t63 := Tryz.underlying130
  a63 := Tryz.isAgg130
  z63 := Tryz.sizeOf130
  v63 := Tryz.zeroValue130
  t64 := Tryz.underlying131
  a64 := Tryz.isAgg131
  z64 := Tryz.sizeOf131
  v64 := Tryz.zeroValue131 }

theorem sortS_any (blk off cap : Nat) (ss : List (List UInt8)) (w : World) (hH : Go.Sort.Holds encStr w blk off ss.toArray) (hblk : blk < w.heap.size) (hsz : ss.length < 4611686018427387904) :
    Calls Tryz.prog 37 #[.slice (some ⟨blk, off, none⟩) ss.length cap] w fun e w' => e = .returned (.tuple #[]) ∧ ∃ n os, w' = Go.Sort.grow (Go.Sort.putRow encStr (Go.Sort.ahead w n) blk off (ss.mergeSort fun x y => decide (x ≤ y)).toArray) os :=
  AnyM.slices_Sort_string sortS blk off cap ss w hH hblk hsz

theorem sortS_none (p : Option Addr) (cap : Nat) (w : World) : Calls Tryz.prog 37 #[.slice p 0 cap] w fun e w' => e = .returned (.tuple #[]) ∧ w' = w :=
  AnyM.slices_Sort_string_none sortS p cap w

theorem sortsS (m : Nat) : AnyZ.SortsIn Tryz.prog sortedS_ren Fence.wide m :=
  ⟨fun blk off cap ss W hH hblk hsz => callsIn_wide.2 (AnyM.slices_Sort_string sortS blk off cap ss W hH hblk hsz),
   fun p cap W => callsIn_wide.2 (AnyM.slices_Sort_string_none sortS p cap W)⟩

theorem keysS_any (mb : Option Nat) (w : World) : Calls Tryz.prog 21 #[.map mb] w fun e w' => e = .returned (.func (.func 38) #[] #[.pointer (some ⟨w.heap.size, 0, none⟩)]) ∧ w' = w.alloc (.cells #[.map mb] 42) :=
  (callsIn_wide (n := 5)).1 (AnyZ.keys_in keysS Fence.wide 5 trivial rfl mb w)

set_option maxHeartbeats 1000000 in
theorem sortedS_any {H : Type} (b nn : Nat) (D0 : DataW H) (R : Value → Option (DataW H × List MemPlace)) (w : World) (hown : w.ownsMap Tryz.prog 9 R b nn D0) (hmax : Maps.size D0 ≤ maxLen) (hbytes : Maps.size D0 * 16 ≤ 140737488355328) :
    Calls Tryz.prog 20 #[.func (.func 38) #[] #[.pointer (some ⟨w.heap.size, 0, none⟩)]] (w.alloc (.cells #[.map (some b)] 42)) fun e w' => ∃ (v : Value) (ss : List (List UInt8)), e = .returned v ∧ ss.Perm (strKeys D0) ∧
      w'.ownsRow (w.alloc (.cells #[.map (some b)] 42)).heap.size 9 1 v ss.length ((ss.mergeSort (fun x y => decide (x ≤ y))).map encStr) ∧ (v = .slice none 0 0 ↔ ss = []) ∧ Below (w.alloc (.cells #[.map (some b)] 42)).heap.size (w.alloc (.cells #[.map (some b)] 42)) w' := by
  have hbl := hown.lt
  have hseq : SeqGives Fence.wide 2 Tryz.prog 38 #[.pointer (some ⟨w.heap.size, 0, none⟩)] encStr (fun ss => ss.Perm (strKeys D0)) (Maps.size D0) (w.alloc (.cells #[.map (some b)] 42)) :=
    AnyZ.keys_gives (ρ := keysS_ren) { keysS with } Fence.wide _ trivial rfl (by omega) w.heap.size b nn D0 _ (by simp) (by simp) (by
      obtain ⟨es, clock, hb, Ft, hs, hD⟩ := hown
      exact ⟨es, clock, (Below.heap_alloc _ _ b hbl).trans hb, Ft, hs, hD⟩)
  exact (callsIn_wide (n := 5)).1 (AnyZ.sorted_in sortedS Fence.wide 5 trivial trivial trivial trivial rfl (by omega) (sortsS _) (enters_of Tryz.func37 (by kernel_rfl) rfl) 38 #[.pointer (some ⟨w.heap.size, 0, none⟩)] trivial (enters_of Tryz.func38 (by kernel_rfl) rfl) _ _ hmax hbytes _ hseq)
end Go.Proofs.YtbmfchflnfdjaaaGreatDoor

/- Users of a target, whole. -/
namespace Go.Proofs.YtbmfchflnfdjaaaGreatDoor
open Go.RowKit Go.Shelf Go.Maps Go.WideMaps Go.Sort
/-- By at least one step, one comes from a to b. -/
def Rp (nd : List UInt8 → List (List UInt8)) (a b : List UInt8) : Prop := Rs nd (fun j => j ∈ nd a) b
theorem Rp.tail {nd : List UInt8 → List (List UInt8)} {a b c : List UInt8} (h : b ∈ nd a) (h2 : Rp nd b c) : Rp nd a c := Rs.mono h2 fun _ hz => Rs.step (Rs.base h) hz
theorem Rp.head {nd : List UInt8 → List (List UInt8)} {a b c : List UInt8} (h : Rp nd a b) (h2 : c ∈ nd b) : Rp nd a c := Rs.step h h2
theorem usF_iff (nf : List UInt8 → List ByteArray) (o : List UInt8) : ∀ (ks : List (List UInt8)) (u : List UInt8), u ∈ ndT (usF nf ks) o ↔ u ∈ ks ∧ o ∈ ndT nf u
  | [], u => by simp [usF, ndT]
  | k :: ks, u => by
    have ih := usF_iff nf o ks u
    have e : ndT (usF nf (k :: ks)) o = ndT (usF nf ks) o ++ (((nf k).filter fun y => decide (y.data.toList = o)).map fun _ => bN k).map tl := by
      show (usF nf ks o ++ ((nf k).filter fun y => decide (y.data.toList = o)).map fun _ => bN k).map tl = _
      rw [List.map_append]
      rfl
    rw [e, List.mem_append, ih, List.mem_cons, List.map_map]
    constructor
    · rintro (⟨h1, h2⟩ | h)
      · exact ⟨.inr h1, h2⟩
      · obtain ⟨y, hy, e⟩ := List.mem_map.1 h
        have e2 : k = u := by rw [← e]; exact (tl_bN k).symm
        subst e2
        obtain ⟨h1, h2⟩ := List.mem_filter.1 hy
        exact ⟨.inl rfl, List.mem_map.2 ⟨y, h1, of_decide_eq_true h2⟩⟩
    · rintro ⟨rfl | h1, h2⟩
      · obtain ⟨y, hy, e⟩ := List.mem_map.1 h2
        exact .inr (List.mem_map.2 ⟨y, List.mem_filter.2 ⟨hy, decide_eq_true e⟩, tl_bN u⟩)
      · exact .inl ⟨h1, h2⟩
/-- Who is come to by users on: just those that need it, at once or by others. -/
theorem us_reach {nf : List UInt8 → List ByteArray} {ks : List (List UInt8)} (hcl : ∀ k ∈ ks, ∀ y ∈ ndT nf k, y ∈ ks) (x k : List UInt8) : Rs (ndT (usF nf ks)) (fun j => j ∈ ndT (usF nf ks) x) k ↔ k ∈ ks ∧ Rp (ndT nf) k x := by
  constructor
  · intro h
    refine h (fun k => k ∈ ks ∧ Rp (ndT nf) k x) (fun j hj => ?_) (fun a ha y hy => ?_)
    · obtain ⟨h1, h2⟩ := (usF_iff nf x ks j).1 hj
      exact ⟨h1, Rs.base h2⟩
    · obtain ⟨h1, h2⟩ := (usF_iff nf a ks y).1 hy
      exact ⟨h1, Rp.tail h2 ha.2⟩
  · rintro ⟨hk, h⟩
    have : x ∈ ks ∧ Rs (ndT (usF nf ks)) (fun j => j ∈ ndT (usF nf ks) x) k := h (fun b => b ∈ ks ∧ Rs (ndT (usF nf ks)) (fun j => j ∈ ndT (usF nf ks) b) k) (fun b hb => ⟨hcl k hk b hb, Rs.base ((usF_iff nf b ks k).2 ⟨hk, hb⟩)⟩) (fun a ha y hy => ⟨hcl a ha.1 y hy, ha.2.mono fun z hz => Rs.step (Rs.base ((usF_iff nf y ks a).2 ⟨ha.1, hy⟩)) hz⟩)
    exact this.2
/-- What Users tells. -/
def UsA (c : Int) (T : List UInt8 → Prop) (out : List ByteArray) (code : Int) : Prop := (c ≠ 0 ∧ out = [] ∧ code = c) ∨ (c = 0 ∧ code = 0 ∧ (out.map tl).Pairwise (fun a b => a < b) ∧ ∀ k, k ∈ out.map tl ↔ T k)
theorem lt_nodup {l : List (List UInt8)} (h : l.Pairwise (fun a b => a < b)) : l.Nodup := h.imp fun {a b} hab e => by subst e; exact List.lt_irrefl a hab
theorem lt_uniq {a b : List (List UInt8)} (ha : a.Pairwise (fun a b => a < b)) (hb : b.Pairwise (fun a b => a < b)) (h : ∀ k, k ∈ a ↔ k ∈ b) : a = b :=
  List.Perm.eq_of_pairwise (le := fun a b : List UInt8 => a < b) (fun _ _ _ _ h1 h2 => absurd (List.lt_trans h1 h2) (List.lt_irrefl _)) ha hb ((List.perm_ext_iff_of_nodup (lt_nodup ha) (lt_nodup hb)).2 h)
theorem UsA.uniq {c : Int} {T T2 : List UInt8 → Prop} {o o2 : List ByteArray} {e e2 : Int} (h : UsA c T o e) (h2 : UsA c T2 o2 e2) (hs : c = 0 → ∀ k, T k ↔ T2 k) : o = o2 ∧ e = e2 := by
  rcases h with ⟨a, rfl, rfl⟩ | ⟨a, rfl, q, hq⟩
  · rcases h2 with ⟨_, rfl, rfl⟩ | ⟨b, _⟩
    · exact ⟨rfl, rfl⟩
    · exact absurd b a
  · rcases h2 with ⟨b, _⟩ | ⟨_, rfl, q2, hq2⟩
    · exact absurd a b
    · exact ⟨tl_inj (lt_uniq q q2 fun k => (hq k).trans ((hs a k).trans (hq2 k).symm)), rfl⟩
theorem sum_needs {L : List Tg} (hn : (L.map tnm).Nodup) {ks : List (List UInt8)} (hk : ks.Nodup) (h : ∀ k, k ∈ ks ↔ k ∈ L.map tnm) : (ks.map fun k => (nfL L k).length).sum = (L.map fun t => t.ns.length).sum := by
  rw [(((List.perm_ext_iff_of_nodup hk hn).2 h).map fun k => (nfL L k).length).sum_nat, List.map_map]
  congr 1
  exact List.map_congr_left fun t ht => by show (nfL L (tnm t)).length = _; rw [nfL_of hn ht]
theorem ML.lt {B M N : Nat} {us : List UInt8 → List ByteArray} {vf : List UInt8 → Value} {D : DataW Unit} {w : World} (h : ML B M N us vf D w) (hl : ∀ k, (us k).length ≤ 1048576) (hs : ∀ k, ∀ y ∈ us k, y.size ≤ maxLen) : LT M N D us (lkV us vf) w := by
  refine ⟨h.own, fun k => ?_, fun k => row_tx (h.lrow k) (hl k), hs⟩
  unfold lkV
  by_cases he : us k = []
  · rw [if_pos he]
    exact atKey_of_not_has (by rw [h.has, he]; rfl) _
  · rw [if_neg he, h.get k he]
/-- Keys of links, sorted. -/
theorem sorted_keys {M n : Nat} {D : DataW Unit} {ks : List (List UInt8)} {w : World} (h : w.ownsMap Tryz.prog 9 slE M n D) (hn : n ≤ 60) (hk : ks.Nodup) (hm : ∀ k, k ∈ ks ↔ Maps.has D (.string k) = true) :
    Calls Tryz.prog 20 #[.func (.func 38) #[] #[.pointer (some ⟨w.heap.size, 0, none⟩)]] (w.alloc (.cells #[.map (some M)] 42)) fun e w' => ∃ (v : Value) (out : List ByteArray), e = .returned v ∧ w'.ownsRow w.heap.size 9 1 v out.length (out.map Value.string) ∧ (out.map tl).Pairwise (fun a b => a < b) ∧ (∀ k, k ∈ out.map tl ↔ k ∈ ks) ∧ Below w.heap.size w w' := by
  have hz : Maps.size D ≤ 60 := Nat.le_trans h.size_le hn
  refine (sortedS_any M n D slE w h (by unfold maxLen; omega) (by omega)).mono fun e w' ⟨v, ss, q1, q2, q3, _, q5⟩ => ?_
  have hc : Collected D (fun _ => false) ks := ⟨hk, fun x => by rw [hm]; simp⟩
  have hp := hc.perm h lawS Tryz.underlying9 (fun _ => rfl)
  have hA : Below w.heap.size w (w.alloc (.cells #[.map (some M)] 42)) := (Below.refl _ w).alloc (Nat.le_refl _) _
  have hpp : (ss.mergeSort fun x y => decide (x ≤ y)).Perm ks := (List.mergeSort_perm ss _).trans (q2.trans hp.symm)
  have e1 : ((ss.mergeSort fun x y => decide (x ≤ y)).map bN).map tl = ss.mergeSort fun x y => decide (x ≤ y) := by
    rw [List.map_map]
    exact (List.map_congr_left fun x _ => tl_bN x).trans (List.map_id _)
  refine ⟨v, (ss.mergeSort fun x y => decide (x ≤ y)).map bN, q1, ?_, ?_, ?_, hA.trans (q5.mono hA.size)⟩
  · rw [List.length_map, List.length_mergeSort, List.map_map]
    exact row_low q3 hA.size
  · rw [e1]
    have hs := List.pairwise_mergeSort (le := fun x y : List UInt8 => decide (x ≤ y)) (fun a b c h1 h2 => by rw [decide_eq_true_eq] at *; exact List.le_trans h1 h2) (fun a b => by rw [Bool.or_eq_true, decide_eq_true_eq, decide_eq_true_eq]; exact List.le_total _ _) ss
    have hnd : (ss.mergeSort fun x y => decide (x ≤ y)).Nodup := hpp.nodup_iff.2 hk
    refine (hs.and hnd).imp fun {a b} hab => ?_
    have h1 : a ≤ b := of_decide_eq_true hab.1
    rcases List.le_iff_lt_or_eq.1 h1 with h2 | h2
    · exact h2
    · exact absurd h2 hab.2
  · intro k
    rw [e1]
    exact hpp.mem_iff

/-- Who needs x, at once or by others. -/
def UsT (L : List Tg) (x : ByteArray) (k : List UInt8) : Prop := k ∈ L.map tnm ∧ Rp (ndT (nfL L)) k (tl x)

set_option maxHeartbeats 4000000 in
set_option maxRecDepth 100000 in
theorem Users_tw (ao : Option Addr) (cap : Nat) (L : List Tg) (x : ByteArray) (w : World) (hl : IsTg w ao L) (hn : L.length ≤ 1048576) (hs : ∀ t ∈ L, ∀ y ∈ t.ns, y.size ≤ maxLen) (hk : ∀ t ∈ L, (tnm t).length ≤ maxLen) (hx : x.size ≤ maxLen) (hsum : (L.map fun t => t.ns.length).sum ≤ 1048576) :
    Calls Tryz.prog 9 #[.slice ao L.length cap, .string x] w (TwP (UsA (ckW L x) (UsT L x)) w) := by
  have H1 := needsWith_any ao cap L x w hl hn hs hx
  have HZ : Hid (∀ w', ckW L x ≠ 0 → Below w.heap.size w w' → TwP (UsA (ckW L x) (UsT L x)) w (.returned (.tuple #[.slice none 0 0, .int .i64 (ckW L x)])) w') := fun w' h0 hb => TwP.bad hb (.inl ⟨h0, rfl, rfl⟩)
  unfold NwP at H1
  by_cases h0 : ckW L x = 0
  · obtain ⟨hN, hxm⟩ := ckW_ok.1 h0
    have HT : Hid (∀ M n w1, w1.ownsMap Tryz.prog 9 slE M n (ndD L) → n ≤ 60 → Below w.heap.size w w1 → Calls Tryz.prog 19 #[.map (some M)] w1 fun e w' => ∃ M2 v, e = .returned (.map (some M2)) ∧ (Instr.lookup 42 (.map (some M2)) (.string x) false).run Tryz.prog w' = .ok v w' ∧ Calls Tryz.prog 18 #[.map (some M2), v] w' fun e w2 => ∃ (M3 n3 : Nat) (D3 : DataW Unit) (ks : List (List UInt8)), e = .returned (.map (some M3)) ∧ Hid (w2.ownsMap Tryz.prog 9 slE M3 n3 D3 ∧ n3 ≤ 60 ∧ ks.Nodup ∧ (∀ k, k ∈ ks ↔ Maps.has D3 (.string k) = true) ∧ (∀ k, k ∈ ks ↔ UsT L x k) ∧ Below w.heap.size w w2)) := fun M n w1 h1 h2 h3 => by
      have hK := lk_of h1 (fun t ht => ((hl.tx t ht).2.1).below h3 (Nat.le_refl _)) hs hk
      refine (turned_any M n _ _ _ w1 hK (Nat.le_trans h1.size_le h2)).mono fun e w' ⟨M2, n2, vf, D2, ks, q1, q2, q3, q4, q5, q6⟩ => ?_
      have hkm : ∀ k, k ∈ ks ↔ k ∈ L.map tnm := fun k => (q4 k).trans has_mem
      have hus : ∀ k, ∀ y ∈ usF (nfL L) ks k, tl y ∈ L.map tnm := fun k y hy => (hkm _).1 (usF_mem _ k ks y hy)
      have hsz : ∀ k ∈ L.map tnm, k.length ≤ maxLen := fun k hk2 => by
        obtain ⟨t, ht, rfl⟩ := List.mem_map.1 hk2
        exact hk t ht
      have hT := q2.lt (fun k => Nat.le_trans (usF_len (nfL L) k ks) (by rw [sum_needs hN.nod q3 hkm]; exact hsum)) (fun k y hy => by have := hsz _ (hus k y hy); simpa [tl] using this)
      refine ⟨M2, _, q1, hT.look x hx, (from_any M2 n2 D2 (L.map tnm) _ _ w' hT (by rw [List.length_map]; exact hN.len) (fun k _ y hy => hus k y hy) hsz _ _ (hT.tx _) (hus _)).mono fun e w2 ⟨M3, n3, D3, k3, p1, p2, p3, p4, p5, p6, p7, p8, p9⟩ => ⟨M3, n3, D3, k3, p1, p2.own, p3, p4, p5, fun k => ?_, ?_⟩⟩
      · rw [p6]
        refine (us_reach (fun k hk2 y hy => ?_) (tl x) k).trans ?_
        · obtain ⟨z, hz, rfl⟩ := List.mem_map.1 hy
          exact (hkm _).2 (hN.cl k ((hkm k).1 hk2) z hz)
        · unfold UsT
          rw [hkm]
      · exact h3.trans ((q6.trans (p9.mono q6.size)).mono h3.size)
    have HS : Hid (∀ (M3 n3 : Nat) (D3 : DataW Unit) (ks : List (List UInt8)) (w2 : World), (w2.ownsMap Tryz.prog 9 slE M3 n3 D3 ∧ n3 ≤ 60 ∧ ks.Nodup ∧ (∀ k, k ∈ ks ↔ Maps.has D3 (.string k) = true) ∧ (∀ k, k ∈ ks ↔ UsT L x k) ∧ Below w.heap.size w w2) → Calls Tryz.prog 20 #[.func (.func 38) #[] #[.pointer (some ⟨w2.heap.size, 0, none⟩)]] (w2.alloc (.cells #[.map (some M3)] 42)) fun e w' => ∃ v, e = .returned v ∧ Hid (TwP (UsA 0 (UsT L x)) w (.returned (.tuple #[v, .int .i64 0])) w')) := fun M3 n3 D3 ks w2 ⟨g1, g2, g3, g4, g5, g6⟩ => (sorted_keys g1 g2 g3 g4).mono fun e w' ⟨v, out, q1, q2, q3, q4, q5⟩ => ⟨v, q1, out, 0, v, .inr ⟨rfl, rfl, q3, fun k => (q4 k).trans (g5 k)⟩, rfl, row_low q2 g6.size, g6.trans (q5.mono g6.size)⟩
    have HKs := keysS_any
    rw [h0] at H1 ⊢
    clear HZ hl hn hs hk hx hN hxm hsum
    generalize L.length = ln at *
    go_enter Tryz.func9, Tryz.ntmps9
    go_wp2_with (first
      | (go_at_call 17; refine H1.mono ?_; rintro e w1 ⟨mo, rfl, g1, g2, g3⟩; obtain ⟨M, n, rfl, g4, g5, g6⟩ := g2 rfl; have H2 := HT.out M n w1 g6 g5 g3; clear g1 g2 g3 g4 g5 g6 H1 HT)
      | (go_at_call 19; refine H2.mono ?_; rintro e w2 ⟨M2, v, rfl, hlk, H3⟩)
      | (go_at_call 18; refine H3.mono ?_; rintro e w3 ⟨M3, n3, D3, ks, rfl, H4⟩; have H5 := HS.out M3 n3 D3 ks w3 H4.out)
      | (go_at_call 21; refine (HKs _ _).mono ?_; rintro e w4 ⟨rfl, rfl⟩)
      | (go_at_call 20; refine H5.mono ?_; rintro e w5 ⟨v5, rfl, H6⟩)
      | go_in)
    go_ret2
    exact H6.out
  · have HC : Hid (ckW L x ≠ 0) := h0
    generalize ckW L x = c at *
    have hc1 : ¬(c : Int) = 0 := h0
    clear h0 hl hn hs hk hx hsum
    generalize L.length = ln at *
    go_enter Tryz.func9, Tryz.ntmps9
    go_wp2_with (first
      | (go_at_call 17; refine H1.mono ?_; rintro e w1 ⟨mo, rfl, g1, g2, g3⟩; have HB : Hid (Below w.heap.size w w1) := g3; clear g1 g2 g3 H1)
      | go_in)
    go_ret2
    exact HZ.out _ HC.out HB.out
end Go.Proofs.YtbmfchflnfdjaaaGreatDoor

/- Check: do paths rise? -/
namespace Go.Proofs.YtbmfchflnfdjaaaGreatDoor
open Go.RowKit Go.Shelf Go.Maps Go.WideMaps

theorem cmpB_neg (x y : ByteArray) : decide (cmpB x y < 0) = decide (x.data.toList < y.data.toList) := by
  unfold cmpB
  rw [Lib.toList_data, Lib.toList_data, tlt]
  by_cases h : x.data.toList < y.data.toList
  · simp [h]
  · by_cases h2 : x.data.toList = y.data.toList
    · simp [h2, List.lt_irrefl]
    · simp [h, h2]

/-- How the look ends. -/
def SortedP (L : List Fl) (w : World) (e : Ending) (w' : World) : Prop := ∃ b, e = .returned (.bool b) ∧ (b = true ↔ adjF L) ∧ Below w.heap.size w w'

set_option maxHeartbeats 2000000 in
set_option maxRecDepth 100000 in
theorem isSorted_any (ao : Option Addr) (cap : Nat) (L : List Fl) (w : World) (hn : L.length ≤ 1000000) (hl : IsFl w ao L) :
    Calls Tryz.prog 41 #[.slice ao L.length cap, .func (.func 42) #[] #[]] w (SortedP L w) := by
  have HL : Hid (IsFl w ao L) := hl
  have hn1 : (L.length : Int) ≤ 1000000 := by omega
  clear hl
  go_enter Tryz.func41, Tryz.ntmps41
  go_wp2
  go_loopw [5] (fun i wr => ∃ k : Nat, k ≤ L.length ∧ i = .int .i64 ((k : Int) - 1) ∧ (∀ j, (hj : j + 1 < L.length) → k ≤ j + 1 → ¬ pth L[j + 1] < pth L[j]) ∧ Below w.heap.size w wr) (fun i _ => (intOf i + 1).toNat)
  case atStart => exact ⟨L.length, Nat.le_refl _, by go_num, fun j hj hjk => by omega, Below.refl _ _⟩
  case round =>
    obtain ⟨k, hk, rfl, hlo, hb⟩ := hrel
    have HO : Hid (∀ j, (hj : j + 1 < L.length) → k ≤ j + 1 → ¬ pth L[j + 1] < pth L[j]) := hlo
    have HB : Hid (Below w.heap.size w wr) := hb
    have hsz := hb.size
    clear hlo
    by_cases hlt : 2 ≤ k
    · obtain ⟨m, rfl⟩ : ∃ m, k = m + 2 := ⟨k - 2, by omega⟩
      have HLB := HL.out.below hb (Nat.le_refl _)
      clear hb
      rcases HLB with h | ⟨g, o, rfl, hgr, hc⟩
      · exfalso; rw [h] at hk; simp at hk
      obtain ⟨a0, a1, a2⟩ := hc m (by omega)
      obtain ⟨b0, b1, b2⟩ := hc (m + 1) (by omega)
      have i0 : (((m + 2 : Nat) : Int) - 1) = (m : Int) + 1 := by omega
      rw [i0]
      have i1 : (0 : Int) ≤ (m : Int) := by omega
      have i2 : (m : Int) < L.length := by omega
      have i3 : (0 : Int) ≤ (m : Int) + 1 := by omega
      have i4 : (m : Int) + 1 < L.length := by omega
      have i5 : IntKind.i64.wrap ((m : Int) + 1 - 1) = m := by rw [wraps_i64 _ (by omega) (by omega)]; omega
      have i6 : IntKind.i64.wrap (m : Int) = m := wraps_i64 _ (by omega) (by omega)
      have i7 : ((m : Int) + 1).toNat = m + 1 := by omega
      generalize hx : L[m] = x at a0 a1 a2
      generalize hy : L[m + 1] = y at b0 b1 b2
      obtain ⟨xp, xt, xr⟩ := x
      obtain ⟨yp, yt, yr⟩ := y
      have HX : Hid (L[m] = ⟨xp, xt, xr⟩) := hx
      have HY : Hid (L[m + 1] = ⟨yp, yt, yr⟩) := hy
      simp only at a0 a1 a2 b0 b1 b2
      clear hx hy hc
      obtain ⟨cv, hcv⟩ : ∃ cv, cv = cmpB yp xp := ⟨_, rfl⟩
      have HC : Hid (∀ W, Calls Tryz.prog 42 #[.agg #[.string yp, .string yt, .bool yr], .agg #[.string xp, .string xt, .bool xr]] W fun e w' => e = .returned (.int .i64 cv) ∧ Below W.heap.size W w') := fun W => by
        rw [hcv]
        exact comparePaths_any ⟨yp, yt, yr⟩ ⟨xp, xt, xr⟩ W
      have HD : Hid (decide (cv < 0) = decide (pth L[m + 1] < pth L[m])) := by
        show _ = _
        rw [hcv, cmpB_neg, HX.out, HY.out]
        rfl
      clear hcv
      by_cases hls : cv < 0
      · have HLS : Hid (cv < 0) := hls
        go_wp2_with fail
        go_region_held3 (fun w' => w'.cell? ⟨g, o + m * 3, none⟩ = some (.string xp) ∧ w'.cell? ⟨g, o + m * 3 + 1, none⟩ = some (.string xt) ∧ w'.cell? ⟨g, o + m * 3 + 2, none⟩ = some (.bool xr) ∧ w'.cell? ⟨g, o + (m + 1) * 3, none⟩ = some (.string yp) ∧ w'.cell? ⟨g, o + (m + 1) * 3 + 1, none⟩ = some (.string yt) ∧ w'.cell? ⟨g, o + (m + 1) * 3 + 2, none⟩ = some (.bool yr) ∧ g < w'.heap.size)
          (first | (simp [go_sem, *]; done) | (go_split_ands; refine ⟨?_, ?_, ?_, ?_, ?_, ?_, ?_⟩ <;> first | (exact Nat.lt_of_lt_of_le (by assumption) hb1.size) | (rw [hb1.cell (p := ⟨g, _, none⟩) (by assumption)]; assumption)))
          (first
            | (go_at_call 42; refine (HC.out _).mono ?_; rintro e w1 ⟨rfl, hb1⟩)
            | fail)
        have HB3 : Hid (Below w.heap.size w w1) := HB.out.drew.trans (hb1.mono HB.out.drew.size)
        clear hb1
        go_wp2
        go_ret
        refine ⟨false, rfl, ⟨fun h => absurd h (by decide), fun h => ?_⟩, HB3.out⟩
        have := h m (by omega)
        have h2 := HD.out
        rw [decide_eq_true HLS.out] at h2
        exact absurd (of_decide_eq_true h2.symm) this
      · have HLS : Hid (0 ≤ cv) := by
          show 0 ≤ cv
          omega
        go_wp2_with fail
        go_region_held3 (fun w' => w'.cell? ⟨g, o + m * 3, none⟩ = some (.string xp) ∧ w'.cell? ⟨g, o + m * 3 + 1, none⟩ = some (.string xt) ∧ w'.cell? ⟨g, o + m * 3 + 2, none⟩ = some (.bool xr) ∧ w'.cell? ⟨g, o + (m + 1) * 3, none⟩ = some (.string yp) ∧ w'.cell? ⟨g, o + (m + 1) * 3 + 1, none⟩ = some (.string yt) ∧ w'.cell? ⟨g, o + (m + 1) * 3 + 2, none⟩ = some (.bool yr) ∧ g < w'.heap.size)
          (first | (simp [go_sem, *]; done) | (go_split_ands; refine ⟨?_, ?_, ?_, ?_, ?_, ?_, ?_⟩ <;> first | (exact Nat.lt_of_lt_of_le (by assumption) hb1.size) | (rw [hb1.cell (p := ⟨g, _, none⟩) (by assumption)]; assumption)))
          (first
            | (go_at_call 42; refine (HC.out _).mono ?_; rintro e w1 ⟨rfl, hb1⟩)
            | fail)
        have HB3 : Hid (Below w.heap.size w w1) := HB.out.drew.trans (hb1.mono HB.out.drew.size)
        clear hb1
        go_wp2
        refine ⟨⟨m + 1, by omega, by go_num, fun j hj hjk => ?_, HB3.out⟩, by simp [intOf]; omega⟩
        by_cases h : m + 2 ≤ j + 1
        · exact HO.out j hj h
        · obtain rfl : j = m := by omega
          intro h3
          have h2 := HD.out
          rw [decide_eq_true h3] at h2
          have h4 : cv < 0 := of_decide_eq_true h2
          have h5 : 0 ≤ cv := HLS.out
          omega
    · clear hb
      have i0 : ¬ (0 : Int) < (k : Int) - 1 := by omega
      go_wp2
      go_ret
      exact ⟨true, rfl, ⟨fun _ => fun j hj => HO.out j hj (by omega), fun _ => rfl⟩, HB.out⟩
end Go.Proofs.YtbmfchflnfdjaaaGreatDoor

/- Check: does a path go through a file? -/
namespace Go.Proofs.YtbmfchflnfdjaaaGreatDoor
open Go.RowKit Go.Shelf Go.Maps Go.WideMaps

theorem ownsMap_heap {H : Type} {w w' : World} {P : Program} {k : TypeId} {R : Value → Option (DataW H × List MemPlace)} {b n : Nat} {D : DataW H} (h : w.ownsMap P k R b n D) (hh : w'.heap[b]? = w.heap[b]?) : w'.ownsMap P k R b n D := by
  obtain ⟨es, clock, hb, rest⟩ := h
  exact ⟨es, clock, hh.trans hb, rest⟩

theorem lookF {M n : Nat} {D : DataW Unit} {w : World} (hown : w.ownsMap Tryz.prog 9 fileE M n D) (s : ByteArray) (hs : s.size ≤ maxLen) :
    ∃ f, fD f = D.atKey (.string s.data.toList) (fD ⟨⟨#[]⟩, ⟨#[]⟩, false⟩) ∧ ∀ W : World, W.heap[M]? = w.heap[M]? → (Instr.lookup 75 (.map (some M)) (.string s) true).run Tryz.prog W = .ok (.tuple #[encF f, .bool (Maps.has D (.string s.data.toList))]) W := by
  obtain ⟨v, ps, _, hv⟩ := hown.look_ok lawS Tryz.underlying75 (zeroF w) (fileE_mk ⟨⟨#[]⟩, ⟨#[]⟩, false⟩) (keyOf_string_mk Tryz.underlying9 hs)
  obtain ⟨f, rfl, hf⟩ := fileE_inv hv
  refine ⟨f, hf.symm, fun W hW => ?_⟩
  obtain ⟨v2, ps2, hr2, hv2⟩ := (ownsMap_heap hown hW).look_ok lawS Tryz.underlying75 (zeroF W) (fileE_mk ⟨⟨#[]⟩, ⟨#[]⟩, false⟩) (keyOf_string_mk Tryz.underlying9 hs)
  obtain ⟨f2, rfl, hf2⟩ := fileE_inv hv2
  rw [fD_inj (hf.symm.trans hf2)]
  exact hr2

/-- Does a path go through something that is there? -/
def thrB (p : ByteArray) (D : DataW Unit) : Bool := (List.range p.size).any fun i => decide (p.data.toList.getD i 0 = 47) && Maps.has D (.string (p.extract 0 i).data.toList)

theorem ne47 (x : UInt8) : ((x.toNat : Int) != 47) = !decide (x = 47) := by
  rw [← is47]
  rfl

set_option maxHeartbeats 4000000 in
set_option maxRecDepth 100000 in
theorem thr1_any (f : Fl) (bx M n : Nat) (D : DataW Unit) (w : World) (hbx : w.cell? ⟨bx, 0, none⟩ = some (.map (some M))) (hown : w.ownsMap Tryz.prog 9 fileE M n D) (hs : f.pa.size ≤ 1000000) :
    Calls Tryz.prog 62 #[encF f, .pointer (some ⟨bx, 0, none⟩)] w fun e w' => e = .returned (.bool (thrB f.pa D)) ∧ Below w.heap.size w w' := by
  obtain ⟨p, t, r⟩ := f
  have hbl : bx < w.heap.size := by simpa using World.block_lt_of_cell? w _ hbx
  have hMl := hown.lt
  have HX : Hid (w.cell? ⟨bx, 0, none⟩ = some (.map (some M))) := hbx
  have HO : Hid (w.ownsMap Tryz.prog 9 fileE M n D) := hown
  have hs1 : (p.size : Int) ≤ 1000000 := by simp only at hs; omega
  unfold encF
  simp only at hs ⊢
  clear hbx hown
  go_enter Tryz.func62, Tryz.ntmps62
  go_wp2
  go_loopw [10] (fun i wr => ∃ k : Nat, k ≤ p.size ∧ i = .int .i64 k ∧ (∀ j, j < k → (decide (p.data.toList.getD j 0 = 47) && Maps.has D (.string (p.extract 0 j).data.toList)) = false) ∧ Below (w.heap.size + 1) (w.alloc (.cells #[.string p, .string t, .bool r] 73)) wr) (fun i _ => p.size - (intOf i).toNat)
  case atStart => exact ⟨0, by omega, rfl, by omega, Below.refl _ _⟩
  case round =>
    obtain ⟨k, hk, rfl, hlo, hb⟩ := hrel
    have HL : Hid (∀ j, j < k → (decide (p.data.toList.getD j 0 = 47) && Maps.has D (.string (p.extract 0 j).data.toList)) = false) := hlo
    have HB : Hid (Below (w.heap.size + 1) (w.alloc (.cells #[.string p, .string t, .bool r] 73)) wr) := hb
    have hx := heap_alloc_new w (.cells #[.string p, .string t, .bool r] 73)
    have hwz : (w.alloc (.cells #[.string p, .string t, .bool r] 73)).heap.size = w.heap.size + 1 := World.size_alloc _ _
    have HF : Hid (Below w.heap.size w wr) := ((Below.refl _ w).alloc (Nat.le_refl _) _).trans (hb.mono (by omega))
    have hsz : w.heap.size + 1 ≤ wr.heap.size := by rw [← hwz]; exact hb.size
    have c0 : wr.cell? ⟨w.heap.size, 0, none⟩ = some (.string p) := by
      rw [hb.cell (p := ⟨w.heap.size, 0, none⟩) (by show w.heap.size < _; omega)]
      exact Lib.cell_of_heap hx 0
    have cb : wr.cell? ⟨bx, 0, none⟩ = some (.map (some M)) := by
      rw [HF.out.cell (p := ⟨bx, 0, none⟩) hbl]
      exact HX.out
    have hownr : wr.ownsMap Tryz.prog 9 fileE M n D := ownsMap_heap HO.out (HF.out.block M hMl)
    clear hlo hb hx hwz
    by_cases hlt : k < p.size
    · have hki : (k : Int) < p.size := by omega
      have hq : ((p[k].toNat : Int) != 47) = !decide (p.data.toList.getD k 0 = 47) := by rw [ne47, at_getD]
      by_cases h47 : p.data.toList.getD k 0 = 47
      · have H47 : Hid (p.data.toList.getD k 0 = 47) := h47
        rw [decide_eq_true h47] at hq
        have hq' : ((p[k].toNat : Int) != 47) = false := hq
        clear hq h47
        have hex : (p.extract 0 k).size ≤ maxLen := by rw [ByteArray.size_extract]; unfold maxLen; omega
        obtain ⟨f2, _, hlk⟩ := lookF hownr (p.extract 0 k) hex
        obtain ⟨fp, ft, fr⟩ := f2
        have l0 : (Instr.lookup 75 (.map (some M)) (.string (p.extract 0 k)) true).run Tryz.prog wr.drew = .ok (.tuple #[.agg #[.string fp, .string ft, .bool fr], .bool (Maps.has D (.string (p.extract 0 k).data.toList))]) wr.drew := hlk wr.drew rfl
        have l1 : ∀ o, (Instr.lookup 75 (.map (some M)) (.string (p.extract 0 k)) true).run Tryz.prog (wr.alloc o).drew = .ok (.tuple #[.agg #[.string fp, .string ft, .bool fr], .bool (Maps.has D (.string (p.extract 0 k).data.toList))]) (wr.alloc o).drew := fun o => hlk _ (Below.heap_alloc _ _ M hownr.lt)
        have hle : k ≤ p.size := by omega
        have HH : Hid ((decide (p.data.toList.getD k 0 = 47) && Maps.has D (.string (p.extract 0 k).data.toList)) = Maps.has D (.string (p.extract 0 k).data.toList)) := by
          show _ = _
          rw [decide_eq_true H47.out, Bool.true_and]
        have cA : ∀ o, (wr.alloc o).cell? ⟨w.heap.size, 0, none⟩ = some (.string p) := fun o => (((Below.refl _ wr).alloc (Nat.le_refl _) o).cell (p := ⟨w.heap.size, 0, none⟩) (by show w.heap.size < wr.heap.size; omega)).trans c0
        have cB : ∀ o, (wr.alloc o).cell? ⟨bx, 0, none⟩ = some (.map (some M)) := fun o => (((Below.refl _ wr).alloc (Nat.le_refl _) o).cell (p := ⟨bx, 0, none⟩) (by show bx < wr.heap.size; omega)).trans cb
        have HE : Hid (∀ o, Below (w.heap.size + 1) (w.alloc (.cells #[.string p, .string t, .bool r] 73)) (wr.alloc o).drew ∧ Below w.heap.size w (wr.alloc o).drew) := fun o => ⟨(HB.out.alloc (by omega) o).drew, (HF.out.alloc (by omega) o).drew⟩
        clear hlk hownr
        have HQ : Hid (∀ hb, Maps.has D (.string (p.extract 0 k).data.toList) = hb → (decide (p.data.toList.getD k 0 = 47) && Maps.has D (.string (p.extract 0 k).data.toList)) = hb) := fun hb h => HH.out.trans h
        obtain ⟨hb, hhb⟩ : ∃ hb, Maps.has D (.string (p.extract 0 k).data.toList) = hb := ⟨_, rfl⟩
        have HR : Hid ((decide (p.data.toList.getD k 0 = 47) && Maps.has D (.string (p.extract 0 k).data.toList)) = hb) := HQ.out hb hhb
        rw [hhb] at l0
        simp only [hhb] at l1
        clear hhb HH HQ
        cases hb with
        | true =>
          go_wp2
          go_region
          go_wp2
          go_ret
          refine ⟨?_, (HE.out _).2⟩
          have : thrB p D = true := List.any_eq_true.2 ⟨k, List.mem_range.2 hlt, HR.out⟩
          rw [this]
          rfl
        | false =>
          go_wp2
          go_region
          go_wp2
          refine ⟨⟨k + 1, by omega, by go_num, fun j hj => ?_, (HE.out _).1⟩, by simp [intOf]; omega⟩
          by_cases h : j < k
          · exact HL.out j h
          · obtain rfl : j = k := by omega
            exact HR.out
      · have H47 : Hid (¬ p.data.toList.getD k 0 = 47) := h47
        rw [decide_eq_false h47] at hq
        have hq' : ((p[k].toNat : Int) != 47) = true := hq
        clear hq h47 hownr
        go_wp2
        refine ⟨⟨k + 1, by omega, by go_num, fun j hj => ?_, HB.out⟩, by simp [intOf]; omega⟩
        by_cases h : j < k
        · exact HL.out j h
        · obtain rfl : j = k := by omega
          rw [decide_eq_false H47.out, Bool.false_and]
    · have hki : ¬ (k : Int) < p.size := by omega
      have e : thrB p D = false := by
        unfold thrB
        rw [List.any_eq_false]
        intro j hj
        rw [HL.out j (by have := List.mem_range.1 hj; omega)]
        decide
      have HE : Hid (thrB p D = false) := e
      clear e hownr
      go_wp2
      go_ret
      exact ⟨by rw [HE.out]; rfl, HF.out⟩

theorem thrB_byD (p : ByteArray) (M : List Fl) : thrB p (byD M) = M.any fun g => inB p g.pa := by
  rw [Bool.eq_iff_iff]
  unfold thrB
  rw [List.any_eq_true, List.any_eq_true]
  constructor
  · rintro ⟨i, hi, h⟩
    rw [Bool.and_eq_true, has_byD, List.any_eq_true] at h
    obtain ⟨h1, g, hg, h2⟩ := h
    exact ⟨g, hg, (inB_iff _ _).2 ⟨i, List.mem_range.1 hi, of_decide_eq_true h1, of_decide_eq_true h2⟩⟩
  · rintro ⟨g, hg, h⟩
    obtain ⟨i, h1, h2, h3⟩ := (inB_iff _ _).1 h
    refine ⟨i, List.mem_range.2 h1, ?_⟩
    rw [Bool.and_eq_true, has_byD, List.any_eq_true]
    exact ⟨decide_eq_true h2, g, hg, decide_eq_true h3⟩

theorem anyD (L M : List Fl) : (L.any fun f => thrB f.pa (byD M)) = thruF L M := by
  unfold thruF
  congr 1
  funext f
  exact thrB_byD _ _
end Go.Proofs.YtbmfchflnfdjaaaGreatDoor

/- Check: does some path go through a file? -/
namespace Go.Proofs.YtbmfchflnfdjaaaGreatDoor
open Go.RowKit Go.Shelf Go.Maps Go.WideMaps

/-- How the search ends. -/
def IdxP (b : Bool) (w : World) (e : Ending) (w' : World) : Prop := ∃ r : Int, e = .returned (.int .i64 r) ∧ decide (0 ≤ r) = b ∧ Below w.heap.size w w'

set_option maxHeartbeats 4000000 in
set_option maxRecDepth 100000 in
theorem idxT_any (ao : Option Addr) (cap : Nat) (L : List Fl) (bx M n : Nat) (D : DataW Unit) (w : World) (hn : L.length ≤ 1000000) (hl : IsFl w ao L) (hs : ∀ f ∈ L, f.pa.size ≤ 1000000) (hbx : w.cell? ⟨bx, 0, none⟩ = some (.map (some M))) (hown : w.ownsMap Tryz.prog 9 fileE M n D) :
    Calls Tryz.prog 79 #[.slice ao L.length cap, .func (.func 62) #[] #[.pointer (some ⟨bx, 0, none⟩)]] w (IdxP (L.any fun f => thrB f.pa D) w) := by
  have hbl : bx < w.heap.size := by simpa using World.block_lt_of_cell? w _ hbx
  have hMl := hown.lt
  have HL : Hid (IsFl w ao L) := hl
  have HS : Hid (∀ f ∈ L, f.pa.size ≤ 1000000) := hs
  have HX : Hid (w.cell? ⟨bx, 0, none⟩ = some (.map (some M))) := hbx
  have HO : Hid (w.ownsMap Tryz.prog 9 fileE M n D) := hown
  have hn1 : (L.length : Int) ≤ 1000000 := by omega
  clear hl hs hbx hown
  go_enter Tryz.func79, Tryz.ntmps79
  go_wp2
  go_loopw [8] (fun i wr => ∃ k : Nat, k ≤ L.length ∧ i = .int .i64 k ∧ (∀ j, (hj : j < L.length) → j < k → thrB L[j].pa D = false) ∧ Below w.heap.size w wr) (fun i _ => L.length - (intOf i).toNat)
  case atStart => exact ⟨0, by omega, rfl, by omega, Below.refl _ _⟩
  case round =>
    obtain ⟨k, hk, rfl, hlo, hb⟩ := hrel
    have HN : Hid (∀ j, (hj : j < L.length) → j < k → thrB L[j].pa D = false) := hlo
    have HB : Hid (Below w.heap.size w wr) := hb
    have hsz := hb.size
    clear hlo
    by_cases hlt : k < L.length
    · have HLB := HL.out.below hb (Nat.le_refl _)
      rcases HLB with h | ⟨g, o, rfl, hgr, hc⟩
      · exfalso; rw [h] at hlt; exact absurd hlt (by simp)
      obtain ⟨c0, c1, c2⟩ := hc k hlt
      have hpa := HS.out _ (List.getElem_mem hlt)
      have HC : Hid (Calls Tryz.prog 62 #[encF L[k], .pointer (some ⟨bx, 0, none⟩)] wr fun e w' => e = .returned (.bool (thrB L[k].pa D)) ∧ Below wr.heap.size wr w') :=
        thr1_any L[k] bx M n D wr ((hb.cell (p := ⟨bx, 0, none⟩) hbl).trans HX.out) (ownsMap_heap HO.out (hb.block M hMl)) hpa
      have HP : Hid (∀ b, thrB L[k].pa D = b → b = true → (L.any fun f => thrB f.pa D) = true) := fun b h1 h2 => List.any_eq_true.2 ⟨L[k], List.getElem_mem hlt, h1.trans h2⟩
      clear hc hb hpa
      unfold encF at HC
      generalize hx : L[k] = x at c0 c1 c2 HC HP
      have HK : Hid (L[k] = x) := hx
      clear hx
      obtain ⟨p, t, r⟩ := x
      simp only at c0 c1 c2 HC HP
      obtain ⟨b, hb2⟩ : ∃ b, thrB p D = b := ⟨_, rfl⟩
      have HE : Hid (thrB p D = b) := hb2
      rw [hb2] at HC
      clear hb2
      cases b with
      | true =>
        go_wp2_with (first | (go_at_call 62; refine HC.out.mono ?_; rintro e w1 ⟨rfl, hb1⟩) | go_in)
        go_ret
        refine ⟨k, rfl, ?_, HB.out.trans (hb1.mono hsz)⟩
        rw [HP.out true HE.out rfl]
        simp
      | false =>
        go_wp2_with (first | (go_at_call 62; refine HC.out.mono ?_; rintro e w1 ⟨rfl, hb1⟩) | go_in)
        refine ⟨⟨k + 1, by omega, by go_num, fun j hj hjk => ?_, HB.out.trans (hb1.mono hsz)⟩, by simp [intOf]; omega⟩
        by_cases h : j < k
        · exact HN.out j hj h
        · obtain rfl : j = k := by omega
          rw [HK.out]
          exact HE.out
    · clear hb
      go_wp2
      go_ret
      refine ⟨-1, rfl, ?_, HB.out⟩
      rw [show (L.any fun f => thrB f.pa D) = false from List.any_eq_false.2 fun f hf => by
        obtain ⟨j, hj, rfl⟩ := List.getElem_of_mem hf
        rw [HN.out j hj (by omega)]
        decide]
      rfl

set_option maxHeartbeats 2000000 in
set_option maxRecDepth 100000 in
theorem cfT_of (ao : Option Addr) (ln cap bx : Nat) (b : Bool) (w : World) (HI : Hid (Calls Tryz.prog 79 #[.slice ao ln cap, .func (.func 62) #[] #[.pointer (some ⟨bx, 0, none⟩)]] w (IdxP b w))) :
    Calls Tryz.prog 61 #[.slice ao ln cap, .func (.func 62) #[] #[.pointer (some ⟨bx, 0, none⟩)]] w fun e w' => e = .returned (.bool b) ∧ Below w.heap.size w w' := by
  go_enter Tryz.func61, Tryz.ntmps61
  go_wp2_with fail
  refine HI.out.mono ?_
  rintro e w1 ⟨r, rfl, hr, hb1⟩
  have HB1 : Hid (Below w.heap.size w w1) := hb1
  have HR : Hid (decide (0 ≤ r) = b) := hr
  clear hb1 hr
  go_wp2
  go_ret
  exact ⟨by rw [← HR.out]; rfl, HB1.out⟩

set_option maxHeartbeats 2000000 in
set_option maxRecDepth 100000 in
theorem someGo_any (ao : Option Addr) (cap : Nat) (L : List Fl) (M n : Nat) (D : DataW Unit) (w : World) (hn : L.length ≤ 1000000) (hl : IsFl w ao L) (hs : ∀ f ∈ L, f.pa.size ≤ 1000000) (hown : w.ownsMap Tryz.prog 9 fileE M n D) :
    Calls Tryz.prog 43 #[.slice ao L.length cap, .map (some M)] w fun e w' => e = .returned (.bool (L.any fun f => thrB f.pa D)) ∧ Below w.heap.size w w' := by
  have hA : Below w.heap.size w (w.alloc (.cells #[.map (some M)] 75)) := (Below.refl _ w).alloc (Nat.le_refl _) _
  have HC : Hid (Calls Tryz.prog 61 #[.slice ao L.length cap, .func (.func 62) #[] #[.pointer (some ⟨w.heap.size, 0, none⟩)]] (w.alloc (.cells #[.map (some M)] 75)) fun e w' => e = .returned (.bool (L.any fun f => thrB f.pa D)) ∧ Below w.heap.size w w') :=
    (cfT_of ao L.length cap w.heap.size _ _ (idxT_any ao cap L w.heap.size M n D (w.alloc (.cells #[.map (some M)] 75)) hn (hl.below hA (Nat.le_refl _)) hs (Lib.cell_of_heap (heap_alloc_new w _) 0) (hown.alloc _))).mono fun e w' h => ⟨h.1, hA.trans (h.2.mono hA.size)⟩
  clear hA hl hs hown
  go_enter Tryz.func43, Tryz.ntmps43
  go_wp2_with (first | (go_at_call 61; refine HC.out.mono ?_; rintro e w1 ⟨rfl, hb1⟩) | go_in)
  go_ret
  exact ⟨rfl, hb1⟩
end Go.Proofs.YtbmfchflnfdjaaaGreatDoor

/- Check, whole. -/
namespace Go.Proofs.YtbmfchflnfdjaaaGreatDoor
open Go.RowKit Go.Shelf Go.Maps Go.WideMaps

theorem pathOk_size {p : ByteArray} (h : pathOk p = true) : p.size ≤ 100 := by
  unfold pathOk at h
  rw [Bool.and_eq_true] at h
  exact of_decide_eq_true h.1

set_option maxHeartbeats 2000000 in
set_option maxRecDepth 100000 in
theorem Check_many (ao : Option Addr) (n cap : Nat) (w : World) (hn : 60 < n) :
    Calls Tryz.prog 23 #[.slice ao n cap] w fun e w' => e = .returned (.int .i64 2) ∧ Below w.heap.size w w' := by
  have hn1 : 60 < (n : Int) := by omega
  clear hn
  go_enter Tryz.func23, Tryz.ntmps23
  go_wp2
  go_ret
  exact ⟨rfl, Below.refl _ _⟩

set_option maxHeartbeats 4000000 in
set_option maxRecDepth 100000 in
theorem Check_few (ao : Option Addr) (cap : Nat) (L : List Fl) (w : World) (hn : L.length ≤ 60) (hl : IsFl w ao L) (hm : MaxIs w) :
    Calls Tryz.prog 23 #[.slice ao L.length cap] w fun e w' => e = .returned (.int .i64 (chF L)) ∧ Below w.heap.size w w' := by
  have HL : Hid (IsFl w ao L) := hl
  have HM : Hid (MaxIs w) := hm
  have HN : Hid (L.length ≤ 60) := hn
  have hn1 : (L.length : Int) ≤ 60 := by omega
  clear hl hm hn
  go_enter Tryz.func23, Tryz.ntmps23
  go_wp2
  go_loopw [12] (fun i wr => ∃ k : Nat, k ≤ L.length ∧ i = .int .i64 k ∧ (∀ j, (hj : j < L.length) → j < k → flE L[j] = 0) ∧ Below w.heap.size w wr) (fun i _ => L.length - (intOf i).toNat)
  case atStart => exact ⟨0, by omega, rfl, by omega, Below.refl _ _⟩
  case round =>
    obtain ⟨k, hk, rfl, hlo, hb⟩ := hrel
    have HO : Hid (∀ j, (hj : j < L.length) → j < k → flE L[j] = 0) := hlo
    have HB : Hid (Below w.heap.size w wr) := hb
    have hsz := hb.size
    have HLB : Hid (IsFl wr ao L) := HL.out.below hb (Nat.le_refl _)
    clear hlo
    by_cases hlt : k < L.length
    · rcases HLB.out with h | ⟨g, o, rfl, hgr, hc⟩
      · exfalso; rw [h] at hlt; exact absurd hlt (by simp)
      obtain ⟨c0, c1, c2⟩ := hc k hlt
      have HF : Hid (Calls Tryz.prog 39 #[encF L[k]] (wr.alloc (.cells #[.string L[k].pa, .string L[k].tx, .bool L[k].rn] 73)) fun e w' => e = .returned (.int .i64 (flE L[k])) ∧ Below w.heap.size w w') := by
        have hA : Below w.heap.size w (wr.alloc (.cells #[.string L[k].pa, .string L[k].tx, .bool L[k].rn] 73)) := hb.alloc hsz _
        refine (fileError_any L[k] _ ?_).mono fun e w' h => ⟨h.1, hA.trans (h.2.mono hA.size)⟩
        exact HM.out.up (hA.trans ((flW_bel _ _).mono hA.size))
      have HQ : Hid (flE L[k] ≠ 0 → chF L = flE L[k]) := fun hne => by
        have h1 := flEs_no L k hlt (fun j hj hjk => HO.out j hj hjk) hne
        unfold chF
        have := HN.out
        rw [if_neg (by omega), h1, if_neg hne]
      clear hc hb HLB
      unfold encF at HF
      generalize hx : L[k] = x at c0 c1 c2 HF HQ
      have HK : Hid (L[k] = x) := hx
      clear hx
      obtain ⟨p, t, r⟩ := x
      simp only at c0 c1 c2 HF
      obtain ⟨ev, hev⟩ : ∃ ev, flE ⟨p, t, r⟩ = ev := ⟨_, rfl⟩
      have HE : Hid (flE ⟨p, t, r⟩ = ev) := hev
      rw [hev] at HF HQ
      clear hev
      by_cases h0 : ev = 0
      · subst h0
        go_wp2_with (first | (go_at_call 39; refine HF.out.mono ?_; rintro e w1 ⟨rfl, hb1⟩) | go_in)
        refine ⟨⟨k + 1, by omega, by go_num, fun j hj hjk => ?_, hb1⟩, by simp [intOf]; omega⟩
        by_cases h : j < k
        · exact HO.out j hj h
        · obtain rfl : j = k := by omega
          rw [HK.out]
          exact HE.out
      · have H0 : Hid (ev ≠ 0) := h0
        have h0' : (ev != 0) = true := by simpa using h0
        clear h0
        go_wp2_with (first | (go_at_call 39; refine HF.out.mono ?_; rintro e w1 ⟨rfl, hb1⟩) | go_in)
        go_ret
        exact ⟨by rw [HQ.out H0.out]; rfl, hb1⟩
    · have h0 : flEs L = 0 := flEs_yes L fun j hj => HO.out j hj (by omega)
      have hall : ∀ f ∈ L, f.pa.size ≤ 100 := fun f hf => pathOk_size (flE_pa (flEs_all h0 f hf)).1
      have hN := HN.out
      have hki : ¬ (k : Int) < (L.length : Int) := by omega
      have HV : Hid (chF L = if (upF L && !thruF L L) = true then 0 else 6) := by
        show _ = _
        unfold chF
        rw [if_neg (by omega), if_pos h0]
      have HBy : Hid (Calls Tryz.prog 40 #[.slice ao L.length cap] wr fun e w' => e = .returned (.map (some wr.heap.size)) ∧ w'.ownsMap Tryz.prog 9 fileE wr.heap.size L.length (byD L) ∧ Below wr.heap.size wr w') :=
        byPath_any ao cap L wr (by omega) HLB.out (fun f hf => by have := hall f hf; unfold maxLen; omega)
      have HSo : Hid (∀ W, Below wr.heap.size wr W → Calls Tryz.prog 41 #[.slice ao L.length cap, .func (.func 42) #[] #[]] W (SortedP L W)) := fun W hW =>
        isSorted_any ao cap L W (by omega) (HLB.out.below hW (Nat.le_refl _))
      have HGo : Hid (∀ W, Below wr.heap.size wr W → W.ownsMap Tryz.prog 9 fileE wr.heap.size L.length (byD L) → Calls Tryz.prog 43 #[.slice ao L.length cap, .map (some wr.heap.size)] W fun e w' => e = .returned (.bool (thruF L L)) ∧ Below W.heap.size W w') := fun W hW ho => by
        have := someGo_any ao cap L wr.heap.size L.length (byD L) W (by omega) (HLB.out.below hW (Nat.le_refl _)) (fun f hf => by have := hall f hf; omega) ho
        rw [anyD] at this
        exact this
      have HU1 : Hid (adjF L → Maps.size (byD L) = L.length → upF L = true) := fun h1 h2 => up_of h1 ((size_byD L).2.1 h2)
      have HU2 : Hid (upF L = true → adjF L ∧ Maps.size (byD L) = L.length) := fun h => ⟨up_adj h, (size_byD L).2.2 (up_nodup h)⟩
      have hle := (size_byD L).1
      clear hb h0 hall HM HO HL HLB
      go_wp2_with fail
      refine HBy.out.mono ?_
      rintro e w1 ⟨rfl, hown1, hb1⟩
      have HO1 : Hid (w1.ownsMap Tryz.prog 9 fileE wr.heap.size L.length (byD L)) := hown1
      have HB1 : Hid (Below wr.heap.size wr w1) := hb1
      clear hown1 hb1
      go_wp2_with fail
      refine (HSo.out w1 HB1.out).mono ?_
      rintro e w2 ⟨b, rfl, hbi, hb2⟩
      have HB2 : Hid (Below wr.heap.size wr w2) := HB1.out.trans (hb2.mono HB1.out.size)
      have HO2 : Hid (w2.ownsMap Tryz.prog 9 fileE wr.heap.size L.length (byD L)) := ownsMap_heap HO1.out (hb2.block _ HO1.out.lt)
      have HI : Hid (b = true ↔ adjF L) := hbi
      have hln : ∀ ty, (Builtin.len_ #[75] ty #[.map (some wr.heap.size)]).run Tryz.prog w2 = .ok (.int .i64 (Maps.size (byD L) : Int)) w2 := fun ty => HO2.out.len Tryz.underlying75 ty
      have HGo2 : Hid (Calls Tryz.prog 43 #[.slice ao L.length cap, .map (some wr.heap.size)] w2 fun e w' => e = .returned (.bool (thruF L L)) ∧ Below w2.heap.size w2 w') := HGo.out w2 HB2.out HO2.out
      have HBw : Hid (Below w.heap.size w w2) := HB.out.trans (HB2.out.mono hsz)
      have hsz2 : w.heap.size ≤ w2.heap.size := HBw.out.size
      clear hbi hb2 HGo HSo HBy HO1 HB1 HB2 HO2 HB
      cases b with
      | false =>
        have HZ : Hid (chF L = 6) := by
          show _ = _
          rw [HV.out, if_neg]
          intro h
          rw [Bool.and_eq_true] at h
          exact absurd (HI.out.2 (HU2.out h.1).1) (by decide)
        go_wp2
        go_ret
        exact ⟨by rw [HZ.out]; rfl, HBw.out⟩
      | true =>
        by_cases hlt2 : Maps.size (byD L) < L.length
        · have HZ : Hid (chF L = 6) := by
            show _ = _
            rw [HV.out, if_neg]
            intro h
            rw [Bool.and_eq_true] at h
            have := (HU2.out h.1).2
            omega
          have hlt3 : (Maps.size (byD L) : Int) < (L.length : Int) := by omega
          clear hlt2
          go_wp2
          go_ret
          exact ⟨by rw [HZ.out]; rfl, HBw.out⟩
        · have hlt3 : ¬ (Maps.size (byD L) : Int) < (L.length : Int) := by omega
          have hup : upF L = true := HU1.out (HI.out.1 rfl) (by omega)
          obtain ⟨b, hb⟩ : ∃ b, thruF L L = b := ⟨_, rfl⟩
          have HV2 : Hid (chF L = if (!b) = true then 0 else 6) := by
            show _ = _
            rw [HV.out, hup, hb, Bool.true_and]
          rw [hb] at HGo2
          clear hlt2 hup hb HV HI
          cases b with
          | true =>
            go_wp2_with (first | (go_at_call 43; refine HGo2.out.mono ?_; rintro e w3 ⟨rfl, hb3⟩) | go_in)
            go_ret
            exact ⟨by rw [HV2.out]; rfl, HBw.out.trans (hb3.mono hsz2)⟩
          | false =>
            go_wp2_with (first | (go_at_call 43; refine HGo2.out.mono ?_; rintro e w3 ⟨rfl, hb3⟩) | go_in)
            go_ret
            exact ⟨by rw [HV2.out]; rfl, HBw.out.trans (hb3.mono hsz2)⟩

/-- Check, at whatever list. -/
theorem Check_any (ao : Option Addr) (cap : Nat) (L : List Fl) (w : World) (hl : IsFl w ao L) (hm : MaxIs w) :
    Calls Tryz.prog 23 #[.slice ao L.length cap] w fun e w' => e = .returned (.int .i64 (chF L)) ∧ Below w.heap.size w w' := by
  by_cases h : 60 < L.length
  · have e : chF L = 2 := by unfold chF; rw [if_pos h]
    rw [e]
    exact Check_many ao _ cap w h
  · exact Check_few ao cap L w (by omega) hl hm
end Go.Proofs.YtbmfchflnfdjaaaGreatDoor

/- Texts that are the same, as the laws ask it; Check where names are wrong. -/
namespace Go.Proofs.YtbmfchflnfdjaaaGreatDoor
open Go.RowKit Go.Shelf Go.Maps
theorem TxIn.drewN {w : World} {v : Value} {l : List ByteArray} (h : TxIn w v l) (n : Nat) : TxIn (w.drewN n) v l := h
theorem below_drw {B : Nat} {w w' : World} (h : Below B w w') (n : Nat) : Below B w (w'.drewN n) := ⟨h.os, h.tape, h.output, h.size, h.block⟩
/-- Two lists of texts: are they the same? -/
def smB (l m : List ByteArray) : Bool := decide (l = m)

set_option maxHeartbeats 4000000 in
set_option maxRecDepth 100000 in
theorem Same_yes (v u : Value) (l : List ByteArray) (w : World) (hx : TxIn w v l) (hy : TxIn w u l) :
    Calls Tryz.prog 11 #[v, u] w fun e w' => e = .returned (.bool true) ∧ Hid (Below w.heap.size w w') := by
  obtain ⟨_, hn, xa, xc, rfl, hx⟩ := hx
  obtain ⟨_, _, ya, yc, rfl, hy⟩ := hy
  have HX : Hid (l = [] ∨ ∃ g o, xa = some ⟨g, o, none⟩ ∧ g < w.heap.size ∧ ∀ j (hj : j < l.length), w.cell? ⟨g, o + j, none⟩ = some (.string l[j])) := hx
  have HY : Hid (l = [] ∨ ∃ g o, ya = some ⟨g, o, none⟩ ∧ g < w.heap.size ∧ ∀ j (hj : j < l.length), w.cell? ⟨g, o + j, none⟩ = some (.string l[j])) := hy
  have hn1 : (l.length : Int) ≤ 1048576 := by omega
  clear hx hy
  go_enter Tryz.func11, Tryz.ntmps11
  go_wp2
  go_loopw [5] (fun i wr => ∃ k m : Nat, k ≤ l.length ∧ i = .int .i64 k ∧ wr = w.drewN m) (fun i _ => l.length - (intOf i).toNat)
  case atStart => exact ⟨0, 0, Nat.zero_le _, rfl, rfl⟩
  case round =>
    obtain ⟨k, m, hk, rfl, rfl⟩ := hrel
    by_cases hlt : k < l.length
    · rcases HX.out with h | ⟨g, o, rfl, _, ca⟩
      · exfalso; rw [h] at hlt; exact absurd hlt (by simp)
      rcases HY.out with h | ⟨g2, o2, rfl, _, cb⟩
      · exfalso; rw [h] at hlt; exact absurd hlt (by simp)
      have a0 := ca k hlt
      have b0 := cb k hlt
      have hki : (k : Int) < (l.length : Int) := by omega
      clear ca cb
      generalize l[k] = x at a0 b0
      go_wp2
      go_region
      all_goals go_wp2
      all_goals exact ⟨⟨k + 1, m + 1, by omega, by go_num, rfl⟩, by simp [intOf]; omega⟩
    · obtain rfl : k = l.length := by omega
      have hki : ¬ (l.length : Int) < (l.length : Int) := by omega
      go_wp2
      go_ret
      exact ⟨rfl, below_drw (Below.refl _ w) m⟩

set_option maxHeartbeats 2000000 in
set_option maxRecDepth 100000 in
theorem Check_bad (ao : Option Addr) (cap : Nat) (L : List Tg) (w : World) (hl : IsTg w ao L) (hn : L.length ≤ 1048576) (hs : ∀ t ∈ L, ∀ y ∈ t.ns, y.size ≤ maxLen) (hm : MaxIs w) (hc : ckN L ≠ 0) :
    Calls Tryz.prog 14 #[.slice ao L.length cap, .slice none 0 0] w fun e w' => e = .returned (.tuple #[.string ⟨#[]⟩, .int .i64 (ckN L)]) ∧ Hid (Below w.heap.size w w') := by
  have HT : Hid (Calls Tryz.prog 23 #[.slice none 0 0] w fun e w' => e = .returned (.int .i64 0) ∧ Hid (Below w.heap.size w w')) := (Check_any none 0 [] w (.inl rfl) hm).mono fun e w' h => ⟨h.1, h.2⟩
  have HN : Hid (∀ w1, Below w.heap.size w w1 → Calls Tryz.prog 15 #[.slice ao L.length cap] w1 fun e w' => ∃ mo, e = .returned (.tuple #[.map mo, .int .i64 (ckN L)]) ∧ Hid (Below w.heap.size w w')) := fun w1 hb => (needsOf_any ao cap L w1 (hl.below hb (Nat.le_refl _)) hn hs).mono fun e w' ⟨mo, q1, _, _, q4⟩ => ⟨mo, q1, hb.trans (q4.mono hb.size)⟩
  clear hl hn hs hm
  generalize L.length = ln at *
  generalize ckN L = c at *
  have hc1 : ¬(c : Int) = 0 := hc
  go_enter Tryz.func14, Tryz.ntmps14
  go_wp2_with (first
    | (go_at_call 23; refine HT.out.mono ?_; rintro e w1 ⟨rfl, H1⟩; have H2 := HN.out w1 H1.out)
    | (go_at_call 15; refine H2.mono ?_; rintro e w2 ⟨mo, rfl, H3⟩)
    | go_in)
  go_ret2
  exact ⟨rfl, H3⟩
end Go.Proofs.YtbmfchflnfdjaaaGreatDoor

/- What the laws begin with: two targets, one of which needs the other. -/
namespace Go.Proofs.YtbmfchflnfdjaaaGreatDoor
open Go.RowKit Go.Shelf Go.Maps
def aB : ByteArray := ⟨#[97]⟩
def bB : ByteArray := ⟨#[98]⟩
def nlS : Value := .slice none 0 0
def tgA (g : Nat) : Tg := ⟨aB, nlS, .slice (some ⟨g, 0, none⟩) 1 1, nlS, nlS, [], [bB], [], []⟩
def tgB : Tg := ⟨bB, nlS, nlS, nlS, nlS, [], [], [], []⟩
def tg2 (g : Nat) : List Tg := [tgA g, tgB]
theorem nmA : nameOk aB = true := by unfold nameOk; rw [Lib.toList_data]; decide
theorem nmBB : nameOk bB = true := by unfold nameOk; rw [Lib.toList_data]; decide
theorem names2 (g : Nat) : (tg2 g).map tnm = [[97], [98]] := rfl
theorem nf2_a (g : Nat) : nfL (tg2 g) [97] = [bB] := rfl
theorem nf2_b (g : Nat) : nfL (tg2 g) [98] = [] := rfl
theorem nd2_a (g : Nat) : ndT (nfL (tg2 g)) [97] = [[98]] := rfl
theorem nd2_b (g : Nat) : ndT (nfL (tg2 g)) [98] = [] := rfl
theorem ok2 (g : Nat) : NmOk (tg2 g) := by
  refine ⟨by simp [tg2], fun t ht => ?_, by rw [names2]; decide, fun t ht y hy => ?_⟩
  · rcases List.mem_cons.1 ht with rfl | ht
    · exact nmA
    · rw [List.mem_singleton.1 ht]; exact nmBB
  · rw [names2]
    rcases List.mem_cons.1 ht with rfl | ht
    · rw [List.mem_singleton.1 (show y ∈ [bB] from hy)]
      decide
    · rw [List.mem_singleton.1 ht] at hy
      cases hy
theorem ck2 (g : Nat) : ckN (tg2 g) = 0 := ckN_ok.2 (ok2 g)
theorem ck1 (g : Nat) : ckN [tgA g] = 5 := by
  have h1 : ([tgA g].any fun t => !nameOk t.nm) = false := by
    rw [List.any_cons, show (tgA g).nm = aB from rfl, nmA]
    rfl
  unfold ckN
  rw [if_neg (by simp), if_neg (by rw [h1]; simp), if_pos (by simp), if_pos ?_]
  refine List.any_eq_true.2 ⟨tgA g, by simp, List.any_eq_true.2 ⟨bB, by simp [tgA], ?_⟩⟩
  rw [has_ndD]
  rfl
theorem kn2 (g : Nat) (S : List UInt8 → Prop) (hS : ∀ k, k ∈ [[97], [98]] ↔ S k) : OrQ (nfL (tg2 g)) S [[97], [98]] [bB, aB] := by
  refine ⟨by decide, hS, fun i hi => ?_, fun k hk hn => ?_⟩
  · have h2 : i < 2 := hi
    rcases (show i = 0 ∨ i = 1 by omega) with rfl | rfl
    · show Stp _ _ _ [] [98]
      refine ⟨by decide, by decide, fun y hy => ?_, fun k hk _ hr => ?_⟩
      · rw [nd2_b] at hy
        cases hy
      · rcases List.mem_cons.1 hk with rfl | hk
        · rw [nd2_a] at hr
          have := hr [98] (by simp)
          cases this
        · rw [List.mem_singleton.1 hk]
          decide
    · show Stp _ _ _ [[98]] [97]
      refine ⟨by decide, by decide, fun y hy => ?_, fun k hk hn _ => ?_⟩
      · rw [nd2_a] at hy
        rw [List.mem_singleton.1 hy]
        decide
      · rcases List.mem_cons.1 hk with rfl | hk
        · decide
        · rw [List.mem_singleton.1 hk] at hn
          exact absurd (by decide) hn
  · exfalso
    apply hn
    rcases List.mem_cons.1 hk with rfl | hk
    · decide
    · rw [List.mem_singleton.1 hk]
      decide
theorem ls2 (g : Nat) {o : List ByteArray} {c : Int} (h : LsA (ckN (tg2 g)) (nfL (tg2 g)) (fun k => k ∈ (tg2 g).map tnm) o c) : o = [bB, aB] ∧ c = 0 :=
  h.uniq (.inr ⟨ck2 g, _, _, kn2 g (fun k => k ∈ (tg2 g).map tnm) (fun _ => Iff.rfl), .inr ⟨rfl, rfl, rfl⟩⟩) (fun _ _ => Iff.rfl) (fun _ _ _ => rfl)
theorem ckw2 (g : Nat) (x : ByteArray) (h : tl x ∈ [[97], [98]]) : ckW (tg2 g) x = 0 := ckW_ok.2 ⟨ok2 g, by rw [names2]; exact h⟩
theorem cn2 (g : Nat) (k : List UInt8) : k ∈ [[97], [98]] ↔ CnS (tg2 g) aB k := by
  constructor
  · intro hk
    rcases List.mem_cons.1 hk with rfl | hk
    · exact Rs.base rfl
    · rw [List.mem_singleton.1 hk]
      exact Rs.step (a := [97]) (Rs.base rfl) (by rw [nd2_a]; simp)
  · intro h
    refine h (fun k => k ∈ [[97], [98]]) (fun x hx => by rw [hx]; decide) (fun a ha y hy => ?_)
    rcases List.mem_cons.1 ha with rfl | ha
    · rw [nd2_a] at hy
      rw [List.mem_singleton.1 hy]
      decide
    · rw [List.mem_singleton.1 ha, nd2_b] at hy
      cases hy
theorem dpv2 (g : Nat) : (1 : Int) = dpF (nfL (tg2 g)) [bB, aB] (tl aB) := by
  have e : dpF (nfL (tg2 g)) [bB, aB] = dpI [97] [bB] (dpI [98] [] fun _ => 0) := rfl
  rw [e]
  decide
theorem dp2 (g : Nat) {n c : Int} (h : DpA (ckW (tg2 g) aB) (nfL (tg2 g)) (CnS (tg2 g) aB) (tl aB) n c) : n = 1 ∧ c = 0 :=
  h.uniq (.inr ⟨ckw2 g aB (by decide), _, _, kn2 g _ (cn2 g), .inr ⟨rfl, dpv2 g, rfl⟩⟩) (fun _ _ => Iff.rfl) (fun _ _ _ => rfl)
theorem us2 (g : Nat) {o : List ByteArray} {c : Int} (h : UsA (ckW (tg2 g) bB) (UsT (tg2 g) bB) o c) : o = [aB] ∧ c = 0 := by
  refine h.uniq (T2 := UsT (tg2 g) bB) (.inr ⟨ckw2 g bB (by decide), rfl, List.pairwise_singleton _ _, fun k => ?_⟩) (fun _ _ => Iff.rfl)
  constructor
  · intro hk
    rw [List.mem_singleton.1 (show k ∈ [[97]] from hk)]
    exact ⟨by rw [names2]; simp, Rs.base (by rw [nd2_a]; simp [tl, bB])⟩
  · rintro ⟨h1, h2⟩
    rw [names2] at h1
    rcases List.mem_cons.1 h1 with rfl | h1
    · decide
    · rw [List.mem_singleton.1 h1] at h2
      exact (h2 (fun _ => False) (fun x hx => by rw [nd2_b] at hx; cases hx) (fun _ ha _ _ => ha)).elim
end Go.Proofs.YtbmfchflnfdjaaaGreatDoor

/- What the laws begin with, walked. -/
namespace Go.Proofs.YtbmfchflnfdjaaaGreatDoor
open Go.RowKit Go.Shelf Go.Maps
theorem tx_nil (w : World) : TxIn w (.slice none 0 0) [] := ⟨⟨none, 0, 0, rfl⟩, Nat.zero_le _, none, 0, rfl, .inl rfl⟩
theorem tx_two (w : World) (x y : ByteArray) : TxIn (w.alloc (.cells #[.string x, .string y] 9)) (.slice (some ⟨w.heap.size, 0, none⟩) 2 2) [x, y] := by
  refine ⟨⟨_, _, _, rfl⟩, by simp, _, _, rfl, .inr ⟨w.heap.size, 0, rfl, by rw [World.size_alloc]; omega, fun j hj => ?_⟩⟩
  have h2 : j < 2 := hj
  rw [Lib.cell_of_heap (heap_alloc_new w _)]
  rcases (show j = 0 ∨ j = 1 by omega) with rfl | rfl <;> rfl
def W2 (w : World) : World := (w.alloc (.cells #[.string bB] 9)).alloc (.cells #[.string aB, nlS, .slice (some ⟨w.heap.size, 0, none⟩) 1 1, nlS, nlS, .string bB, nlS, nlS, nlS, nlS] 36)
theorem W2_at (w : World) : (W2 w).heap[w.heap.size + 1]? = some (.cells #[.string aB, nlS, .slice (some ⟨w.heap.size, 0, none⟩) 1 1, nlS, nlS, .string bB, nlS, nlS, nlS, nlS] 36 (0, 0)) := by
  unfold W2
  rw [← World.size_alloc w (.cells #[.string bB] 9)]
  exact heap_alloc_new _ _
theorem W2_below (w : World) : Below w.heap.size w (W2 w) := ((Below.refl _ w).alloc (Nat.le_refl _) _).alloc (by rw [World.size_alloc]; omega) _
theorem W2_size (w : World) : (W2 w).heap.size = w.heap.size + 2 := by unfold W2; rw [World.size_alloc, World.size_alloc]
theorem tg2_is (w : World) : IsTg (W2 w) (some ⟨w.heap.size + 1, 0, none⟩) (tg2 w.heap.size) := by
  have hz := W2_size w
  refine ⟨.inr ⟨_, _, rfl, by omega, fun j hj => ?_⟩, fun t ht => ?_, fun t ht => ?_⟩
  · have h2 : j < 2 := hj
    simp only [Lib.cell_of_heap (W2_at w)]
    rcases (show j = 0 ∨ j = 1 by omega) with rfl | rfl <;> exact ⟨rfl, rfl, rfl, rfl, rfl⟩
  · have hn : TxIn (W2 w) (.slice none 0 0) [] := tx_nil _
    rcases List.mem_cons.1 ht with rfl | ht
    · refine ⟨hn, ?_, hn, hn⟩
      exact (tx_one w bB).below ((Below.refl _ _).alloc (Nat.le_refl _) _) (Nat.le_refl _)
    · rw [List.mem_singleton.1 ht]
      exact ⟨hn, hn, hn, hn⟩
  · rcases List.mem_cons.1 ht with rfl | ht
    · exact (by decide : (⟨#[97]⟩ : ByteArray).size ≤ 1048576)
    · rw [List.mem_singleton.1 ht]
      exact (by decide : (⟨#[98]⟩ : ByteArray).size ≤ 1048576)
theorem tg2_sz (g : Nat) : ∀ t ∈ tg2 g, ∀ y ∈ t.ns, y.size ≤ maxLen := fun t ht y hy => by
  rcases List.mem_cons.1 ht with rfl | ht
  · rw [List.mem_singleton.1 (show y ∈ [bB] from hy)]
    decide
  · rw [List.mem_singleton.1 ht] at hy
    cases hy
theorem tg2_nm (g : Nat) : ∀ t ∈ tg2 g, (tnm t).length ≤ maxLen := fun t ht => by
  rcases List.mem_cons.1 ht with rfl | ht
  · exact (by decide : [(97 : UInt8)].length ≤ maxLen)
  · rw [List.mem_singleton.1 ht]
    exact (by decide : [(98 : UInt8)].length ≤ maxLen)
/-- Each of the four calls. -/
theorem bg_order (w w1 : World) (hb : Below (W2 w).heap.size (W2 w) w1) : Calls Tryz.prog 7 #[.slice (some ⟨w.heap.size + 1, 0, none⟩) 2 2] w1 fun e w' => ∃ v, e = .returned (.tuple #[v, .int .i64 0]) ∧ Hid (TxIn w' v [bB, aB] ∧ Below w1.heap.size w1 w') :=
  (Order_tw _ 2 (tg2 w.heap.size) w1 ((tg2_is w).below hb (Nat.le_refl _)) (by simp [tg2]) (tg2_sz _) (tg2_nm _)).mono fun e w' ⟨out, code, v, q1, q2, q3, q4⟩ => by
    obtain ⟨rfl, rfl⟩ := ls2 _ q1
    exact ⟨v, q2, row_tx q3 (by decide), q4⟩
theorem bg_users (w w1 : World) (hb : Below (W2 w).heap.size (W2 w) w1) : Calls Tryz.prog 9 #[.slice (some ⟨w.heap.size + 1, 0, none⟩) 2 2, .string bB] w1 fun e w' => ∃ v, e = .returned (.tuple #[v, .int .i64 0]) ∧ Hid (TxIn w' v [aB] ∧ Below w1.heap.size w1 w') :=
  (Users_tw _ 2 (tg2 w.heap.size) bB w1 ((tg2_is w).below hb (Nat.le_refl _)) (by simp [tg2]) (tg2_sz _) (tg2_nm _) (by decide) (by simp [tg2, tgA, tgB])).mono fun e w' ⟨out, code, v, q1, q2, q3, q4⟩ => by
    obtain ⟨rfl, rfl⟩ := us2 _ q1
    exact ⟨v, q2, row_tx q3 (by decide), q4⟩
theorem bg_depth (w w1 : World) (hb : Below (W2 w).heap.size (W2 w) w1) : Calls Tryz.prog 10 #[.slice (some ⟨w.heap.size + 1, 0, none⟩) 2 2, .string aB] w1 fun e w' => e = .returned (.tuple #[.int .i64 1, .int .i64 0]) ∧ Hid (Below w1.heap.size w1 w') :=
  (Depth_any _ 2 (tg2 w.heap.size) aB w1 ((tg2_is w).below hb (Nat.le_refl _)) (by simp [tg2]) (tg2_sz _) (tg2_nm _) (by decide)).mono fun e w' ⟨n, code, q1, q2, q4⟩ => by
    obtain ⟨rfl, rfl⟩ := dp2 _ q1
    exact ⟨q2, q4⟩
theorem bg_check (w w1 : World) (hm : MaxIs w1) (hb : Below (W2 w).heap.size (W2 w) w1) : Calls Tryz.prog 14 #[.slice (some ⟨w.heap.size + 1, 0, none⟩) 1 2, .slice none 0 0] w1 fun e w' => e = .returned (.tuple #[.string ⟨#[]⟩, .int .i64 5]) ∧ Hid (Below w1.heap.size w1 w') := by
  have h := (tg2_is w).below hb (Nat.le_refl _)
  have h1 : IsTg w1 (some ⟨w.heap.size + 1, 0, none⟩) [tgA w.heap.size] := by
    refine ⟨?_, fun t ht => h.tx t ?_, fun t ht => h.sz t ?_⟩
    · rcases h.at_ with e | ⟨g, o, e, hg, hc⟩
      · cases e
      · refine .inr ⟨g, o, e, hg, fun j hj => ?_⟩
        have e0 : j = 0 := by simp at hj; omega
        subst e0
        exact hc 0 (by simp [tg2])
    · rw [List.mem_singleton.1 ht]; exact List.mem_cons_self
    · rw [List.mem_singleton.1 ht]; exact List.mem_cons_self
  have := Check_bad (some ⟨w.heap.size + 1, 0, none⟩) 2 [tgA w.heap.size] w1 h1 (by simp) (fun t ht => tg2_sz w.heap.size t (by rw [List.mem_singleton.1 ht]; exact List.mem_cons_self)) hm (by rw [ck1]; decide)
  rw [ck1] at this
  exact this

set_option maxHeartbeats 4000000 in
set_option maxRecDepth 100000 in
theorem begun_any (w : World) (hm : MaxIs w) : Calls Tryz.prog 5 #[] w fun e w' => e = .returned (.bool true) ∧ Below w.heap.size w w' := by
  have HM : Hid (∀ w1, Below w.heap.size w w1 → MaxIs w1) := fun w1 hb => hm.up hb
  have H0 : Hid (Below w.heap.size w (W2 w)) := W2_below w
  have H1 := bg_order w
  have H2 := bg_users w
  have H3 := bg_depth w
  have H4 := fun w1 (h : Below w.heap.size w w1) => bg_check w w1 (HM.out w1 h)
  clear hm HM
  unfold bB aB at H1
  unfold bB aB at H2
  unfold aB at H3
  have HS1 : Hid (∀ w4 v, TxIn w4 v [bB, aB] → Calls Tryz.prog 11 #[v, .slice (some ⟨w4.heap.size, 0, none⟩) 2 2] (w4.alloc (.cells #[.string ⟨#[98]⟩, .string ⟨#[97]⟩] 9)) fun e w' => e = .returned (.bool true) ∧ Hid (Below w4.heap.size w4 w')) := fun w4 v h => (Same_yes v _ [bB, aB] _ (h.below ((Below.refl _ w4).alloc (Nat.le_refl _) _) (Nat.le_refl _)) (tx_two w4 bB aB)).mono fun e w' q => ⟨q.1, by
    have hA : Below w4.heap.size w4 (w4.alloc (.cells #[.string ⟨#[98]⟩, .string ⟨#[97]⟩] 9)) := (Below.refl _ w4).alloc (Nat.le_refl _) _
    exact hA.trans (q.2.out.mono hA.size)⟩
  have HS2 : Hid (∀ w4 v, TxIn w4 v [aB] → Calls Tryz.prog 11 #[v, .slice (some ⟨w4.heap.size, 0, none⟩) 1 1] (w4.alloc (.cells #[.string ⟨#[97]⟩] 9)) fun e w' => e = .returned (.bool true) ∧ Hid (Below w4.heap.size w4 w')) := fun w4 v h => (Same_yes v _ [aB] _ (h.below ((Below.refl _ w4).alloc (Nat.le_refl _) _) (Nat.le_refl _)) (tx_one w4 aB)).mono fun e w' q => ⟨q.1, by
    have hA : Below w4.heap.size w4 (w4.alloc (.cells #[.string ⟨#[97]⟩] 9)) := (Below.refl _ w4).alloc (Nat.le_refl _) _
    exact hA.trans (q.2.out.mono hA.size)⟩
  obtain ⟨U, hU⟩ : ∃ U, U = W2 w := ⟨_, rfl⟩
  have HU : Hid (Below w.heap.size w U) := by rw [hU]; exact H0
  rw [← hU] at H1 H2 H3 H4
  unfold W2 aB bB nlS at hU
  clear H0
  go_enter Tryz.func5, Tryz.ntmps5
  go_wp2_with fail
  rw [← hU]
  clear hU
  generalize w.heap.size + 1 = g at *
  refine (H1 U (Below.refl _ _)).mono ?_
  rintro e w1 ⟨v1, rfl, G1⟩
  clear H1
  go_wp2_with fail
  have B1 : Hid (Below U.heap.size U w1) := G1.out.2
  refine (H2 w1 B1.out).mono ?_
  rintro e w2 ⟨v2, rfl, G2⟩
  clear H2
  go_wp2_with fail
  have B2 : Hid (Below U.heap.size U w2) := B1.out.trans (G2.out.2.mono B1.out.size)
  refine (H3 w2 B2.out).mono ?_
  rintro e w3 ⟨rfl, G3⟩
  clear H3
  go_wp2_with fail
  have B3 : Hid (Below U.heap.size U w3) := B2.out.trans (G3.out.mono B2.out.size)
  refine (H4 w3 (HU.out.trans (B3.out.mono HU.out.size)) B3.out).mono ?_
  rintro e w4 ⟨rfl, G4⟩
  clear H4
  have T1 : TxIn w4 v1 [bB, aB] := ((G1.out.1.below G2.out.2 (Nat.le_refl _)).below G3.out (Nat.le_refl _)).below G4.out (Nat.le_refl _)
  have HC1 := HS1.out w4 v1 T1
  have HT2 : Hid (TxIn w4 v2 [aB]) := (G2.out.1.below G3.out (Nat.le_refl _)).below G4.out (Nat.le_refl _)
  have B4 : Hid (Below w.heap.size w w4) := (HU.out.trans (B3.out.mono HU.out.size)).trans (G4.out.mono (Nat.le_trans HU.out.size B3.out.size))
  clear T1 G1 G2 G3 G4 HS1 HU B1 B2 B3
  go_wp2_with fail
  refine HC1.mono ?_
  rintro e w5 ⟨rfl, G5⟩
  have HC2 := HS2.out w5 v2 (HT2.out.below G5.out (Nat.le_refl _))
  clear HC1 HS2
  go_wp2_with fail
  refine HC2.mono ?_
  rintro e w6 ⟨rfl, G6⟩
  have B5 := B4.out.trans (G5.out.mono B4.out.size)
  have B6 : Hid (Below w.heap.size w w6) := B5.trans (G6.out.mono B5.size)
  clear HC2 HT2 B4 B5 G5 G6
  go_wp2
  go_ret
  exact ⟨rfl, B6.out⟩
end Go.Proofs.YtbmfchflnfdjaaaGreatDoor

/- Targets turned round: all is told as it was. -/
namespace Go.Proofs.YtbmfchflnfdjaaaGreatDoor
open Go.RowKit Go.Shelf Go.Maps
theorem any_perm {α : Type} {a b : List α} (h : a.Perm b) (p : α → Bool) : a.any p = b.any p := by
  rw [Bool.eq_iff_iff, List.any_eq_true, List.any_eq_true]
  exact ⟨fun ⟨x, h1, h2⟩ => ⟨x, h.mem_iff.1 h1, h2⟩, fun ⟨x, h1, h2⟩ => ⟨x, h.mem_iff.2 h1, h2⟩⟩
theorem has_perm {L M : List Tg} (h : L.Perm M) (k : List UInt8) : Maps.has (ndD L) (.string k) = Maps.has (ndD M) (.string k) := by
  rw [Bool.eq_iff_iff, has_mem, has_mem]
  exact (h.map tnm).mem_iff
theorem ckN_perm {L M : List Tg} (h : L.Perm M) : ckN L = ckN M := by
  have e : (fun t : Tg => lckB (ndD L) t.ns) = fun t => lckB (ndD M) t.ns := by
    funext t
    unfold lckB
    congr 1
    funext y
    rw [has_perm h]
  unfold ckN
  rw [h.length_eq, any_perm h, e, any_perm h fun t => lckB (ndD M) t.ns]
  by_cases hn : (L.map tnm).Nodup
  · rw [if_pos hn, if_pos ((h.map tnm).nodup_iff.1 hn)]
  · rw [if_neg hn, if_neg fun h2 => hn ((h.map tnm).nodup_iff.2 h2)]
theorem ckW_perm {L M : List Tg} (h : L.Perm M) (x : ByteArray) : ckW L x = ckW M x := by
  unfold ckW
  rw [ckN_perm h, has_perm h]
theorem nfL_perm {L M : List Tg} (h : L.Perm M) (hn : (L.map tnm).Nodup) : nfL L = nfL M := by
  funext k
  by_cases hk : k ∈ L.map tnm
  · obtain ⟨t, ht, rfl⟩ := List.mem_map.1 hk
    rw [nfL_of hn ht, nfL_of ((h.map tnm).nodup_iff.1 hn) (h.mem_iff.1 ht)]
  · have h1 : Maps.has (ndD L) (.string k) = false := Bool.eq_false_iff.2 fun e => hk (has_mem.1 e)
    have h2 : Maps.has (ndD M) (.string k) = false := by rw [← has_perm h]; exact h1
    rw [nfL, nfL, tgF_none h1, tgF_none h2]
theorem ls_perm {L M : List Tg} (h : L.Perm M) {o o2 : List ByteArray} {c c2 : Int} (h1 : LsA (ckN L) (nfL L) (fun k => k ∈ L.map tnm) o c) (h2 : LsA (ckN M) (nfL M) (fun k => k ∈ M.map tnm) o2 c2) : o = o2 ∧ c = c2 := by
  rw [← ckN_perm h] at h2
  exact h1.uniq h2 (fun _ k => (h.map tnm).mem_iff) fun h0 k _ => by rw [nfL_perm h (ckN_ok.1 h0).nod]
theorem cn_perm {L M : List Tg} (h : L.Perm M) {x : ByteArray} {o o2 : List ByteArray} {c c2 : Int} (h1 : LsA (ckW L x) (nfL L) (CnS L x) o c) (h2 : LsA (ckW M x) (nfL M) (CnS M x) o2 c2) : o = o2 ∧ c = c2 := by
  rw [← ckW_perm h] at h2
  exact h1.uniq h2 (fun h0 k => by unfold CnS; rw [nfL_perm h (ckW_ok.1 h0).1.nod]) fun h0 k _ => by rw [nfL_perm h (ckW_ok.1 h0).1.nod]
theorem dp_perm {L M : List Tg} (h : L.Perm M) {x : ByteArray} {n n2 c c2 : Int} (h1 : DpA (ckW L x) (nfL L) (CnS L x) (tl x) n c) (h2 : DpA (ckW M x) (nfL M) (CnS M x) (tl x) n2 c2) : n = n2 ∧ c = c2 := by
  rw [← ckW_perm h] at h2
  exact h1.uniq h2 (fun h0 k => by unfold CnS; rw [nfL_perm h (ckW_ok.1 h0).1.nod]) fun h0 k _ => by rw [nfL_perm h (ckW_ok.1 h0).1.nod]
theorem us_perm {L M : List Tg} (h : L.Perm M) {x : ByteArray} {o o2 : List ByteArray} {c c2 : Int} (h1 : UsA (ckW L x) (UsT L x) o c) (h2 : UsA (ckW M x) (UsT M x) o2 c2) : o = o2 ∧ c = c2 := by
  rw [← ckW_perm h] at h2
  exact h1.uniq h2 fun h0 k => by unfold UsT; rw [nfL_perm h (ckW_ok.1 h0).1.nod, (h.map tnm).mem_iff]
/-- Targets, turned: those from k on, then the others. -/
def rotL (L : List Tg) (k : Nat) : List Tg := L.drop k ++ L.take k
theorem rotL_perm (L : List Tg) (k : Nat) : (rotL L k).Perm L := by
  unfold rotL
  exact List.perm_append_comm.trans (by rw [List.take_append_drop])
theorem out_len {L : List Tg} {c : Int} {S : List UInt8 → Prop} {o : List ByteArray} {e : Int} (h : LsA c (nfL L) S o e) (hs : c = 0 → ∀ k, S k → k ∈ L.map tnm) (hl : L.length ≤ 1048576) : o.length ≤ 1048576 := by
  rcases h with ⟨_, rfl, _⟩ | ⟨h0, ks, q, hq, ⟨_, rfl, _⟩ | ⟨h2, rfl, _⟩⟩
  · exact Nat.zero_le _
  · exact Nat.zero_le _
  · rw [h2]
    refine Nat.le_trans (hq.nod.length_le_of_subset (l₂ := L.map tnm) fun k hk => hs h0 k ((hq.mem k).1 hk)) ?_
    rw [List.length_map]
    exact hl
theorem us_len {L : List Tg} {x : ByteArray} {o : List ByteArray} {e : Int} (h : UsA (ckW L x) (UsT L x) o e) (hl : L.length ≤ 1048576) : o.length ≤ 1048576 := by
  rcases h with ⟨_, rfl, _⟩ | ⟨h0, _, q, hq⟩
  · exact Nat.zero_le _
  · have := (lt_nodup q).length_le_of_subset (l₂ := L.map tnm) fun k hk => ((hq k).1 hk).1
    rw [List.length_map, List.length_map] at this
    omega
theorem cn_in {L : List Tg} {x : ByteArray} (h : ckW L x = 0) : ∀ k, CnS L x k → k ∈ L.map tnm := fun k hk => by
  obtain ⟨hN, hx⟩ := ckW_ok.1 h
  refine hk (fun k => k ∈ L.map tnm) (fun j hj => by rw [hj]; exact hx) fun a ha y hy => ?_
  obtain ⟨z, hz, rfl⟩ := List.mem_map.1 hy
  exact hN.cl a ha z hz
end Go.Proofs.YtbmfchflnfdjaaaGreatDoor

/- Targets turned round, in memory: both appends. -/
namespace Go.Proofs.YtbmfchflnfdjaaaGreatDoor
open Go.RowKit Go.Shelf Go.Maps
attribute [local go_sem ↓] appG_eq2
def tgCells (L : List Tg) : List Value := L.flatMap tgC
theorem tgCells_app (A C : List Tg) : tgCells (A ++ C) = tgCells A ++ tgCells C := by simp [tgCells]
theorem tgCells_len (A : List Tg) : (tgCells A).length = A.length * 5 := by
  induction A with
  | nil => rfl
  | cons f l ih =>
    have e : tgCells (f :: l) = tgC f ++ tgCells l := rfl
    rw [e, List.length_append, ih, List.length_cons]
    simp [tgC]
    omega
theorem tgCells_get (L : List Tg) (j : Nat) (hj : j < L.length) (i : Nat) (hi : i < 5) : (tgCells L)[j * 5 + i]? = (tgC L[j])[i]? := by
  induction L generalizing j with
  | nil => simp at hj
  | cons f l ih =>
    have e : tgCells (f :: l) = tgC f ++ tgCells l := rfl
    rw [e]
    cases j with
    | zero => rw [Nat.zero_mul, Nat.zero_add, List.getElem?_append_left (by simpa [tgC] using hi)]; rfl
    | succ j =>
      have h5 : (tgC f).length = 5 := rfl
      rw [List.getElem?_append_right (by rw [h5]; omega), h5, show (j + 1) * 5 + i - 5 = j * 5 + i by omega]
      exact ih j (by simpa using hj)
theorem tgAt_cells {w : World} {g o : Nat} {F : List Tg} (h : TgAt g o F w) : ∀ j u, (tgCells F)[j]? = some u → w.cell? ⟨g, o + j, none⟩ = some u := fun j u hu => by
  have hj : j < (tgCells F).length := (List.getElem?_eq_some_iff.1 hu).1
  rw [tgCells_len] at hj
  have hq : j / 5 < F.length := by omega
  obtain ⟨h0, h1, h2, h3, h4⟩ := h (j / 5) hq
  have e2 : j = j / 5 * 5 + j % 5 := by omega
  have hm : j % 5 < 5 := by omega
  rw [e2, tgCells_get F (j / 5) hq (j % 5) hm] at hu
  rw [e2]
  generalize j % 5 = i at *
  rcases (show i = 0 ∨ i = 1 ∨ i = 2 ∨ i = 3 ∨ i = 4 by omega) with rfl | rfl | rfl | rfl | rfl
  · rw [← hu]; exact h0
  · rw [← hu, ← Nat.add_assoc]; exact h1
  · rw [← hu, ← Nat.add_assoc]; exact h2
  · rw [← hu, ← Nat.add_assoc]; exact h3
  · rw [← hu, ← Nat.add_assoc]; exact h4
theorem cells_tgAt {w : World} {g o : Nat} {F : List Tg} (h : ∀ j u, (tgCells F)[j]? = some u → w.cell? ⟨g, o + j, none⟩ = some u) : TgAt g o F w := fun j hj => by
  have k : ∀ i (hi : i < 5) u, (tgC F[j])[i]? = some u → w.cell? ⟨g, o + j * 5 + i, none⟩ = some u := fun i hi u hu => by
    rw [Nat.add_assoc]
    exact h _ u ((tgCells_get F j hj i hi).trans hu)
  exact ⟨k 0 (by omega) _ rfl, k 1 (by omega) _ rfl, k 2 (by omega) _ rfl, k 3 (by omega) _ rfl, k 4 (by omega) _ rfl⟩
theorem tgAt_drop {w : World} {g o : Nat} {F : List Tg} (h : TgAt g o F w) (k : Nat) : TgAt g (o + k * 5) (F.drop k) w := fun j hj => by
  have hj2 : k + j < F.length := by rw [List.length_drop] at hj; omega
  have e : o + k * 5 + j * 5 = o + (k + j) * 5 := by omega
  rw [e, List.getElem_drop]
  exact h (k + j) hj2
theorem tgAt_take {w : World} {g o : Nat} {F : List Tg} (h : TgAt g o F w) (k : Nat) : TgAt g o (F.take k) w := fun j hj => by
  have hj2 : j < F.length := by rw [List.length_take] at hj; omega
  rw [List.getElem_take]
  exact h j hj2
/-- Each list of a target is a slice. -/
def Sls (L : List Tg) : Prop := ∀ t ∈ L, IsSl t.vs ∧ IsSl t.vn ∧ IsSl t.vo ∧ IsSl t.vc
theorem sl_one {v : Value} (h : IsSl v) : v.oneCell' = true := by
  obtain ⟨ao, n, c, rfl⟩ := h
  rfl
theorem tgCells_one {L : List Tg} (h : Sls L) : ∀ u ∈ tgCells L, u.oneCell' = true := fun u hu => by
  obtain ⟨t, ht, hf⟩ := List.mem_flatMap.1 hu
  obtain ⟨h1, h2, h3, h4⟩ := h t ht
  simp [tgC] at hf
  rcases hf with rfl | rfl | rfl | rfl | rfl
  · rfl
  · exact sl_one h1
  · exact sl_one h2
  · exact sl_one h3
  · exact sl_one h4
theorem infTg : (Tryz.prog.info? 36).map (fun i => (i.zero, i.size, i.bytes)) = some (some (.agg #[.string ⟨#[]⟩, .slice none 0 0, .slice none 0 0, .slice none 0 0, .slice none 0 0]), 5, 112) := by kernel_rfl
theorem rot_ap {g o cap : Nat} {L : List Tg} {X Y : World} (hF : TgAt g o L X) (hg : g < X.heap.size) (hS : Sls L) (hY : Below X.heap.size X Y) (hE : Y.heap[X.heap.size]? = some (.cells #[] 36 (0, 0))) (hn : L.length ≤ 1048576) (k : Nat) (hk : k < L.length) :
    ∃ (v1 : Value) (rg rc : Nat) (w1 w2 : World), (appG #[22, 22] 22 #[.slice (some ⟨X.heap.size, 0, none⟩) 0 0, .slice (some ⟨g, o + k * 5, none⟩) (L.length - k) (cap - k)]).run Tryz.prog Y = .ok v1 w1 ∧
      (appG #[22, 22] 22 #[v1, .slice (some ⟨g, o, none⟩) k cap]).run Tryz.prog w1 = .ok (.slice (some ⟨rg, 0, none⟩) L.length rc) w2 ∧
      TgAt rg 0 (rotL L k) w2 ∧ rg < w2.heap.size ∧ Below X.heap.size X w2 := by
  obtain ⟨i0, hi, hz0, hz1, hz2⟩ := infoG infTg
  have hlt : X.heap.size < Y.heap.size := (Array.getElem?_eq_some_iff.1 hE).1
  have hFY : TgAt g o L Y := hF.below hY hg
  have hown0 : Y.ownsRow X.heap.size 36 5 (.slice (some ⟨X.heap.size, 0, none⟩) 0 0) 0 [] := ⟨rfl, .inr ⟨X.heap.size, 0, #[], rfl, Nat.le_refl _, hE, Nat.le_refl _, by decide, rfl, rfl⟩⟩
  obtain ⟨v1, w1, hr1, ho1, hg1', _⟩ := run_append_own (P := Tryz.prog) Y X.heap.size 22 22 36 i0 (.agg #[.string ⟨#[]⟩, .slice none 0 0, .slice none 0 0, .slice none 0 0, .slice none 0 0]) 5 112 Tryz.underlying22 hi hz0 hz1 hz2 rfl (by decide) (.slice (some ⟨X.heap.size, 0, none⟩) 0 0) 0 [] hown0 ⟨g, o + k * 5, none⟩ (L.length - k) (cap - k) (tgCells (L.drop k)) (by rw [tgCells_len, List.length_drop]) (fun j u hu => by rw [addr_add]; exact tgAt_cells (tgAt_drop hFY k) j u hu) (tgCells_one fun t ht => hS t (List.mem_of_mem_drop ht)) (by unfold maxLen; omega) (by omega) (by omega)
  have hw1 : Below X.heap.size X w1 := ⟨hg1'.os.trans hY.os, hg1'.tape.trans hY.tape, hg1'.output.trans hY.output, by have := hg1'.size; have := hY.size; omega, fun x hx => (hg1'.block x (by omega) (fun e => by simp [Value.ownBlock] at e; omega)).trans (hY.block x hx)⟩
  have hF1 : TgAt g o L w1 := hF.below hw1 hg
  have hs1 := hw1.size
  obtain ⟨v2, w2, hr2, ho2, hg2', _⟩ := run_append_own (P := Tryz.prog) w1 X.heap.size 22 22 36 i0 (.agg #[.string ⟨#[]⟩, .slice none 0 0, .slice none 0 0, .slice none 0 0, .slice none 0 0]) 5 112 Tryz.underlying22 hi hz0 hz1 hz2 rfl (by decide) v1 _ _ ho1 ⟨g, o, none⟩ k cap (tgCells (L.take k)) (by rw [tgCells_len, List.length_take]; omega) (fun j u hu => by rw [addr_add]; exact tgAt_cells (tgAt_take hF1 k) j u hu) (tgCells_one fun t ht => hS t (List.mem_of_mem_take ht)) (by unfold maxLen; omega) (by omega) (by omega)
  have el : 0 + (L.length - k) + k = L.length := by omega
  have ec : [] ++ tgCells (L.drop k) ++ tgCells (L.take k) = tgCells (rotL L k) := by rw [List.nil_append, ← tgCells_app]; rfl
  rw [el, ec] at ho2
  obtain ⟨rg, rc, hv2, hrg, hrg2⟩ := ho2.form (by omega)
  subst hv2
  refine ⟨v1, rg, rc, w1, w2, hr1, hr2, cells_tgAt fun j u hu => ?_, hrg2, hw1.grown hg2' hw1.size (fun x hx => (ho1.lt x hx).1)⟩
  have := ho2.cells rfl j u hu
  rwa [addr_add] at this
theorem rot_is {w w2 : World} {ao : Option Addr} {L : List Tg} {rg k : Nat} (h : IsTg w ao L) (hb : Below w.heap.size w w2) (hc : TgAt rg 0 (rotL L k) w2) (hg : rg < w2.heap.size) : IsTg w2 (some ⟨rg, 0, none⟩) (rotL L k) := by
  have h2 := h.below hb (Nat.le_refl _)
  exact ⟨.inr ⟨rg, 0, rfl, hg, hc⟩, fun t ht => h2.tx t ((rotL_perm L k).mem_iff.1 ht), fun t ht => h2.sz t ((rotL_perm L k).mem_iff.1 ht)⟩
theorem sls_of {w : World} {ao : Option Addr} {L : List Tg} (h : IsTg w ao L) : Sls L := fun t ht => ⟨(h.tx t ht).1.1, (h.tx t ht).2.1.1, (h.tx t ht).2.2.1.1, (h.tx t ht).2.2.2.1⟩
theorem appTN (g : Nat) (c : Nat) (W : World) (ao : Option Addr) : (appG #[22, 22] 22 #[.slice (some ⟨g, 0, none⟩) 0 0, .slice ao 0 c]).run Tryz.prog W = .ok (.slice (some ⟨g, 0, none⟩) 0 0) W := by
  obtain ⟨i0, hi, hz0, hz1, hz2⟩ := infoG infTg
  show (Builtin.append_ #[22, 22] 22 #[.slice (some ⟨g, 0, none⟩) 0 0, .slice ao 0 c]).run Tryz.prog W = _
  cases ao <;> simp [Builtin.append_, run_underlying Tryz.underlying22, sizeOf, typeInfo, hi, Builtin.lenOf, Builtin.firstCells, storeCells, loadCells, loadCellsFrom]

set_option maxHeartbeats 1000000 in
theorem choose_any (c : Int) (m : Nat) (w : World) (h0 : -9223372036854775808 ≤ c) (h1 : c ≤ 9223372036854775807) (hm : 0 < m) (hm2 : m ≤ 1099511627776) :
    Calls Tryz.prog 6 #[.int .i64 c, .int .i64 m] w fun e w' => (∃ r : Nat, r < m ∧ e = .returned (.int .i64 (r : Int))) ∧ w' = w := by
  have hmi : (0 : Int) < (m : Int) := by omega
  have hm0 : ((m : Int) == 0) = false := by simp; omega
  have key : ∀ d : Int, 0 ≤ d → ∃ r : Nat, r < m ∧ d.tmod (m : Int) = (r : Int) ∧ d % (m : Int) = (r : Int) := fun d hd => by
    have h2 := Int.emod_nonneg d (show (m : Int) ≠ 0 by omega)
    have h3 := Int.emod_lt_of_pos d hmi
    refine ⟨(d % (m : Int)).toNat, by omega, ?_, by omega⟩
    rw [Int.tmod_eq_emod_of_nonneg hd]
    omega
  by_cases hc : c < 0
  · obtain ⟨d, hd⟩ : ∃ d : Int, d = -(c + 1) := ⟨_, rfl⟩
    obtain ⟨r, hr, hr1, hr2⟩ := key d (by omega)
    have x1 : wrap64 (c + 1) = c + 1 := by unfold wrap64; omega
    have x2 : IntKind.i64.wrap (c + 1) = c + 1 := by rw [IntKind.wrap_i64]; omega
    have x3 : wrap64 (-(c + 1)) = d := by unfold wrap64; omega
    have x4 : IntKind.i64.wrap (-(c + 1)) = d := by rw [IntKind.wrap_i64]; omega
    have hd0 : 0 ≤ d := by omega
    clear key hd h0 h1 hm2
    go_enter Tryz.func6, Tryz.ntmps6
    go_wp2
    go_ret
    exact ⟨⟨r, hr, by simp⟩, rfl⟩
  · obtain ⟨r, hr, hr1, hr2⟩ := key c (by omega)
    have hc0 : 0 ≤ c := by omega
    clear key h1 hm2 hc
    go_enter Tryz.func6, Tryz.ntmps6
    go_wp2
    go_ret
    exact ⟨⟨r, hr, by simp⟩, rfl⟩
end Go.Proofs.YtbmfchflnfdjaaaGreatDoor
