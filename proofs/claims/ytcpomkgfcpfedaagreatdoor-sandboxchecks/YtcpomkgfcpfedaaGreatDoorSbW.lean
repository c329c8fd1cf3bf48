/- What is made, sorted by paths. -/
import Derived.Test.YtcpomkgfcpfedaaGreatDoorTrOf
import Derived.Test.YtcpomkgfcpfedaaGreatDoorTrLay
import Derived.Sort.OwnSorted
namespace Go.Proofs.YtcpomkgfcpfedaaGreatDoor
open Go.RowKit Go.Shelf Go.Maps Go.WideMaps Go.Sort Go.Lib

theorem flat_get {α : Type} (enc : α → List Value) (a b c : α → Value) (he : ∀ x, enc x = [a x, b x, c x]) : ∀ (l : List α) (j : Nat) (hj : j < l.length), (l.flatMap enc)[j * 3]? = some (a l[j]) ∧ (l.flatMap enc)[j * 3 + 1]? = some (b l[j]) ∧ (l.flatMap enc)[j * 3 + 2]? = some (c l[j])
  | [], j, hj => by simp at hj
  | x :: l, j, hj => by
    have e : (x :: l).flatMap enc = [a x, b x, c x] ++ l.flatMap enc := by rw [List.flatMap_cons, he]
    cases j with
    | zero => rw [e]; exact ⟨rfl, rfl, rfl⟩
    | succ j =>
      have h := flat_get enc a b c he l j (by simpa using hj)
      rw [e, show (j + 1) * 3 = j * 3 + 3 by omega]
      exact ⟨by simpa using h.1, by simpa using h.2.1, by simpa using h.2.2⟩
theorem flat_len {α : Type} (enc : α → List Value) (hk : ∀ x, (enc x).length = 3) : ∀ l : List α, (l.flatMap enc).length = l.length * 3
  | [] => rfl
  | x :: l => by rw [List.flatMap_cons, List.length_append, flat_len enc hk l, hk, List.length_cons]; omega
section
variable {α : Type} [Inhabited α]
theorem flat3 (enc : α → List Value) (a b c : α → Value) (he : ∀ x, enc x = [a x, b x, c x]) (l : List α) : (flatK enc 3 l.toArray).toList = l.flatMap enc := by
  have hk : ∀ x, (enc x).length = 3 := fun x => by rw [he]; rfl
  apply List.ext_getElem?
  intro t
  by_cases ht : t < l.length * 3
  · have h1 : (flatK enc 3 l.toArray).toList[t]? = some ((enc l.toArray[t / 3]!)[t % 3]!) := by
      rw [Array.getElem?_toList]
      have hs : t < (flatK enc 3 l.toArray).size := by rw [size_flatK]; simpa using ht
      rw [Array.getElem?_eq_getElem hs]
      congr 1
      have := get_flatK enc 3 l.toArray t (by simpa using ht)
      rwa [getElem!_pos _ t hs] at this
    rw [h1]
    have hj : t / 3 < l.length := by omega
    have hg : l.toArray[t / 3]! = l[t / 3] := by
      rw [getElem!_pos _ _ (by simpa using hj)]
      simp
    rw [hg, he]
    have k := flat_get enc a b c he l (t / 3) hj
    have e0 : t = t / 3 * 3 + t % 3 := by omega
    have h3 : t % 3 < 3 := Nat.mod_lt _ (by decide)
    generalize hr : t % 3 = r at e0 h3
    rw [hr] at *
    match r, h3 with
    | 0, _ => conv => rhs; rw [e0]
              exact k.1.symm
    | 1, _ => conv => rhs; rw [e0]
              exact k.2.1.symm
    | 2, _ => conv => rhs; rw [e0]
              exact k.2.2.symm
  · rw [List.getElem?_eq_none (by rw [Array.length_toList, size_flatK]; simp; omega), List.getElem?_eq_none (by rw [flat_len enc hk]; omega)]

theorem holdsK_row {w : World} {base g cap n : Nat} {e : TypeId} (enc : α → List Value) (a b c : α → Value) (he : ∀ x, enc x = [a x, b x, c x]) (l : List α) (hn : n = l.length) (h : w.ownsRow base e 3 (.slice (some ⟨g, 0, none⟩) n cap) n (l.flatMap enc)) : HoldsK enc 3 w g 0 l.toArray := by
  rcases h.2 with ⟨h1, _⟩ | ⟨g2, cap2, cur, hv, _, hb, _, _, _, h4⟩
  · cases h1
  · injection hv with hv _ _
    injection hv with hv
    injection hv with hv
    subst hv
    intro j hj
    have hj' : j < l.length * 3 := by rw [size_flatK] at hj; simpa using hj
    refine ⟨?_, by simp [World.frozen?, hb]⟩
    have hf := flat3 enc a b c he l
    have h5 : (cur.toList.take (n * 3))[j]? = (flatK enc 3 l.toArray).toList[j]? := by rw [h4, hf]
    rw [List.getElem?_take_of_lt (by omega)] at h5
    simp only [World.cell?, hb, Nat.zero_add]
    simp only [Option.isSome_none, Bool.false_eq_true, if_false]
    rw [← Array.getElem?_toList, h5, Array.getElem?_toList, Array.getElem?_eq_getElem hj, getElem!_pos (flatK enc 3 l.toArray) j hj]
    rfl
theorem rowK_put {w : World} {base g cap n m : Nat} {e : TypeId} {os : Array Obj} (enc : α → List Value) (a b c : α → Value) (he : ∀ x, enc x = [a x, b x, c x]) (l l2 : List α) (hn : n = l.length) (hl : l2.length = l.length) (h : w.ownsRow base e 3 (.slice (some ⟨g, 0, none⟩) n cap) n (l.flatMap enc)) :
    (sortWorldK enc 3 w g 0 m l2.toArray os).ownsRow base e 3 (.slice (some ⟨g, 0, none⟩) n cap) n (l2.flatMap enc) ∧ w.grownBy (sortWorldK enc 3 w g 0 m l2.toArray os) (some g) := by
  have hk : ∀ x, (enc x).length = 3 := fun x => by rw [he]; rfl
  constructor
  · rcases h.2 with ⟨h1, _⟩ | ⟨g2, cap2, cur, hv, hbase, hb, hc1, hc2, hc3, h4⟩
    · cases h1
    · injection hv with hv _ hv3
      injection hv with hv
      injection hv with hv
      subst hv hv3
      have hg : g < w.heap.size := (Array.getElem?_eq_some_iff.1 hb).1
      have hfs : (flatK enc 3 l2.toArray).size = n * 3 := by rw [size_flatK]; simp; omega
      refine ⟨by rw [flat_len enc hk, hl, hn], .inr ⟨g, cap, putCells id 0 (flatK enc 3 l2.toArray) cur, rfl, hbase, ?_, hc1, hc2, by simp [putCells, hc3], ?_⟩⟩
      · unfold sortWorldK putRowK
        rw [heap_grow_old _ _ (by simpa using hg)]
        simp [putRow, mapBlock, Sort.ahead, Array.getElem?_modify, hb, onCells]
      · rw [← flat3 enc a b c he l2]
        apply List.ext_getElem?
        intro j
        by_cases hj : j < n * 3
        · have hj2 : j < (flatK enc 3 l2.toArray).size := by omega
          have hcur : j < cur.size := by rw [hc3]; have := Nat.mul_le_mul_right 3 hc1; omega
          rw [List.getElem?_take_of_lt hj, Array.getElem?_toList, Array.getElem?_toList]
          have hj3 : j < l2.length * 3 := by rw [size_flatK] at hj2; simpa using hj2
          rw [Array.getElem?_eq_getElem hj2, ← getElem!_pos (flatK enc 3 l2.toArray) j hj2]
          simp [putCells, hj3, hcur]
        · rw [List.getElem?_take_eq_none (by omega), List.getElem?_eq_none (by rw [Array.length_toList]; omega)]
  · unfold sortWorldK putRowK
    refine ⟨rfl, rfl, rfl, by simp, fun k hk hne => ?_⟩
    rw [heap_grow_old _ _ (by simpa using hk)]
    have : g ≠ k := fun e => hne (by rw [e])
    simp [putRow, mapBlock, Sort.ahead, Array.getElem?_modify, this]
end


set_option maxHeartbeats 2000000 in
set_option maxRecDepth 100000 in
theorem comparePaths_w (a b : Fl) (w : World) :
    Calls Tryz.prog 50 #[.agg #[.string a.pa, .string a.tx, .bool a.rn], .agg #[.string b.pa, .string b.tx, .bool b.rn]] w fun e w' => e = .returned (.int .i64 (cmpB a.pa b.pa)) ∧ w' = (w.alloc (.cells #[.string a.pa, .string a.tx, .bool a.rn] 37)).alloc (.cells #[.string b.pa, .string b.tx, .bool b.rn] 37) := by
  obtain ⟨p, t, r⟩ := a
  obtain ⟨p2, t2, r2⟩ := b
  have HC : Hid (∀ W, Calls Tryz.prog 51 #[.string p, .string p2] W fun e w' => e = .returned (.int .i64 (cmpB p p2)) ∧ w' = W) := Compare_s p p2
  simp only
  generalize cmpB p p2 = r9 at *
  go_enter Tryz.func50, Tryz.ntmps50
  go_wp2_with (first | (go_at_call 51; refine (HC.out _).mono ?_; rintro e w1 ⟨rfl, hw⟩; subst w1) | go_in)
  go_ret
  exact ⟨rfl, rfl⟩

def encT (x : ByteArray × ByteArray × Bool) : List Value := [.string x.1, .string x.2.1, .bool x.2.2]
def tri (f : Fl) : ByteArray × ByteArray × Bool := (f.pa, f.tx, f.rn)
def ofT (x : ByteArray × ByteArray × Bool) : Fl := ⟨x.1, x.2.1, x.2.2⟩
theorem flT (F : List Fl) : flCells F = (F.map tri).flatMap encT := by
  unfold flCells
  rw [List.flatMap_map]
  rfl
theorem encT_one (x : ByteArray × ByteArray × Bool) : ∀ v ∈ encT x, v.oneCell' = true := by
  intro v hv
  simp [encT] at hv
  rcases hv with rfl | rfl | rfl <;> rfl
theorem ltT (x y : ByteArray × ByteArray × Bool) : ltOf (fun x y : ByteArray × ByteArray × Bool => cmpB x.1 y.1) x y = decide (x.1.data.toList < y.1.data.toList) := cmpB_neg x.1 y.1
theorem swoT : SWO (ltOf fun x y : ByteArray × ByteArray × Bool => cmpB x.1 y.1) where
  irrefl x := by rw [ltT]; simp [List.lt_irrefl]
  trans x y z h1 h2 := by
    rw [ltT, decide_eq_true_eq] at *
    exact List.lt_trans h1 h2
  ntrans x y z h1 h2 := by
    rw [ltT, decide_eq_false_iff_not] at *
    exact fun h3 => h2 (by
      rcases Decidable.em (y.1.data.toList < z.1.data.toList) with h | h
      · exact h
      · exfalso
        exact h1 (by
          rcases Decidable.em (x.1.data.toList < y.1.data.toList) with h4 | h4
          · exact h4
          · exact absurd h3 (List.not_lt.2 (List.le_trans (List.not_lt.1 h) (List.not_lt.1 h4)))))
theorem sort_files_uniq {L d : List Fl} (hL : L.Pairwise fun f g => pth f < pth g) (hp : d.Perm L) (hs : d.Pairwise fun f g => pth f ≤ pth g) : d = L := by
  refine List.Perm.eq_of_pairwise (le := fun f g => pth f ≤ pth g) (fun a b ha hb h1 h2 => ?_) hs (hL.imp fun h => List.le_of_lt h) hp
  have e := List.le_antisymm h1 h2
  obtain ⟨i, hi, rfl⟩ := List.getElem_of_mem (hp.mem_iff.1 ha)
  obtain ⟨j, hj, rfl⟩ := List.getElem_of_mem hb
  have hq := List.pairwise_iff_getElem.1 hL
  rcases Nat.lt_trichotomy i j with hij | hij | hij
  · have := hq i j hi hj hij; rw [e] at this; exact absurd this (List.lt_irrefl _)
  · subst hij; rfl
  · have := hq j i hj hi hij; rw [e] at this; exact absurd this (List.lt_irrefl _)

/-- Files that are a tree's, sorted, are as they were. -/
theorem sortFiles {B : Nat} {F L : List Fl} {v : Value} {w : World} (h : w.ownsRow B 37 3 v F.length (flCells F)) (hL : L.Pairwise fun f g => pth f < pth g) (hp : F.Perm L) (hl : F.length ≤ 1000000) :
    Calls Tryz.prog 82 #[v, .func (.func 50) #[] #[]] w fun e w' => e = .returned (.tuple #[]) ∧ w'.ownsRow B 37 3 v L.length (flCells L) ∧ w.grownBy w' v.ownBlock := by
  have hh := h
  rcases h.2 with ⟨rfl, h0⟩ | ⟨g, cap, cur, rfl, hbase, hb, _⟩
  · have e : F = [] := List.length_eq_zero_iff.1 h0
    subst e
    have e2 : L = [] := List.Perm.eq_nil hp.symm
    subst e2
    refine (sortFF_none none 0 _ w).mono ?_
    rintro e w' ⟨rfl, rfl⟩
    exact ⟨rfl, hh, ⟨rfl, rfl, rfl, Nat.le_refl _, fun _ _ _ => rfl⟩⟩
  · rw [flT] at hh
    have hlen : F.length = (F.map tri).length := by simp
    have hH : HoldsK encT 3 w g 0 (F.map tri).toArray := holdsK_row encT (fun x => .string x.1) (fun x => .string x.2.1) (fun x => .bool x.2.2) (fun _ => rfl) (F.map tri) hlen hh
    have hc : CmpLays Tryz.prog 50 #[] encT 3 (fun x y : ByteArray × ByteArray × Bool => cmpB x.1 y.1) g 0 (F.map tri).toArray.size w := fun m os dk _ x y => by
      refine (comparePaths_w (ofT x) (ofT y) _).mono ?_
      rintro e w' ⟨rfl, rfl⟩
      exact ⟨rfl, 0, _, by rw [alloc_eq_grow, alloc_eq_grow, grow_grow]; rfl⟩
    have := sortFF_any encT (fun _ => rfl) encT_one (fun x y : ByteArray × ByteArray × Bool => cmpB x.1 y.1) swoT 50 #[] g 0 cap (F.map tri).toArray w (enters_of Tryz.func50 (by kernel_rfl) rfl) hc hH (Array.getElem?_eq_some_iff.1 hb).1 (by simp; omega)
    rw [show (F.map tri).toArray.size = F.length from by simp] at this
    refine this.mono ?_
    rintro e w' ⟨rfl, d', m, os, hpp, hs, rfl⟩
    have e1 : d'.size = F.length := by rw [hpp.1]; simp
    have hp2 : d'.toList.Perm (F.map tri) := by
      have := hpp.2.2
      have e2 : List.take F.length d'.toList = d'.toList := List.take_of_length_le (by rw [Array.length_toList]; omega)
      have e3 : List.take F.length (F.map tri) = F.map tri := List.take_of_length_le (by simp)
      simpa [hpp.1, e2, e3] using this
    have hs2 : (d'.toList.map ofT).Pairwise fun a b => pth a ≤ pth b := by
      rw [List.pairwise_map, List.pairwise_iff_getElem]
      intro i j hi hj hij
      have hi' : i < d'.size := by simpa using hi
      have hj' : j < d'.size := by simpa using hj
      have h1 := hs i j (Nat.zero_le _) hij (by omega)
      rw [ltT, decide_eq_false_iff_not, getElem!_pos d' i hi', getElem!_pos d' j hj'] at h1
      show d'.toList[i].1.data.toList ≤ d'.toList[j].1.data.toList
      rw [Array.getElem_toList, Array.getElem_toList]
      exact List.not_lt.1 h1
    have hot : ∀ l : List Fl, (l.map tri).map ofT = l := fun l => by rw [List.map_map]; exact List.map_id' l
    have hto : ∀ l : List (ByteArray × ByteArray × Bool), (l.map ofT).map tri = l := fun l => by rw [List.map_map]; exact List.map_id' l
    have e : d'.toList.map ofT = L := sort_files_uniq hL (by
      have := hp2.map ofT
      rw [hot] at this
      exact this.trans hp) hs2
    have e4 : d'.toList = L.map tri := by rw [← e, hto]
    have hput := rowK_put (m := m) (os := os) encT (fun x => .string x.1) (fun x => .string x.2.1) (fun x => .bool x.2.2) (fun _ => rfl) (F.map tri) (L.map tri) hlen (by simp [hp.length_eq]) hh
    rw [← e4, Array.toArray_toList] at hput
    refine ⟨rfl, ?_, hput.2⟩
    rw [flT, ← hp.length_eq, ← e4]
    exact hput.1


set_option maxRecDepth 100000 in
set_option maxHeartbeats 2000000 in
theorem CollectF (g : Nat) (lb : Array Value) (eg : ∀ args w, (callFunc g args).run Tryz.prog w = .ok (.enter g args) w) (D0 : DataW Unit) (N : Nat) (hN : N ≤ 1000000) (w : World) (hseq : SeqStopsK Fence.wide 3 Tryz.prog g lb (fun f : Fl => #[encF f]) KeepsWalks (AllF D0) (fun _ => True) N w) :
    Calls Tryz.prog 81 #[.func (.func g) #[] lb] w (SqP D0 w) := by
  have HA : Hid (Calls Tryz.prog 104 #[.slice none 0 0, .func (.func g) #[] lb] w (SqP D0 w)) := (callsIn_wide (n := 4)).1 (appendSeqF g lb eg D0 N hN w hseq)
  clear eg hseq
  go_enter Tryz.func81, Tryz.ntmps81
  go_wp2_with fail
  refine HA.out.mono ?_
  rintro e w1 ⟨v, fs, rfl, h1, h2, h3⟩
  have HE : Hid (AllF D0 fs ∧ w1.ownsRow w.heap.size 37 3 v fs.length (flCells fs) ∧ Below w.heap.size w w1) := ⟨h1, h2, h3⟩
  clear h1 h2 h3
  go_wp2
  go_ret
  exact ⟨v, fs, rfl, HE.out⟩

set_option maxRecDepth 100000 in
set_option maxHeartbeats 2000000 in
theorem SortedF (g : Nat) (lb : Array Value) (eg : ∀ args w, (callFunc g args).run Tryz.prog w = .ok (.enter g args) w) (D0 : DataW Unit) (N : Nat) (hN : N ≤ 1000000) (L : List Fl) (hL : L.Pairwise fun f g => pth f < pth g) (hl : L.length ≤ 1000000) (hp : ∀ F, AllF D0 F → F.Perm L) (w : World) (hseq : SeqStopsK Fence.wide 3 Tryz.prog g lb (fun f : Fl => #[encF f]) KeepsWalks (AllF D0) (fun _ => True) N w) :
    Calls Tryz.prog 48 #[.func (.func g) #[] lb, .func (.func 50) #[] #[]] w fun e w' => ∃ v, e = .returned v ∧ w'.ownsRow w.heap.size 37 3 v L.length (flCells L) ∧ Below w.heap.size w w' := by
  have HA : Hid (Calls Tryz.prog 81 #[.func (.func g) #[] lb] w (SqP D0 w)) := CollectF g lb eg D0 N hN w hseq
  have HP : Hid (L.Pairwise (fun f g => pth f < pth g) ∧ L.length ≤ 1000000 ∧ ∀ F, AllF D0 F → F.Perm L) := ⟨hL, hl, hp⟩
  clear eg hseq hL hl hp
  go_enter Tryz.func48, Tryz.ntmps48
  go_wp2_with fail
  refine HA.out.mono ?_
  rintro e w1 ⟨v, fs, rfl, h1, h2, h3⟩
  have hpp := HP.out.2.2 fs h1
  have HS : Hid (Calls Tryz.prog 82 #[v, .func (.func 50) #[] #[]] w1 fun e w' => e = .returned (.tuple #[]) ∧ w'.ownsRow w.heap.size 37 3 v L.length (flCells L) ∧ w1.grownBy w' v.ownBlock) := sortFiles h2 HP.out.1 hpp (by have := hpp.length_eq; have := HP.out.2.1; omega)
  have HB : Hid (Below w.heap.size w w1 ∧ ∀ k, v.ownBlock = some k → w.heap.size ≤ k) := ⟨h3, fun k hk => (h2.lt k hk).1⟩
  clear h1 h2 h3 hpp HA
  go_wp2_with fail
  refine HS.out.mono ?_
  rintro e w2 ⟨rfl, h4, h5⟩
  have HE : Hid (w2.ownsRow w.heap.size 37 3 v L.length (flCells L) ∧ Below w.heap.size w w2) := ⟨h4, HB.out.1.grown h5 HB.out.1.size HB.out.2⟩
  clear h4 h5 HS
  go_wp2
  go_ret
  exact ⟨v, rfl, HE.out⟩
end Go.Proofs.YtcpomkgfcpfedaaGreatDoor
