/- What strings.Split, IsPath, and the document's own Parts and IsPath answer. -/
import Derived.Test.YtcpomkgfcpfedaaGreatDoorParts
import Derived.Test.YtcpomkgfcpfedaaGreatDoorNames2
import Derived.Test.YtcpomkgfcpfedaaGreatDoorRefTexts
namespace Go.Proofs.YtcpomkgfcpfedaaGreatDoor
open Go.RowKit Go.Shelf

def laysS_ren : Ren := ⟨fun | 138 => 88 | 143 => 89 | 146 => 52 | 195 => 111 | 197 => 112 | 217 => 107 | 218 => 113 | 219 => 86 | 221 => 55 | 224 => 109 | 225 => 108 | 260 => 132 | 266 => 130 | 267 => 110 | 268 => 87 | 314 => 131 | n => n, fun | 0 => 0 | 3 => 3 | 4 => 4 | 5 => 5 | 9 => 9 | 21 => 21 | 31 => 22 | 46 => 120 | 51 => 112 | 105 => 124 | 119 => 155 | 138 => 157 | 139 => 158 | 146 => 141 | n => n, fun | 1 => 0 | 3 => 3 | 4 => 4 | n => n⟩
theorem laysS : Go.Proofs.Lays.n146 Tryz.prog laysS_ren := {
  mixed := by kernel_rfl
  f138 := Tryz.func88.trans (congrArg some (by kernel_rfl))
  f143 := Tryz.func89.trans (congrArg some (by kernel_rfl))
  f146 := Tryz.func52.trans (congrArg some (by kernel_rfl))
  f195 := Tryz.func111.trans (congrArg some (by kernel_rfl))
  f197 := Tryz.func112.trans (congrArg some (by kernel_rfl))
  f217 := Tryz.func107.trans (congrArg some (by kernel_rfl))
  f218 := Tryz.func113.trans (congrArg some (by kernel_rfl))
  f219 := Tryz.func86.trans (congrArg some (by kernel_rfl))
  f221 := Tryz.func55.trans (congrArg some (by kernel_rfl))
  f224 := Tryz.func109.trans (congrArg some (by kernel_rfl))
  f225 := Tryz.func108.trans (congrArg some (by kernel_rfl))
  f260 := Tryz.func132.trans (congrArg some (by kernel_rfl))
  f266 := Tryz.func130.trans (congrArg some (by kernel_rfl))
  f267 := Tryz.func110.trans (congrArg some (by kernel_rfl))
  f268 := Tryz.func87.trans (congrArg some (by kernel_rfl))
  f314 := Tryz.func131.trans (congrArg some (by kernel_rfl))
  t0 := Tryz.underlying0
  a0 := Tryz.isAgg0
  z0 := Tryz.sizeOf0
  v0 := Tryz.zeroValue0
  t3 := Tryz.underlying3
  a3 := Tryz.isAgg3
  z3 := Tryz.sizeOf3
  v3 := Tryz.zeroValue3
  t4 := Tryz.underlying4
  a4 := Tryz.isAgg4
  z4 := Tryz.sizeOf4
  v4 := Tryz.zeroValue4
  t5 := Tryz.underlying5
  a5 := Tryz.isAgg5
  z5 := Tryz.sizeOf5
  v5 := Tryz.zeroValue5
  t9 := Tryz.underlying9
  a9 := Tryz.isAgg9
  z9 := Tryz.sizeOf9
  v9 := Tryz.zeroValue9
  t21 := Tryz.underlying21
  a21 := Tryz.isAgg21
  z21 := Tryz.sizeOf21
  v21 := Tryz.zeroValue21
  t31 := Tryz.underlying22
  a31 := Tryz.isAgg22
  z31 := Tryz.sizeOf22
  v31 := Tryz.zeroValue22
  t46 := Tryz.underlying120
  a46 := Tryz.isAgg120
  z46 := Tryz.sizeOf120
  v46 := Tryz.zeroValue120
  t51 := Tryz.underlying112
  a51 := Tryz.isAgg112
  z51 := Tryz.sizeOf112
  v51 := Tryz.zeroValue112
  t105 := Tryz.underlying124
  a105 := Tryz.isAgg124
  z105 := Tryz.sizeOf124
  v105 := Tryz.zeroValue124
  t119 := Tryz.underlying155
  a119 := Tryz.isAgg155
  z119 := Tryz.sizeOf155
  t138 := Tryz.underlying157
  a138 := Tryz.isAgg157
  z138 := Tryz.sizeOf157
  v138 := Tryz.zeroValue157
  t139 := Tryz.underlying158
  a139 := Tryz.isAgg158
  z139 := Tryz.sizeOf158
  v139 := Tryz.zeroValue158
  t146 := Tryz.underlying141
  a146 := Tryz.isAgg141
  z146 := Tryz.sizeOf141
  v146 := Tryz.zeroValue141
  g1 := by kernel_rfl
  g3 := by kernel_rfl
  g4 := by kernel_rfl }

/-- The library's own variable holds some number. -/
def MaxIs (w : World) : Prop := ∃ m, w.cell? ⟨0, 0, none⟩ = some (.int .i64 m)
theorem MaxIs.below {B : Nat} {w w' : World} (h : MaxIs w) (hb : Below B w w') (hB : 0 < B) : MaxIs w' := by
  obtain ⟨m, hm⟩ := h
  exact ⟨m, (hb.cell (p := ⟨0, 0, none⟩) hB).trans hm⟩
theorem MaxIs.lt {w : World} (h : MaxIs w) : 0 < w.heap.size := by
  obtain ⟨m, hm⟩ := h
  exact World.block_lt_of_cell? w ⟨0, 0, none⟩ hm
theorem MaxIs.up {w w' : World} (h : MaxIs w) (hb : Below w.heap.size w w') : MaxIs w' := h.below hb h.lt

theorem split_any (s : ByteArray) (w : World) (hs : s.size < 4294967281) (hm : MaxIs w) :
    Calls Tryz.prog 52 #[.string s, .string slash] w fun e w' => e = .returned (.slice (some ⟨w.heap.size, 0, none⟩) (piecesB s).length (piecesB s).length) ∧ w' = w.alloc (.cells ((piecesB s).map Value.string).toArray 9) := by
  obtain ⟨m, hm⟩ := hm
  have h := Any.strings_Split laysS (by kernel_rfl) s slash m w hs hm (by decide)
  have e1 := Lib.splitB_all slash (by decide) 0 (Lib.countB s slash) s rfl
  rw [splitB_pieces] at e1
  rw [splitB_pieces, ← e1] at h
  exact h

theorem pieces_len (s : ByteArray) : (piecesB s).length ≤ s.size + 1 := by
  have := parts_len s.data.toList []
  rw [show s.size = s.data.toList.length from size_of rfl]
  simpa [piecesB] using this
theorem pieces_size (s : ByteArray) : ∀ p ∈ piecesB s, p.size ≤ s.size := by
  intro p hp
  obtain ⟨q, hq, rfl⟩ := List.mem_map.1 hp
  have := parts_mem s.data.toList [] q hq
  rw [show (⟨q.toArray⟩ : ByteArray).size = q.length from size_of rfl, show s.size = s.data.toList.length from size_of rfl]
  simpa using this

theorem all_no (l : List ByteArray) (k : Nat) (hk : k < l.length) (h : nameOk l[k] = false) : l.all nameOk = false := by
  rw [List.all_eq_false]
  exact ⟨l[k], List.getElem_mem hk, by simp [h]⟩
theorem all_yes (l : List ByteArray) (h : ∀ j (hj : j < l.length), nameOk l[j] = true) : l.all nameOk = true := by
  rw [List.all_eq_true]
  intro x hx
  obtain ⟨j, hj, rfl⟩ := List.getElem_of_mem hx
  exact h j hj

set_option maxHeartbeats 2000000 in
set_option maxRecDepth 100000 in
theorem IsPath_any (s : ByteArray) (w : World) (hm : MaxIs w) :
    Calls Tryz.prog 35 #[.string s] w fun e w' => e = .returned (.bool (pathOk s)) ∧ Below w.heap.size w w' := by
  by_cases hsz : 100 < s.size
  · have hz : (100 : Int) < (s.size : Int) := by omega
    have HP : Hid (pathOk s = false) := by show _ = _; unfold pathOk; rw [decide_eq_false (by omega), Bool.false_and]
    go_enter Tryz.func35, Tryz.ntmps35
    go_wp2
    go_ret
    exact ⟨by rw [HP.out]; rfl, Below.refl _ _⟩
  have hz : (s.size : Int) ≤ 100 := by omega
  have hs : s.size ≤ 100 := by omega
  have HM : Hid (MaxIs w) := hm
  have HP : Hid (pathOk s = (piecesB s).all nameOk) := by show _ = _; unfold pathOk; rw [decide_eq_true hs, Bool.true_and]
  have HL : Hid (∀ p ∈ piecesB s, p.size ≤ maxLen) := fun p hp => by
    have := pieces_size s p hp
    unfold maxLen
    omega
  have hpl := pieces_len s
  have HC : Hid (∀ j (hj : j < (piecesB s).length), (w.alloc (.cells ((piecesB s).map Value.string).toArray 9)).cell? ⟨w.heap.size, 0 + j, none⟩ = some (.string (piecesB s)[j])) := fun j hj => by
    rw [Lib.cell_of_heap (heap_alloc_new w _)]
    simp [hj]
  have HB : Hid (Below w.heap.size w (w.alloc (.cells ((piecesB s).map Value.string).toArray 9))) := (Below.refl _ _).alloc (Nat.le_refl _) _
  have hpl1 : ((piecesB s).length : Int) ≤ 101 := by omega
  go_enter Tryz.func35, Tryz.ntmps35
  go_wp2_with fail
  refine (split_any s w (by omega) HM.out).mono ?_
  rintro e w1 ⟨rfl, rfl⟩
  generalize hps : piecesB s = ps at HP HL hpl HC HB hpl1
  clear hps
  generalize hw1 : w.alloc (.cells (ps.map Value.string).toArray 9) = w1 at HC HB
  clear hw1
  go_wp2_with fail
  go_loopw [11] (fun i wr => ∃ k : Nat, k ≤ ps.length ∧ i = .int .i64 k ∧ (∀ j, (hj : j < ps.length) → j < k → nameOk ps[j] = true) ∧ wr = w1) (fun i _ => ps.length - (intOf i).toNat)
  case atStart => exact ⟨0, by omega, rfl, by omega, rfl⟩
  case round =>
    obtain ⟨k, hk, rfl, hlo, rfl⟩ := hrel
    have HLO : Hid _ := hlo
    clear hlo
    by_cases hlt : k < ps.length
    · have c0 := HC.out k hlt
      rw [Nat.zero_add] at c0
      have i2 : (k : Int) < ps.length := by omega
      by_cases h1 : nameOk ps[k] = true
      · go_wp2_with fail
        refine (IsName_any ps[k] _ (HL.out _ (List.getElem_mem hlt))).mono ?_
        rintro e w2 ⟨rfl, rfl⟩
        rw [h1]
        go_wp2
        refine ⟨⟨k + 1, by omega, by go_num, fun j hj hjk => ?_, by simp⟩, by simp [intOf]; omega⟩
        by_cases h : j < k
        · exact HLO.out j hj h
        · obtain rfl : j = k := by omega
          assumption
      · have h1' : nameOk ps[k] = false := by simpa using h1
        have H1 : Hid _ := h1'
        clear h1
        go_wp2_with fail
        refine (IsName_any ps[k] _ (HL.out _ (List.getElem_mem hlt))).mono ?_
        rintro e w2 ⟨rfl, rfl⟩
        rw [h1']
        go_wp2
        go_ret
        exact ⟨by rw [HP.out, all_no ps k hlt H1.out]; rfl, HB.out⟩
    · go_wp2
      go_ret
      exact ⟨by rw [HP.out, all_yes ps (fun j hj => HLO.out j hj (by omega))]; rfl, HB.out⟩

theorem extract_one (s : ByteArray) (k : Nat) (hk : k < s.size) : (s.extract k (k + 1)).data.toList = [s[k]] := by
  have h : k < s.data.toList.length := by rw [← size_of (s := s) rfl]; exact hk
  rw [Lib.extract_data, show k + 1 - k = 1 by omega, List.drop_eq_getElem_cons h]
  rfl
theorem own_cells {w : World} {base : Nat} {e : TypeId} {v : Value} {ps : List ByteArray} (h : w.ownsRow base e 1 v ps.length (ps.map Value.string)) (hne : 0 < ps.length) : ∃ g cap, v = .slice (some ⟨g, 0, none⟩) ps.length cap ∧ ∀ j (hj : j < ps.length), w.cell? ⟨g, j, none⟩ = some (.string ps[j]) := by
  have hcells := fun (g : Nat) (hg : v.ownBlock = some g) => h.cells hg
  rcases h.2 with ⟨_, h2⟩ | ⟨g, cap, cur, hv, _⟩
  · omega
  · refine ⟨g, cap, hv, fun j hj => ?_⟩
    have := hcells g (by rw [hv]; rfl) j (.string ps[j]) (by simp [hj])
    rwa [addr_add, Nat.zero_add] at this
theorem own_block {w : World} {base : Nat} {e : TypeId} {size : Nat} {v : Value} {k : Nat} {xs : List Value} (h : w.ownsRow base e size v (k + 1) xs) : ∃ g cap, v = .slice (some ⟨g, 0, none⟩) (k + 1) cap := by
  rcases h.2 with ⟨_, h2⟩ | ⟨g, cap, cur, hv, _⟩
  · omega
  · exact ⟨g, cap, hv⟩

set_option maxHeartbeats 2000000 in
set_option maxRecDepth 100000 in
theorem Parts_any (s : ByteArray) (w : World) (hs : s.size ≤ 100) :
    Calls Tryz.prog 39 #[.string s] w fun e w' => ∃ v, e = .returned v ∧ w'.ownsRow w.heap.size 9 1 v (parts [] s.data.toList).length (strs (parts [] s.data.toList)) ∧ Below w.heap.size w w' := by
  obtain ⟨i0, hi, hz0, hz1, hz2⟩ := info_parts infS
  have hz : (s.size : Int) ≤ 100 := by omega
  go_enter Tryz.func39, Tryz.ntmps39
  go_wp2
  go_loopw [3, 4] (fun v i wr => ∃ k : Nat, k ≤ s.size ∧ i = .int .i64 k ∧ wr.ownsRow w.heap.size 9 1 v (parts [] (s.data.toList.take k)).length (strs (parts [] (s.data.toList.take k))) ∧ Below w.heap.size w wr) (fun _ i _ => s.size - (intOf i).toNat)
  case atStart =>
    refine ⟨0, by omega, rfl, ?_, (Below.refl _ _).alloc (Nat.le_refl _) _⟩
    exact ⟨rfl, Or.inr ⟨w.heap.size, 1, #[.string ⟨#[]⟩], rfl, Nat.le_refl _, heap_alloc_new w _, Nat.le_refl _, by decide, rfl, rfl⟩⟩
  case round =>
    obtain ⟨k, hk, rfl, hown, hb⟩ := hrel
    have HB : Hid (Below w.heap.size w wr) := hb
    have HO : Hid (wr.ownsRow w.heap.size 9 1 u3 (parts [] (s.data.toList.take k)).length (strs (parts [] (s.data.toList.take k)))) := hown
    have hsz := hb.size
    have hpl := parts_len (s.data.toList.take k) []
    rw [List.length_take] at hpl
    clear hb hown
    by_cases hlt : k < s.size
    · have hts := take_snoc s k hlt
      by_cases hc : s[k] = 47
      · have hc1 : (s[k].toNat : Int) = 47 := by rw [hc]; rfl
        have HT : Hid (parts [] (s.data.toList.take (k + 1)) = parts [] (s.data.toList.take k) ++ [[]]) := by
          show _ = _
          rw [hts, hc, parts_slash]
        clear hts hc
        go_wp2_with (at_builtin; refine wpList_append_own _ rfl _ _ 22 rfl w.heap.size 9 i0 (.string ⟨#[]⟩) 1 16 Tryz.underlying22 hi hz0 hz1 hz2 rfl (by decide) _ _ _ rfl (HO.out.alloc _) ⟨wr.heap.size, 0, none⟩ 1 1 [.string ⟨#[]⟩] rfl rfl ?c1 ?c2 ?c3 ?c4 ?c5 ?_)
        case c1 =>
          intro j u hj
          match j, hj with
          | 0, hj => simp at hj; subst hj; simp [Addr.add]
        case c2 => intro u hu; simp at hu; subst hu; rfl
        case c3 => unfold maxLen; omega
        case c4 => omega
        case c5 => simp; omega
        intro v' w4 hown4 hg4 _
        have hrow : ∀ j, u3.ownBlock = some j → w.heap.size ≤ j := fun j hj => (HO.out.lt j hj).1
        have HB4 : Hid (Below w.heap.size w w4) := (HB.out.alloc hsz _).grown hg4 (by simp; omega) hrow
        have HO4 : Hid (w4.ownsRow w.heap.size 9 1 v' ((parts [] (s.data.toList.take k)).length + 1) (strs (parts [] (s.data.toList.take k)) ++ [.string ⟨#[]⟩])) := hown4
        clear hown4 hg4 hrow
        go_wp2
        refine ⟨⟨k + 1, by omega, by go_num, ?_, HB4.out⟩, by simp [intOf]; omega⟩
        rw [HT.out, List.length_append, show strs (parts [] (s.data.toList.take k) ++ [[]]) = strs (parts [] (s.data.toList.take k)) ++ [.string ⟨#[]⟩] from by simp [strs]]
        exact HO4.out
      · have hc1 : ((s[k].toNat : Int) == 47) = false := by
          rw [beq_eq_false_iff_ne]
          intro h
          exact hc (UInt8.toNat_inj.1 (by show s[k].toNat = 47; omega))
        obtain ⟨ps, p, e1, e2⟩ := parts_snoc (s.data.toList.take k) s[k] hc []
        rw [← hts] at e2
        have E2 : Hid _ := e2
        clear e2 hts hc
        rw [e1] at HO
        have hlen : (ps ++ [p]).length = ps.length + 1 := by simp
        rw [hlen] at HO
        obtain ⟨g, cap, rfl⟩ := own_block HO.out
        have q0 : wr.cell? ⟨g, ps.length, none⟩ = some (.string ⟨p.toArray⟩) := by
          have := HO.out.cells rfl ps.length (.string ⟨p.toArray⟩) (by simp [strs])
          rwa [addr_add, Nat.zero_add] at this
        have q1 : wr.frozen? ⟨g, ps.length, none⟩ = false := HO.out.frozenAt _
        have hpl2 : ps.length ≤ k := by rw [e1, hlen] at hpl; omega
        have i1 : (ps.length : Int) < (ps.length : Int) + 1 := by omega
        have i2 : (0 : Int) ≤ (ps.length : Int) := by omega
        have i5 : IntKind.i64.wrap ((ps.length : Int) + 1 - 1) = ps.length := by rw [wraps_i64 _ (by omega) (by omega)]; omega
        have i6 : IntKind.i64.wrap (ps.length : Int) = ps.length := wraps_i64 _ (by omega) (by omega)
        have hp := parts_mem (s.data.toList.take k) [] p (by rw [e1]; simp)
        rw [List.length_take] at hp
        have hadd : ∀ W : World, (Op.stringOp .add ⟨p.toArray⟩ (s.extract k (k + 1))).run Tryz.prog W = .ok (.string ⟨(p ++ [s[k]]).toArray⟩) W := fun W => by
          have h1 := addl p (s.extract k (k + 1)) (by simp at hp ⊢; omega) W
          rwa [extract_one s k hlt] at h1
        clear hp
        have HO5 : Hid ((wr.setCell ⟨g, ps.length, none⟩ (.string ⟨(p ++ [s[k]]).toArray⟩)).ownsRow w.heap.size 9 1 (.slice (some ⟨g, 0, none⟩) (ps.length + 1) cap) (ps.length + 1) (strs (ps ++ [p ++ [s[k]]]))) := by
          have h1 := (HO.out.stored ps.length (.string ⟨(p ++ [s[k]]).toArray⟩)).1
          rwa [show (strs (ps ++ [p])).set ps.length (.string ⟨(p ++ [s[k]]).toArray⟩) = strs (ps ++ [p ++ [s[k]]]) from by simp [strs]] at h1
        have HB5 : Hid (Below w.heap.size w (wr.setCell ⟨g, ps.length, none⟩ (.string ⟨(p ++ [s[k]]).toArray⟩)).drew) := (HB.out.setCell (p := ⟨g, ps.length, none⟩) (HO.out.lt g rfl).1 _).drew
        go_wp2
        go_region
        go_wp2
        refine ⟨⟨k + 1, by omega, by go_num, ?_, HB5.out⟩, by simp [intOf]; omega⟩
        rw [E2.out, show (ps ++ [p ++ [s[k]]]).length = ps.length + 1 from by simp]
        exact HO5.out
    · obtain rfl : k = s.size := by omega
      rw [size_of (s := s) rfl, List.take_length] at HO
      go_wp2
      go_ret
      exact ⟨_, rfl, HO.out, HB.out⟩

set_option maxHeartbeats 2000000 in
set_option maxRecDepth 100000 in
theorem RIsPath_any (s : ByteArray) (w : World) :
    Calls Tryz.prog 18 #[.string s] w fun e w' => e = .returned (.bool (pathOk s)) ∧ Below w.heap.size w w' := by
  by_cases hsz : 100 < s.size
  · have hz : (100 : Int) < (s.size : Int) := by omega
    have HP : Hid (pathOk s = false) := by show _ = _; unfold pathOk; rw [decide_eq_false (by omega), Bool.false_and]
    go_enter Tryz.func18, Tryz.ntmps18
    go_wp2
    go_ret
    exact ⟨by rw [HP.out]; rfl, Below.refl _ _⟩
  have hz : (s.size : Int) ≤ 100 := by omega
  have hs : s.size ≤ 100 := by omega
  have HP : Hid (pathOk s = (piecesB s).all nameOk) := by show _ = _; unfold pathOk; rw [decide_eq_true hs, Bool.true_and]
  have HL : Hid (∀ p ∈ piecesB s, p.size ≤ maxLen) := fun p hp => by
    have := pieces_size s p hp
    unfold maxLen
    omega
  have hpl := pieces_len s
  have hpl1 : ((piecesB s).length : Int) ≤ 101 := by omega
  have hne : 0 < (piecesB s).length := by
    have := parts_ne s.data.toList []
    have := List.length_pos_iff.2 this
    simpa [piecesB] using this
  have hpp : (parts [] s.data.toList).length = (piecesB s).length := by simp [piecesB]
  have hpc : strs (parts [] s.data.toList) = (piecesB s).map Value.string := by simp [strs, piecesB]
  go_enter Tryz.func18, Tryz.ntmps18
  go_wp2_with fail
  refine (Parts_any s w hs).mono ?_
  rintro e w1 ⟨v, rfl, hown, hb1⟩
  rw [hpp, hpc] at hown
  have HB : Hid (Below w.heap.size w w1) := hb1
  clear hb1 hpp hpc
  generalize hps : piecesB s = ps at HP HL hpl hpl1 hown hne
  clear hps
  obtain ⟨g, cap, rfl, hcells⟩ := own_cells hown hne
  have HC : Hid (∀ j (hj : j < ps.length), w1.cell? ⟨g, j, none⟩ = some (.string ps[j])) := hcells
  clear hown hcells hne
  go_wp2_with fail
  go_loopw [4] (fun i wr => ∃ k : Nat, k ≤ ps.length ∧ i = .int .i64 k ∧ (∀ j, (hj : j < ps.length) → j < k → nameOk ps[j] = true) ∧ wr = w1) (fun i _ => ps.length - (intOf i).toNat)
  case atStart => exact ⟨0, by omega, rfl, by omega, rfl⟩
  case round =>
    obtain ⟨k, hk, rfl, hlo, rfl⟩ := hrel
    have HLO : Hid _ := hlo
    clear hlo
    by_cases hlt : k < ps.length
    · have c0 := HC.out k hlt
      have i2 : (k : Int) < ps.length := by omega
      by_cases h1 : nameOk ps[k] = true
      · go_wp2_with fail
        refine (RIsName_any ps[k] _ (HL.out _ (List.getElem_mem hlt))).mono ?_
        rintro e w2 ⟨rfl, rfl⟩
        rw [h1]
        go_wp2
        refine ⟨⟨k + 1, by omega, by go_num, fun j hj hjk => ?_, by simp⟩, by simp [intOf]; omega⟩
        by_cases h : j < k
        · exact HLO.out j hj h
        · obtain rfl : j = k := by omega
          assumption
      · have h1' : nameOk ps[k] = false := by simpa using h1
        have H1 : Hid _ := h1'
        clear h1
        go_wp2_with fail
        refine (RIsName_any ps[k] _ (HL.out _ (List.getElem_mem hlt))).mono ?_
        rintro e w2 ⟨rfl, rfl⟩
        rw [h1']
        go_wp2
        go_ret
        exact ⟨by rw [HP.out, all_no ps k hlt H1.out]; rfl, HB.out⟩
    · go_wp2
      go_ret
      exact ⟨by rw [HP.out, all_yes ps (fun j hj => HLO.out j hj (by omega))]; rfl, HB.out⟩
end Go.Proofs.YtcpomkgfcpfedaaGreatDoor
