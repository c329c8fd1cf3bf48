/- A book of leases: a job is added. -/
import Derived.Test.YtocahjnibdgmoaaLeU
import Derived.Test.YtocahjnibdgmoaaLeCl
namespace Go.Proofs.Ytocahjnibdgmoaa
open Go.RowKit Go.Shelf Go.Maps Go.WideMaps Go.Sort

theorem bb_lt : ∀ a b : List UInt8, bytesBefore a b = decide (a < b)
  | [], [] => by simp [bytesBefore]
  | [], b :: s => by simp [bytesBefore]
  | a :: r, [] => by simp [bytesBefore]
  | a :: r, b :: s => by
    rw [bytesBefore, bb_lt r s]
    rw [Bool.eq_iff_iff]
    simp [List.cons_lt_cons_iff]

/-- A job among others. -/
def insE (x : Ent) : List Ent → List Ent
  | [] => [x]
  | y :: r => if x.nm < y.nm then x :: y :: r else y :: insE x r
theorem insE_D (x : Ent) : ∀ l : List Ent, DataW.insert (eD x) (l.map eD) = (insE x l).map eD
  | [] => rfl
  | y :: r => by
    show (if (eD x).1.before (eD y).1 then eD x :: eD y :: r.map eD else eD y :: DataW.insert (eD x) (r.map eD)) = _
    rw [insE_D x r, show (eD x).1.before (eD y).1 = bytesBefore x.nm y.nm from rfl, bb_lt]
    show _ = (if x.nm < y.nm then x :: y :: r else y :: insE x r).map eD
    by_cases h : x.nm < y.nm <;> simp [h]
theorem insE_perm (x : Ent) : ∀ l : List Ent, (insE x l).Perm (x :: l)
  | [] => .refl _
  | y :: r => by
    unfold insE
    split
    · exact .refl _
    · exact ((insE_perm x r).cons y).trans (.swap x y r)
theorem insE_up (x : Ent) : ∀ l : List Ent, upE l → upE (insE x l)
  | [], _ => by unfold insE upE; simp
  | y :: r, h => by
    unfold upE at h
    rw [List.pairwise_cons] at h
    unfold insE
    split
    · rename_i hlt
      unfold upE
      rw [List.pairwise_cons, List.pairwise_cons]
      refine ⟨fun z hz => ?_, h⟩
      rcases List.mem_cons.1 hz with rfl | hz
      · exact List.le_of_lt hlt
      · exact List.le_trans (List.le_of_lt hlt) (h.1 z hz)
    · rename_i hlt
      unfold upE
      rw [List.pairwise_cons]
      refine ⟨fun z hz => ?_, insE_up x r h.2⟩
      rcases List.mem_cons.1 ((insE_perm x r).mem_iff.1 hz) with rfl | hz
      · exact List.not_lt.1 hlt
      · exact h.1 z hz

theorem put_E {E : List Ent} {s : List UInt8} {J : Nat} (hn : ∀ x ∈ E, x.nm ≠ s) : (DataW.map (E.map eD)).put (.string s) (.lit (.int .i64 (J : Int))) = .map ((insE ⟨s, J, none, false, 0, []⟩ E).map eD) := by
  show DataW.map (DataW.insert (eD ⟨s, J, none, false, 0, []⟩) ((E.map eD).filter fun p => !p.1.sameKey (.string s))) = _
  rw [List.filter_eq_self.2 (fun p hp => ?_), insE_D]
  obtain ⟨x, hx, rfl⟩ := List.mem_map.1 hp
  rw [show (eD x).1 = Lit.string x.nm from rfl, sameKey_ne (fun e => hn x hx (by injection e))]
  rfl

theorem bids_ins (Bk M : Nat) (x : Ent) (E : List Ent) : (bids Bk M (insE x E)).Perm (eids x ++ bids Bk M E) := by
  unfold bids
  have h1 : ((insE x E).flatMap eids).Perm ((x :: E).flatMap eids) := (insE_perm x E).flatMap_right eids
  rw [List.flatMap_cons] at h1
  exact ((h1.cons M).cons Bk).trans (by
    have := (List.perm_append_comm (l₁ := eids x) (l₂ := [Bk, M])).append_right (E.flatMap eids)
    simpa using this.symm)

section
variable {B Bk M : Nat} {a b c nw : Int} {E E1 E2 : List Ent} {x : Ent} {w w' : World}

theorem BS.added (h : BS B Bk M a b c nw E w) {s : List UInt8} (hn : ∀ x ∈ E, x.nm ≠ s) {J : Nat} (hJ : w.heap.size ≤ J) (hb : w'.heap[J]? = some (.cells #[.bool false, .int .i64 ((0 : Nat) : Int), .map none] 63 (0, 0))) (hown : w'.ownsMap Try.prog 9 ptrE M (E.length + 1) ((DataW.map (E.map eD)).put (.string s) (.lit (.int .i64 (J : Int))))) (hk : ∀ g, g < w.heap.size → g ≠ M → w'.heap[g]? = w.heap[g]?) :
    BS B Bk M a b c nw (insE ⟨s, J, none, false, 0, []⟩ E) w' := by
  rw [put_E hn] at hown
  have hp := insE_perm ⟨s, J, none, false, 0, []⟩ E
  have hM : ∀ g ∈ Bk :: E.flatMap eids, g ≠ M := fun g hg e => by
    have hap := h.apart
    unfold bids at hap
    rw [List.nodup_cons, List.nodup_cons] at hap
    subst e
    rcases List.mem_cons.1 hg with rfl | hg
    · exact hap.1 List.mem_cons_self
    · exact hap.2.1 hg
  have hlt := h.lt
  refine ⟨h.lo, h.loM, (hk Bk (hlt Bk (by simp [bids])).2 (hM Bk (by simp))).trans h.blk, ?_, fun e he => ?_, ?_⟩
  · rw [hp.length_eq]
    exact hown
  · rcases List.mem_cons.1 (hp.mem_iff.1 he) with rfl | he
    · exact ⟨by have := (hlt Bk (by simp [bids])); show B ≤ J; omega, hb, .inl ⟨rfl, rfl⟩⟩
    · exact (h.jobs e he).keep fun g hg => hk g ((h.jobs e he).lt g hg).2 (hM g (List.mem_cons_of_mem _ (List.mem_flatMap.2 ⟨e, he, hg⟩)))
  · refine (bids_ins Bk M _ E).nodup_iff.2 ?_
    show (J :: bids Bk M E).Nodup
    exact List.nodup_cons.2 ⟨fun hg => by have := (hlt J hg).2; omega, h.apart⟩

/-- What adding comes to. -/
def addE (E : List Ent) (s : ByteArray) : Int := if nameOk s = false then 1 else if ∃ x ∈ E, x.nm = s.data.toList then 6 else if 200 ≤ E.length then 2 else 0

theorem name_no (s : ByteArray) (w : World) (hs : s.size ≤ maxLen) (b : Bool) (hn : nameOk s = b) : Calls Try.prog 26 #[.string s] w fun e w' => e = .returned (.bool b) ∧ w' = w := hn ▸ IsName_any s w hs
set_option maxRecDepth 100000 in
theorem BS.lookE (h : BS B Bk M a b c nw E w) {s : ByteArray} (hs : s.size ≤ maxLen) (hn : ∀ x ∈ E, x.nm ≠ s.data.toList) : (Instr.lookup 56 (.map (some M)) (.string s) false).run Try.prog w = .ok (.pointer none) w := by
  obtain ⟨v, ps, hrun, hv⟩ := h.own.lookup lawS Try.underlying56 (zeroP w) (zd := .lit (.int .i64 (-1))) (zp := []) rfl (keyOf_string_mk Try.underlying9 hs)
  have hno : Maps.has (DataW.map (E.map eD)) (.string s.data.toList) = false := by
    rw [has_eq, List.any_eq_false]
    intro p hp
    obtain ⟨x, hx, rfl⟩ := List.mem_map.1 hp
    rw [show (eD x).1 = Lit.string x.nm from rfl, sameKey_ne (fun e => hn x hx (by injection e))]
    simp
  rw [atKey_of_not_has hno] at hv
  rcases ptrE_inv hv with ⟨rfl, _⟩ | ⟨b, rfl, h2⟩
  · exact hrun
  · injection h2 with h2
    injection h2 with _ h2
    omega
set_option maxRecDepth 100000 in
theorem BS.lookY (h : BS B Bk M a b c nw E w) {s : ByteArray} (hs : s.size ≤ maxLen) (hx : x ∈ E) (hn : x.nm = s.data.toList) : (Instr.lookup 56 (.map (some M)) (.string s) false).run Try.prog w = .ok (.pointer (some ⟨x.blk, 0, none⟩)) w := by
  obtain ⟨v, ps, hrun, hv⟩ := h.own.lookup lawS Try.underlying56 (zeroP w) (zd := .lit (.int .i64 (-1))) (zp := []) rfl (keyOf_string_mk Try.underlying9 hs)
  have hpw2 : (E.map eD).Pairwise (fun p q => p.1 ≠ q.1) := List.pairwise_map.2 (h.names.imp fun hne e => hne (by injection e))
  have hm : (Lit.string s.data.toList, DataW.lit (.int .i64 (x.blk : Int))) ∈ E.map eD := by rw [← hn]; exact List.mem_map.2 ⟨x, hx, rfl⟩
  rw [WideAt.atKey_mem _ (by exact trivial) hpw2 hm] at hv
  rcases ptrE_inv hv with ⟨_, h2⟩ | ⟨b, rfl, h2⟩
  · injection h2 with h2
    injection h2 with _ h2
    omega
  · injection h2 with h2
    injection h2 with _ h2
    obtain rfl : b = x.blk := by omega
    exact hrun

set_option maxHeartbeats 2000000 in
set_option maxRecDepth 100000 in
theorem Add_form (s : ByteArray) (hs : s.size ≤ maxLen) (hn : nameOk s = false) (w : World) :
    Calls Try.prog 10 #[.pointer (some ⟨Bk, 0, none⟩), .string s] w fun e w' => e = .returned (.int .i64 1) ∧ w' = w := by
  have HI : Hid (Calls Try.prog 26 #[.string s] w fun e w' => e = .returned (.bool false) ∧ w' = w) := name_no s w hs _ hn
  clear hn hs
  go_enter Try.func10, Try.ntmps10
  go_wp2_with (first
    | (go_at_call 26; refine HI.out.mono ?_; rintro e w' ⟨rfl, rfl⟩)
    | go_in)
  go_ret
  exact ⟨rfl, rfl⟩

set_option maxHeartbeats 2000000 in
set_option maxRecDepth 100000 in
theorem Add_twice (h : BS B Bk M a b c nw E w) (s : ByteArray) (hs : s.size ≤ maxLen) (hn : nameOk s = true) (hx : x ∈ E) (hxn : x.nm = s.data.toList) :
    Calls Try.prog 10 #[.pointer (some ⟨Bk, 0, none⟩), .string s] w fun e w' => e = .returned (.int .i64 6) ∧ w' = w := by
  have HI : Hid (Calls Try.prog 26 #[.string s] w fun e w' => e = .returned (.bool true) ∧ w' = w) := name_no s w hs _ hn
  have HN : Hid (Calls Try.prog 27 #[.pointer (some ⟨Bk, 0, none⟩)] w fun e w' => e = .returned (.bool false) ∧ w' = w) := lisNone h.c4
  have hl := h.lookY hs hx hxn
  have c4 := h.c4
  clear hn hs h hx hxn
  go_enter Try.func10, Try.ntmps10
  go_wp2_with (first
    | (go_at_call 26; refine HI.out.mono ?_; rintro e w' ⟨rfl, rfl⟩)
    | (go_at_call 27; refine HN.out.mono ?_; rintro e w' ⟨rfl, rfl⟩)
    | go_in)
  go_ret
  exact ⟨rfl, rfl⟩

set_option maxHeartbeats 2000000 in
set_option maxRecDepth 100000 in
theorem Add_many (h : BS B Bk M a b c nw E w) (s : ByteArray) (hs : s.size ≤ maxLen) (hn : nameOk s = true) (hxn : ∀ x ∈ E, x.nm ≠ s.data.toList) (hm : 200 ≤ E.length) :
    Calls Try.prog 10 #[.pointer (some ⟨Bk, 0, none⟩), .string s] w fun e w' => e = .returned (.int .i64 2) ∧ w' = w := by
  have HI : Hid (Calls Try.prog 26 #[.string s] w fun e w' => e = .returned (.bool true) ∧ w' = w) := name_no s w hs _ hn
  have HN : Hid (Calls Try.prog 27 #[.pointer (some ⟨Bk, 0, none⟩)] w fun e w' => e = .returned (.bool false) ∧ w' = w) := lisNone h.c4
  have hl := h.lookE hs hxn
  have c4 := h.c4
  have hln : ∀ ty, (Builtin.len_ #[56] ty #[.map (some M)]).run Try.prog w = .ok (.int .i64 (E.length : Int)) w := fun ty => by
    have := h.own.len Try.underlying56 ty
    rw [show Maps.size (DataW.map (E.map eD)) = E.length from by show (E.map eD).length = _; simp] at this
    exact this
  have hm2 : 200 ≤ (E.length : Int) := by omega
  clear hn hs h hxn hm
  generalize E.length = n at *
  go_enter Try.func10, Try.ntmps10
  go_wp2_with (first
    | (go_at_call 26; refine HI.out.mono ?_; rintro e w' ⟨rfl, rfl⟩)
    | (go_at_call 27; refine HN.out.mono ?_; rintro e w' ⟨rfl, rfl⟩)
    | go_in)
  go_ret
  exact ⟨rfl, rfl⟩

set_option maxHeartbeats 2000000 in
set_option maxRecDepth 100000 in
theorem Add_ok (h : BS B Bk M a b c nw E w) (s : ByteArray) (hs : s.size ≤ maxLen) (hn : nameOk s = true) (hxn : ∀ x ∈ E, x.nm ≠ s.data.toList) (hm : E.length < 200) :
    Calls Try.prog 10 #[.pointer (some ⟨Bk, 0, none⟩), .string s] w fun e w' => e = .returned (.int .i64 0) ∧ ∃ J, BS B Bk M a b c nw (insE ⟨s.data.toList, J, none, false, 0, []⟩ E) w' ∧ Upd (bids Bk M E) (bids Bk M (insE ⟨s.data.toList, J, none, false, 0, []⟩ E)) w w' := by
  have HI : Hid (Calls Try.prog 26 #[.string s] w fun e w' => e = .returned (.bool true) ∧ w' = w) := name_no s w hs _ hn
  have HN : Hid (Calls Try.prog 27 #[.pointer (some ⟨Bk, 0, none⟩)] w fun e w' => e = .returned (.bool false) ∧ w' = w) := lisNone h.c4
  have hl := h.lookE hs hxn
  have c4 := h.c4
  have hln : ∀ ty, (Builtin.len_ #[56] ty #[.map (some M)]).run Try.prog w = .ok (.int .i64 (E.length : Int)) w := fun ty => by
    have := h.own.len Try.underlying56 ty
    rw [show Maps.size (DataW.map (E.map eD)) = E.length from by show (E.map eD).length = _; simp] at this
    exact this
  have hm2 : ¬ 200 ≤ (E.length : Int) := by omega
  have h20 : s.size ≤ 20 := by
    unfold nameOk at hn
    simp at hn
    omega
  have hkey := keyOf_string_mk Try.underlying9 hs
  have hlts := h.lt
  have hMl := (hlts M (by simp [bids])).2
  have hKl := (hlts Bk (by simp [bids])).2
  have put : ∀ W (J : Nat), (∀ g, g < w.heap.size → W.heap[g]? = w.heap[g]?) → w.heap.size ≤ J → W.heap[J]? = some (.cells #[.bool false, .int .i64 ((0 : Nat) : Int), .map none] 63 (0, 0)) → W.os = w.os → W.tape = w.tape → W.output = w.output → w.heap.size ≤ W.heap.size → ∃ W2, (Instr.mapUpdate 56 (.map (some M)) (.string s) (.pointer (some ⟨J, 0, none⟩))).run Try.prog W = .ok () W2 ∧ W2.cell? ⟨Bk, 4, none⟩ = some (.map (some M)) ∧ ∃ J, BS B Bk M a b c nw (insE ⟨s.data.toList, J, none, false, 0, []⟩ E) W2 ∧ Upd (bids Bk M E) (bids Bk M (insE ⟨s.data.toList, J, none, false, 0, []⟩ E)) w W2 := fun W J hk hJ hJb e1 e2 e3 e4 => by
    have ho : W.ownsMap Try.prog 9 ptrE M E.length (.map (E.map eD)) := ownsMap_heap h.own (hk M hMl)
    obtain ⟨W2, r1, r2, r3⟩ := ho.store lawS Try.underlying56 (by unfold maxLen; omega) (val := .pointer (some ⟨J, 0, none⟩)) (d := .lit (.int .i64 (J : Int))) (ps := []) hkey rfl
    have r4 := r3.grown
    have hJl : J < W.heap.size := (Array.getElem?_eq_some_iff.1 hJb).1
    have hbs := h.added (w' := W2) hxn hJ ((r4.block J hJl (by simp; omega)).trans hJb) r2 fun g hg hgn => (r4.block g (by omega) (by simp; exact hgn)).trans (hk g hg)
    refine ⟨W2, r1, hbs.c4, J, hbs, r4.os.trans e1, r4.tape.trans e2, r4.output.trans e3, Nat.le_trans e4 r4.size, fun g hg hgn => ?_, fun g hg => ?_⟩
    · exact (r4.block g (by omega) (by simp; exact fun e => hgn (by simp [bids, e]))).trans (hk g hg)
    · rcases List.mem_append.1 ((bids_ins Bk M _ E).mem_iff.1 hg) with hg | hg
      · have : g = J := by simpa [eids] using hg
        exact .inr (by omega)
      · exact .inl hg
  have HX1 : Hid (∀ W1 : World, Below w.heap.size w.drew W1 → W1.cell? ⟨Bk, 4, none⟩ = some (.map (some M)) ∧ (W1.alloc (.cells #[.bool false, .int .i64 0, .map none] 63)).cell? ⟨Bk, 4, none⟩ = some (.map (some M)) ∧ ∃ W2, (Instr.mapUpdate 56 (.map (some M)) (.string s) (.pointer (some ⟨W1.heap.size, 0, none⟩))).run Try.prog (W1.alloc (.cells #[.bool false, .int .i64 0, .map none] 63)) = .ok () W2 ∧ W2.cell? ⟨Bk, 4, none⟩ = some (.map (some M)) ∧ Hid (∃ J, BS B Bk M a b c nw (insE ⟨s.data.toList, J, none, false, 0, []⟩ E) W2 ∧ Upd (bids Bk M E) (bids Bk M (insE ⟨s.data.toList, J, none, false, 0, []⟩ E)) w W2)) := fun W1 hb => by
    have hA : Below w.heap.size w.drew (W1.alloc (.cells #[.bool false, .int .i64 0, .map none] 63)) := hb.alloc hb.size _
    refine ⟨(World.cell?_of_block (w := w) (hb.block Bk hKl)).trans c4, (World.cell?_of_block (w := w) (hA.block Bk hKl)).trans c4, ?_⟩
    exact put _ W1.heap.size (fun g hg => hA.block g hg) hb.size (heap_alloc_new W1 _) hA.os hA.tape hA.output hA.size
  have HX2 : Hid (∀ W1 : World, Below (w.drew.alloc (.cells #[.bool false, .int .i64 0, .map none] 63)).heap.size (w.drew.alloc (.cells #[.bool false, .int .i64 0, .map none] 63)) W1 → W1.cell? ⟨Bk, 4, none⟩ = some (.map (some M)) ∧ ∃ W2, (Instr.mapUpdate 56 (.map (some M)) (.string s) (.pointer (some ⟨w.heap.size, 0, none⟩))).run Try.prog W1 = .ok () W2 ∧ W2.cell? ⟨Bk, 4, none⟩ = some (.map (some M)) ∧ Hid (∃ J, BS B Bk M a b c nw (insE ⟨s.data.toList, J, none, false, 0, []⟩ E) W2 ∧ Upd (bids Bk M E) (bids Bk M (insE ⟨s.data.toList, J, none, false, 0, []⟩ E)) w W2)) := fun W1 hb => by
    have hA0 : Below w.heap.size w.drew (w.drew.alloc (.cells #[.bool false, .int .i64 0, .map none] 63)) := (Below.refl _ w.drew).alloc (Nat.le_refl _) _
    have hA : Below w.heap.size w.drew W1 := hA0.trans (hb.mono hA0.size)
    have hz : (w.drew.alloc (.cells #[.bool false, .int .i64 0, .map none] 63)).heap.size = w.heap.size + 1 := World.size_alloc _ _
    refine ⟨(World.cell?_of_block (w := w) (hA.block Bk hKl)).trans c4, ?_⟩
    exact put _ w.heap.size (fun g hg => hA.block g hg) (Nat.le_refl _) ((hb.block _ (by omega)).trans (heap_alloc_new w.drew _)) hA.os hA.tape hA.output hA.size
  have HC : Hid (∀ W, Calls Try.prog 28 #[.string s] W fun e w' => e = .returned (.string s) ∧ Below W.heap.size W w') := fun W => clone_any s W (by omega)
  have c4d : w.drew.cell? ⟨Bk, 4, none⟩ = some (.map (some M)) := c4
  have c4e : (w.drew.alloc (.cells #[.bool false, .int .i64 0, .map none] 63)).cell? ⟨Bk, 4, none⟩ = some (.map (some M)) := (World.cell?_of_block (w := w) (Below.heap_alloc w.drew _ Bk hKl)).trans c4
  have HF : Hid (w.drew.cell? ⟨Bk, 4, none⟩ = some (.map (some M)) ∧ (w.drew.alloc (.cells #[.bool false, .int .i64 0, .map none] 63)).cell? ⟨Bk, 4, none⟩ = some (.map (some M))) := ⟨c4d, c4e⟩
  clear hs h hkey hlts hMl hKl put h20 c4d c4e hm hxn hn
  generalize E.length = n at hln hm2
  go_enter Try.func10, Try.ntmps10
  go_wp2_with (first
    | (go_at_call 26; refine HI.out.mono ?_; rintro e w' ⟨rfl, rfl⟩)
    | (go_at_call 27; refine HN.out.mono ?_; rintro e w' ⟨rfl, rfl⟩)
    | go_in)
  obtain ⟨c4d, c4e⟩ := HF.out
  clear c4 hl hln
  go_region_held3 (fun W => W.cell? ⟨Bk, 4, none⟩ = some (.map (some M))) (first | assumption | go_keep) (first
    | (go_at_call 28; refine (HC.out w'.drew).mono ?_; rintro e w1 ⟨rfl, hb⟩; obtain ⟨y1, y2, w2, y3, y5, y4⟩ := HX1.out w1 hb)
    | (go_at_call 28; refine (HC.out _).mono ?_; rintro e w1 ⟨rfl, hb⟩; obtain ⟨y1, w2, y3, y5, y4⟩ := HX2.out w1 hb)
    | fail)
  all_goals
    go_wp2
    go_ret
    exact ⟨rfl, y4.out⟩
end
end Go.Proofs.Ytocahjnibdgmoaa
