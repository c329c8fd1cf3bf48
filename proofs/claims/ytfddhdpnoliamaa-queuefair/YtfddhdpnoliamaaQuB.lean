/- A job of a tenant that has none is added. -/
import Derived.Test.YtfddhdpnoliamaaQuA
namespace Go.Proofs.Ytfddhdpnoliamaa
open Go.RowKit Go.Shelf
attribute [local go_sem ↓] appS_eq

def newC (W : World) (n : Nat) : Ce := ⟨W.heap.size, .slice none 0 0, ⟨n, 0, []⟩⟩
def tenO (n : Nat) : Obj := .cells #[.int .i64 (n : Int), .int .i64 0, .slice none 0 0] 66
def ptrO (g : Nat) : Obj := .cells #[.pointer (some ⟨g, 0, none⟩)] 64

theorem ring_facts {B P : Nat} {rv : Value} {cs : List Ce} {W : World} {q : Qu} (h : QS B P rv cs W q) (n : Nat) :
    (((W.alloc (tenO n)).alloc (ptrO W.heap.size)).drew).ownsRow B 64 1 rv cs.length (cs.map pc) ∧
    B ≤ (((W.alloc (tenO n)).alloc (ptrO W.heap.size)).drew).heap.size ∧
    (((W.alloc (tenO n)).alloc (ptrO W.heap.size)).drew).heap.size = W.heap.size + 2 ∧
    (∀ (k : Nat) (u : Value), [pc (newC W n)][k]? = some u → (((W.alloc (tenO n)).alloc (ptrO W.heap.size)).drew).cell? ((⟨W.heap.size + 1, 0, none⟩ : Addr).add k) = some u) ∧
    ∀ {w1 : World} {g1 cap1 : Nat}, w1.ownsRow B 64 1 (.slice (some ⟨g1, 0, none⟩) (cs.length + 1) cap1) (cs.length + 1) (cs.map pc ++ [pc (newC W n)]) → (((W.alloc (tenO n)).alloc (ptrO W.heap.size)).drew).grownBy w1 rv.ownBlock → (rv.ownBlock = some g1 ∨ g1 = W.heap.size + 2) →
      w1.cell? ⟨P, 1, none⟩ = some rv ∧ w1.frozen? ⟨P, 1, none⟩ = false ∧ (∀ g : Nat, g < W.heap.size → g ∉ ids P rv cs → (w1.setCell ⟨P, 1, none⟩ (.slice (some ⟨g1, 0, none⟩) (cs.length + 1) cap1)).heap[g]? = W.heap[g]?) ∧
      QS B P (.slice (some ⟨g1, 0, none⟩) (cs.length + 1) cap1) (cs ++ [newC W n]) (w1.setCell ⟨P, 1, none⟩ (.slice (some ⟨g1, 0, none⟩) (cs.length + 1) cap1)) { q with ring := q.ring ++ [⟨n, 0, []⟩] } ∧
      Upd (ids P rv cs) (ids P (.slice (some ⟨g1, 0, none⟩) (cs.length + 1) cap1) (cs ++ [newC W n])) W (w1.setCell ⟨P, 1, none⟩ (.slice (some ⟨g1, 0, none⟩) (cs.length + 1) cap1)) := by
  have hBl : B ≤ W.heap.size := by have := h.lo; have := (h.lt P List.mem_cons_self).2; omega
  have z1 : (W.alloc (tenO n)).heap.size = W.heap.size + 1 := World.size_alloc _ _
  have q4 : (((W.alloc (tenO n)).alloc (ptrO W.heap.size)).drew).heap.size = W.heap.size + 2 := by show ((W.alloc _).alloc _).heap.size = _; rw [World.size_alloc, z1]
  have hlt := h.lt
  have hPl := (hlt P List.mem_cons_self).2
  have old : ∀ g : Nat, g < W.heap.size → (((W.alloc (tenO n)).alloc (ptrO W.heap.size)).drew).heap[g]? = W.heap[g]? := fun g hg => (heap_al (W.alloc (tenO n)) _ g (by rw [z1]; omega)).trans (heap_al W _ g hg)
  have hT : (((W.alloc (tenO n)).alloc (ptrO W.heap.size)).drew).heap[W.heap.size]? = some (.cells #[.int .i64 (n : Int), .int .i64 0, .slice none 0 0] 66 (0, 0)) := (heap_al (W.alloc (tenO n)) _ W.heap.size (by rw [z1]; omega)).trans (heap_alloc_new W (tenO n))
  refine ⟨(h.row.alloc _).alloc _, by rw [q4]; omega, q4, ?_, ?_⟩
  · intro k u hk
    rw [add0]
    have hk1 : k < 1 := (List.getElem?_eq_some_iff.1 hk).1
    have hk0 : k = 0 := by omega
    subst hk0
    refine al_at (W.alloc (tenO n)) _ _ _ 0 u (by rw [z1]) ?_
    exact hk
  intro w1 g1 cap1 a1 a2 a3
  have hbk : ∀ g : Nat, g < W.heap.size → g ∉ ob rv → w1.heap[g]? = W.heap[g]? := fun g hg hn => (a2.block g (by rw [q4]; omega) (fun e => hn (mem_ob.2 e.symm))).trans (old g hg)
  have hPr : P ∉ ob rv := fun e => h.p_ne.1 P (mem_ob.1 e) rfl
  have e1 : w1.heap[P]? = W.heap[P]? := hbk P hPl hPr
  have hTr : W.heap.size ∉ ob rv := fun e => by have := (hlt _ (mem_ids_r (mem_ob.1 e))).2; omega
  have eT : w1.heap[W.heap.size]? = some (.cells #[.int .i64 (n : Int), .int .i64 0, .slice none 0 0] 66 (0, 0)) := (a2.block W.heap.size (by rw [q4]; omega) (fun e => hTr (mem_ob.2 e.symm))).trans hT
  have hg1P : g1 ≠ P := fun e => by
    rcases a3 with a3 | a3
    · exact hPr (mem_ob.2 (by rw [a3, e]))
    · omega
  have hg1T : g1 ≠ W.heap.size := fun e => by
    rcases a3 with a3 | a3
    · exact hTr (mem_ob.2 (by rw [a3, e]))
    · omega
  have e2 : (w1.setCell ⟨P, 1, none⟩ (.slice (some ⟨g1, 0, none⟩) (cs.length + 1) cap1)).heap[P]? = some (.cells #[.int .i64 q.qm, .slice (some ⟨g1, 0, none⟩) (cs.length + 1) cap1, .bool q.beg] 56 (0, 0)) := by rw [Go.Joins.block_setCell (e1.trans h.blk)]; rfl
  have set : ∀ g : Nat, g ≠ P → (w1.setCell ⟨P, 1, none⟩ (.slice (some ⟨g1, 0, none⟩) (cs.length + 1) cap1)).heap[g]? = w1.heap[g]? := fun g hg => Below.heap_setCell _ ⟨P, 1, none⟩ _ g hg
  have hnew : ∀ g, g ∈ ids P (.slice (some ⟨g1, 0, none⟩) (cs.length + 1) cap1) (cs ++ [newC W n]) → g = g1 ∨ g = W.heap.size ∨ (g ∈ ids P rv cs ∧ (g = P ∨ g ∈ cs.flatMap cids)) := by
    intro g hg
    rcases List.mem_cons.1 hg with rfl | hg
    · exact .inr (.inr ⟨List.mem_cons_self, .inl rfl⟩)
    rcases List.mem_append.1 hg with hg | hg
    · have := mem_ob.1 hg; simp [Value.ownBlock] at this; exact .inl this.symm
    · rw [List.flatMap_append] at hg
      rcases List.mem_append.1 hg with hg | hg
      · exact .inr (.inr ⟨List.mem_cons_of_mem _ (List.mem_append_right _ hg), .inr hg⟩)
      · have : g ∈ cids (newC W n) := by simpa using hg
        rcases List.mem_cons.1 this with e | e
        · exact .inr (.inl e)
        · have := mem_ob.1 e; simp [newC, Value.ownBlock] at this
  refine ⟨by rw [World.cell?_of_block (w := W) e1]; exact h.c1, by rw [World.frozen?_of_block (w := W) e1]; exact h.fz 1, fun g x1 x2 => ?_, ?_, ?_⟩
  · exact (set g (fun e => x2 (e ▸ List.mem_cons_self))).trans (hbk g x1 fun e => x2 (mem_ids_r (mem_ob.1 e)))
  · refine ⟨h.lo, by rw [List.map_append, h.ring]; rfl, e2, ?_, ?_, ?_⟩
    · have : (cs ++ [newC W n]).length = cs.length + 1 := by simp
      rw [this, List.map_append]
      exact own_heap a1 fun g hg => set g fun e => hg1P (by simp [Value.ownBlock] at hg; rw [hg]; exact e)
    · intro d hd
      rcases List.mem_append.1 hd with hd | hd
      · refine (h.tens d hd).keep fun g hg => ?_
        have hgP : g ≠ P := fun e => h.p_ne.2 d hd (e ▸ hg)
        have hgr : g ∉ ob rv := fun e => h.r_ne g (mem_ob.1 e) d hd hg
        exact (set g hgP).trans (hbk g (hlt g (mem_ids_c hd hg)).2 hgr)
      · rw [List.mem_singleton.1 hd]
        refine ⟨hBl, (set W.heap.size (by omega)).trans eT, ?_⟩
        exact World.ownsRow_nil _ _ _ _
    · have hnd := h.apart
      have hf : (cs.flatMap cids).Nodup := (List.nodup_append.1 (List.nodup_cons.1 hnd).2).2.1
      have hPf : P ∉ cs.flatMap cids := fun e => (List.nodup_cons.1 hnd).1 (List.mem_append_right _ e)
      have hfl : ∀ g ∈ cs.flatMap cids, g < W.heap.size := fun g hg => (hlt g (List.mem_cons_of_mem _ (List.mem_append_right _ hg))).2
      have hg1f : g1 ∉ cs.flatMap cids := fun e => by
        rcases a3 with a3 | a3
        · obtain ⟨d, hd, hg⟩ := List.mem_flatMap.1 e
          exact h.r_ne g1 a3 d hd hg
        · have := hfl g1 e; omega
      have e0 : ids P (.slice (some ⟨g1, 0, none⟩) (cs.length + 1) cap1) (cs ++ [newC W n]) = P :: g1 :: (cs.flatMap cids ++ [W.heap.size]) := by
        unfold ids
        rw [List.flatMap_append]
        rfl
      rw [e0]
      refine List.nodup_cons.2 ⟨?_, List.nodup_cons.2 ⟨?_, ?_⟩⟩
      · intro hm
        rcases List.mem_cons.1 hm with e | hm
        · exact hg1P e.symm
        · rcases List.mem_append.1 hm with hm | hm
          · exact hPf hm
          · have := List.mem_singleton.1 hm; omega
      · intro hm
        rcases List.mem_append.1 hm with hm | hm
        · exact hg1f hm
        · exact hg1T (List.mem_singleton.1 hm)
      · rw [List.nodup_append]
        refine ⟨hf, by simp, fun g hg g' hg' e => ?_⟩
        have := hfl g hg
        have := List.mem_singleton.1 hg'
        omega
  · refine ⟨a2.os, a2.tape, a2.output, ?_, fun g x1 x2 => ?_, fun g hg => ?_⟩
    · have := a2.size
      have e : (w1.setCell ⟨P, 1, none⟩ (.slice (some ⟨g1, 0, none⟩) (cs.length + 1) cap1)).heap.size = w1.heap.size := by simp [World.setCell]
      omega
    · exact (set g (fun e => x2 (e ▸ List.mem_cons_self))).trans (hbk g x1 fun e => x2 (mem_ids_r (mem_ob.1 e)))
    · rcases hnew g hg with e | e | e
      · rcases a3 with a3 | a3
        · exact .inl (mem_ids_r (by rw [a3, e]))
        · exact .inr (by omega)
      · exact .inr (by omega)
      · exact .inl e.1

set_option maxHeartbeats 8000000 in
set_option maxRecDepth 100000 in
theorem add_new {B P : Nat} {rv : Value} {cs : List Ce} {w : World} {q : Qu} (h : QS B P rv cs w q) (j : Jb) (hp : plc j.ten q.ring = -1) (hn : cs.length ≤ 100000) :
    Calls Try.prog 27 #[.pointer (some ⟨P, 0, none⟩), .agg #[.int .i64 j.ten, .string j.name, .int .i64 j.cost]] w fun e w' => e = .returned (.tuple #[]) ∧ ∃ rv' c',
      c'.t = ⟨j.ten, 0, [j]⟩ ∧ QS B P rv' (cs ++ [c']) w' { q with ring := q.ring ++ [⟨j.ten, 0, [j]⟩] } ∧ Upd (ids P rv cs) (ids P rv' (cs ++ [c'])) w w' := by
  obtain ⟨i0, hi, hz0, hz1, hz2⟩ := info_p infJ
  obtain ⟨i1, hi1, ha0, ha1, ha2⟩ := info_p infP
  have hb0 : Below w.heap.size w (w.alloc (.cells #[.int .i64 j.ten, .string j.name, .int .i64 j.cost] 34)) := (Below.refl _ w).alloc (Nat.le_refl _) _
  have h1 := h.up hb0
  have l0 := heap_alloc_new w (.cells #[.int .i64 j.ten, .string j.name, .int .i64 j.cost] 34)
  have hz3 : w.heap.size < (w.alloc (.cells #[.int .i64 j.ten, .string j.name, .int .i64 j.cost] 34)).heap.size := by rw [World.size_alloc]; omega
  have HPl : Hid (Calls Try.prog 35 #[.pointer (some ⟨P, 0, none⟩), .int .i64 j.ten] (w.alloc (.cells #[.int .i64 j.ten, .string j.name, .int .i64 j.cost] 34)) fun e w' => e = .returned (.int .i64 (-1)) ∧ Below (w.alloc (.cells #[.int .i64 j.ten, .string j.name, .int .i64 j.cost] 34)).heap.size (w.alloc (.cells #[.int .i64 j.ten, .string j.name, .int .i64 j.cost] 34)) w') := by
    have := placeOf_any h1 (by omega) j.ten
    rw [hp] at this
    exact this
  have HH : Hid (QS B P rv cs w q) := h
  have H0 : Hid (QS B P rv cs (w.alloc (.cells #[.int .i64 j.ten, .string j.name, .int .i64 j.cost] 34)) q ∧ Below w.heap.size w (w.alloc (.cells #[.int .i64 j.ten, .string j.name, .int .i64 j.cost] 34)) ∧ (w.alloc (.cells #[.int .i64 j.ten, .string j.name, .int .i64 j.cost] 34)).heap[w.heap.size]? = some (.cells #[.int .i64 j.ten, .string j.name, .int .i64 j.cost] 34 (0, 0)) ∧ w.heap.size < (w.alloc (.cells #[.int .i64 j.ten, .string j.name, .int .i64 j.cost] 34)).heap.size) := ⟨h1, hb0, l0, hz3⟩
  have hone := jc_one j
  have hnl : (jc j).length = 1 * 3 := rfl
  have q1 : cs.length + 1 ≤ maxLen := by unfold maxLen; omega
  have q2 : (cs.length + 1) * 8 ≤ 140737488355328 := by omega
  have e0 : (w.alloc (.cells #[.int .i64 j.ten, .string j.name, .int .i64 j.cost] 34)).cell? ⟨w.heap.size, 0, none⟩ = some (.int .i64 j.ten) := by rw [Lib.cell_of_heap l0]; rfl
  clear h h1 hb0 l0 hz3 hp
  go_enter Try.func27, Try.ntmps27
  go_wp2_with fail
  generalize hJ : w.heap.size = J at *
  generalize w.alloc (.cells #[.int .i64 j.ten, .string j.name, .int .i64 j.cost] 34) = w0 at *
  refine HPl.out.mono ?_
  rintro e W ⟨rfl, hbW⟩
  have hW := H0.out.1.up hbW
  have hl := (hbW.block J H0.out.2.2.2).trans H0.out.2.2.1
  have j0 : W.cell? ⟨J, 0, none⟩ = some (.int .i64 j.ten) := by rw [Lib.cell_of_heap hl]; rfl
  have c1 := hW.c1
  obtain ⟨ra, rcap, hrv⟩ := row_shape hW.row
  obtain ⟨p1, p2, p3, p4, p5⟩ := ring_facts hW j.ten
  obtain ⟨g', cap', w1, hrun, hown1, hgrow, hat, hltg⟩ := run_append_lies (P := Try.prog) (((W.alloc (tenO j.ten)).alloc (ptrO W.heap.size)).drew) 54 54 B 64 i1 (.pointer none) 1 8 Try.underlying54 hi1 ha0 ha1 ha2 rfl (by decide) rv cs.length (cs.map pc) p1 ⟨W.heap.size + 1, 0, none⟩ 1 1 [pc (newC W j.ten)] rfl p4 (fun u hu => by rw [List.mem_singleton.1 hu]; rfl) (by decide) q1 q2 p2 (W.heap.size + 2) p3
  obtain ⟨x1, x2, x3, x4, x5⟩ := p5 hown1 hgrow hat
  have b1 : P < W.heap.size := (hW.lt P List.mem_cons_self).2
  have b4 : J < W.heap.size := World.block_lt_of_cell? W _ j0
  have m1 : ¬ P = W.heap.size := by omega
  have m2 : ¬ P = W.heap.size + 1 := by omega
  have m4 : ¬ J = W.heap.size := by omega
  have m5 : ¬ J = W.heap.size + 1 := by omega
  have nJ : J ∉ ids P rv cs := fun e => by have := (HH.out.lt J e).2; omega
  have hJ2 := x3 J b4 nJ
  have hap : (appS #[54, 54] 54 #[.slice ra cs.length rcap, .slice (some ⟨W.heap.size + 1, 0, none⟩) 1 1]).run Try.prog (((W.alloc (.cells #[.int .i64 j.ten, .int .i64 0, .slice none 0 0] 66)).alloc (.cells #[.pointer (some ⟨W.heap.size, 0, none⟩)] 64)).drew) = .ok (.slice (some ⟨g', 0, none⟩) (cs.length + 1) cap') w1 := by rw [← hrv]; exact hrun
  have wj : w1.cell? ⟨J, 0, none⟩ = some (.int .i64 j.ten) := by
    have : w1.heap[J]? = W.heap[J]? := (Below.heap_setCell w1 ⟨P, 1, none⟩ (.slice (some ⟨g', 0, none⟩) (cs.length + 1) cap') J (fun e => nJ (by rw [show J = P from e]; exact List.mem_cons_self))).symm.trans hJ2
    rw [World.cell?_of_block (w := W) this]; exact j0
  rw [hrv] at c1 x1
  have HU : Hid (Upd (ids P rv cs) (ids P rv cs) w W) := (Upd.of_below (I := ids P rv cs) (w := w) (w' := w0) (by rw [hJ]; exact H0.out.2.1)).trans (Upd.of_below hbW)
  have Hl : Hid (W.heap[J]? = some (.cells #[.int .i64 j.ten, .string j.name, .int .i64 j.cost] 34 (0, 0))) := hl
  have Hx4 : Hid (QS B P (.slice (some ⟨g', 0, none⟩) (cs.length + 1) cap') (cs ++ [newC W j.ten]) (w1.setCell ⟨P, 1, none⟩ (.slice (some ⟨g', 0, none⟩) (cs.length + 1) cap')) { q with ring := q.ring ++ [⟨j.ten, 0, []⟩] } ∧ Upd (ids P rv cs) (ids P (.slice (some ⟨g', 0, none⟩) (cs.length + 1) cap') (cs ++ [newC W j.ten])) W (w1.setCell ⟨P, 1, none⟩ (.slice (some ⟨g', 0, none⟩) (cs.length + 1) cap')) ∧ (w1.setCell ⟨P, 1, none⟩ (.slice (some ⟨g', 0, none⟩) (cs.length + 1) cap')).heap[J]? = W.heap[J]?) := ⟨x4, x5, hJ2⟩
  clear hW hbW hl p1 p2 p3 p4 p5 hown1 hgrow hat hltg hrun x3 x4 x5 hJ2 HPl H0 hJ
  have s1 : 1 ≤ maxLen := by unfold maxLen; omega
  have s2 : 1 * 32 ≤ 140737488355328 := by omega
  go_wp2
  go_region
  all_goals
    generalize w1.setCell ⟨P, 1, none⟩ (.slice (some ⟨g', 0, none⟩) (cs.length + 1) cap') = V at *
    have hV : QS B P (.slice (some ⟨g', 0, none⟩) (cs.length + 1) cap') (cs ++ newC W j.ten :: []) V { q with ring := q.ring ++ [⟨j.ten, 0, []⟩] } := Hx4.out.1
    have hlV := Hx4.out.2.2.trans Hl.out
    have y0 : V.cell? ⟨J, 0, none⟩ = some (.int .i64 j.ten) := by rw [Lib.cell_of_heap hlV]; rfl
    have y1 : V.cell? ⟨J, 1, none⟩ = some (.string j.name) := by rw [Lib.cell_of_heap hlV]; rfl
    have y2 : V.cell? ⟨J, 2, none⟩ = some (.int .i64 j.cost) := by rw [Lib.cell_of_heap hlV]; rfl
    have v1 := hV.c1
    have ht := hV.tens (newC W j.ten) (by simp)
    have v2 : V.cell? ⟨W.heap.size, 2, none⟩ = some (.slice none 0 0) := ht.c2
    obtain ⟨gg, gcap, hgv, k0⟩ := mid_ptr hV
    cases hgv
    obtain ⟨p1, p2, p3, p4⟩ := put_facts hV j
    obtain ⟨h', hcap', u1, hrun, hown1, hgrow, hat, hltg⟩ := run_append_lies (P := Try.prog) ((V.alloc (.cells #[.int .i64 j.ten, .string j.name, .int .i64 j.cost] 34)).drew) 30 30 B 34 i0 (.agg #[.int .i64 0, .string ⟨#[]⟩, .int .i64 0]) 3 32 Try.underlying30 hi hz0 hz1 hz2 rfl (by decide) (newC W j.ten).jv 0 (jcs []) p1 ⟨V.heap.size, 0, none⟩ 1 1 (jc j) hnl (new_job V j) hone (by decide) s1 s2 p2 (V.heap.size + 1) p3
    obtain ⟨t1, t2, t3, t4⟩ := p4 hown1 hgrow hat
    have b5 : P < V.heap.size := (hV.lt P List.mem_cons_self).2
    have b6 : W.heap.size < V.heap.size := ht.lt
    have b7 : g' < V.heap.size := World.block_lt_of_cell? V _ k0
    have b8 : J < V.heap.size := World.block_lt_of_cell? V _ y0
    have hbk : ∀ k : Nat, k < V.heap.size → u1.heap[k]? = V.heap[k]? := fun k hk => (hgrow.block k (by rw [p3]; omega) (fun e => by cases e)).trans (heap_al V _ k hk)
    have d1 : u1.cell? ⟨P, 1, none⟩ = some (.slice (some ⟨g', 0, none⟩) (cs.length + 1) cap') := by rw [World.cell?_of_block (w := V) (hbk P b5)]; exact v1
    have d2 : u1.cell? ⟨g', cs.length, none⟩ = some (.pointer (some ⟨W.heap.size, 0, none⟩)) := by rw [World.cell?_of_block (w := V) (hbk g' b7)]; exact k0
    have d3 : u1.cell? ⟨W.heap.size, 2, none⟩ = some (.slice none 0 0) := by rw [World.cell?_of_block (w := V) (hbk _ b6)]; exact v2
    have d4 : u1.cell? ⟨J, 0, none⟩ = some (.int .i64 j.ten) := by rw [World.cell?_of_block (w := V) (hbk J b8)]; exact y0
    have d5 : u1.cell? ⟨J, 1, none⟩ = some (.string j.name) := by rw [World.cell?_of_block (w := V) (hbk J b8)]; exact y1
    have d6 : u1.cell? ⟨J, 2, none⟩ = some (.int .i64 j.cost) := by rw [World.cell?_of_block (w := V) (hbk J b8)]; exact y2
    have f2 : u1.frozen? ⟨W.heap.size, 2, none⟩ = false := t2
    have m6 : ¬ P = V.heap.size := by omega
    have m7 : ¬ W.heap.size = V.heap.size := by omega
    have m8 : ¬ g' = V.heap.size := by omega
    have m9 : ¬ J = V.heap.size := by omega
    have k0' : V.cell? ⟨g', cs.length, none⟩ = some (.pointer (some ⟨W.heap.size, 0, none⟩)) := k0
    have hap2 : (appS #[30, 30] 30 #[.slice none 0 0, .slice (some ⟨V.heap.size, 0, none⟩) 1 1]).run Try.prog ((V.alloc (.cells #[.int .i64 j.ten, .string j.name, .int .i64 j.cost] 34)).drew) = .ok (.slice (some ⟨h', 0, none⟩) 1 hcap') u1 := hrun
    have HE : Hid (∃ rv' c', c'.t = ⟨j.ten, 0, [j]⟩ ∧ QS B P rv' (cs ++ [c']) (u1.setCell ⟨W.heap.size, 2, none⟩ (.slice (some ⟨h', 0, none⟩) 1 hcap')) { q with ring := q.ring ++ [⟨j.ten, 0, [j]⟩] } ∧ Upd (ids P rv cs) (ids P rv' (cs ++ [c'])) w (u1.setCell ⟨W.heap.size, 2, none⟩ (.slice (some ⟨h', 0, none⟩) 1 hcap'))) := by
      refine ⟨.slice (some ⟨g', 0, none⟩) (cs.length + 1) cap', ⟨W.heap.size, .slice (some ⟨h', 0, none⟩) 1 hcap', ⟨j.ten, 0, [j]⟩⟩, rfl, ?_, ?_⟩
      · have := t3
        rw [HH.out.ring] at this
        exact this
      · exact (HU.out.trans Hx4.out.2.1).trans t4
    generalize W.heap.size = T at *
    clear hV hlV ht p1 p2 p3 p4 hown1 hgrow hat hltg hrun t1 t2 t3 t4 hbk Hx4 hap HU Hl HH x1 x2 wj c1 j0 b1 b4 m1 m2 m4 m5 nJ k0
    have hci : (cs.length : Int) < (cs.length : Int) + 1 := by omega
    go_wp2
    go_region
    all_goals
      go_wp2
      go_end0
      exact ⟨rfl, HE.out⟩
end Go.Proofs.Ytfddhdpnoliamaa
