/- QueueAlone, walked. -/
import Derived.Test.YtfddhdpnoliamaaQuBg
import Derived.Deep.CutRange
namespace Go.Proofs.Ytfddhdpnoliamaa
open Go.RowKit Go.Shelf
attribute [local go_sem ↓] appS_eq

/-- What may be chosen from. -/
def CC (c m : Int) : Prop := -9223372036854775808 ≤ c ∧ c ≤ 9223372036854775807 ∧ 0 < m
def chI (c m : Int) : Int := (chs c m.toNat : Int)
theorem choose_int (c m : Int) (w : World) (h : CC c m) : Calls Try.prog 9 #[.int .i64 c, .int .i64 m] w fun e w' => e = .returned (.int .i64 (chI c m)) ∧ w' = w := by
  have := choose_any c m.toNat w h.1 h.2.1 (by have := h.2.2; omega)
  rwa [show ((m.toNat : Nat) : Int) = m from by have := h.2.2; omega] at this

/-- Ints that came in. -/
structure IntsIn (w : World) (ao : Option Addr) (l : List Int) : Prop where
  at_ : l ≠ [] → ∃ g o, ao = some ⟨g, o, none⟩ ∧ g < w.heap.size ∧ ∀ (k : Nat) (hk : k < l.length), w.cell? ⟨g, o + k, none⟩ = some (.int .i64 l[k])
  lo : ∀ x ∈ l, -9223372036854775808 ≤ x ∧ x ≤ 9223372036854775807
  len : l.length ≤ 17592186044416

def jobAt (T : Nat) (l : List Int) (i : Nat) : Jb := ⟨T, nmB1 i, 1 + chs (l.getD i 0) 1000⟩
def jobsK (T : Nat) (l : List Int) (k : Nat) : List Jb := (List.range k).map (jobAt T l)
theorem jobsK_succ (T : Nat) (l : List Int) (k : Nat) : jobsK T l (k + 1) = jobsK T l k ++ [jobAt T l k] := by unfold jobsK; rw [List.range_succ, List.map_append]; rfl
theorem jobsK_len (T : Nat) (l : List Int) (k : Nat) : (jobsK T l k).length = k := by unfold jobsK; simp
theorem jobsK_at (T : Nat) (l : List Int) (n k : Nat) (h : k < n) : (jobsK T l n)[k]'(by rw [jobsK_len]; exact h) = jobAt T l k := by unfold jobsK; simp
def qK (m T : Nat) (l : List Int) (k : Nat) : Qu := ⟨m, if k = 0 then [] else [⟨T, 0, jobsK T l k⟩], false⟩
theorem qK_succ (m T : Nat) (l : List Int) (k : Nat) : { qK m T l k with ring := addR (jobAt T l k) (qK m T l k).ring } = qK m T l (k + 1) := by
  unfold qK
  rw [if_neg (Nat.succ_ne_zero k)]
  cases k with
  | zero => rfl
  | succ k =>
    simp only [Nat.succ_ne_zero, if_false]
    have : addR (jobAt T l (k + 1)) [⟨T, 0, jobsK T l (k + 1)⟩] = [⟨T, 0, jobsK T l (k + 1 + 1)⟩] := by
      show (if T = (jobAt T l (k + 1)).ten then _ else _) = _
      have e : T = (jobAt T l (k + 1)).ten := rfl
      rw [if_pos e, jobsK_succ T l (k + 1)]
    rw [this]
theorem qK_has {m T : Nat} {l : List Int} {k : Nat} (hk : k < 1000) : hasN (qK m T l k).ring (jobAt T l k).name = false := by
  unfold qK
  simp only
  split
  · rfl
  · unfold hasN
    simp only [List.any_cons, List.any_nil, Bool.or_false]
    rw [List.any_eq_false]
    intro x hx
    unfold jobsK at hx
    obtain ⟨i, hi, rfl⟩ := List.mem_map.1 hx
    have hik : i < k := List.mem_range.1 hi
    have : eqN (jobAt T l i).name (jobAt T l k).name = false := (eqN_no _ _).2 fun e => by
      have := nm_inj (by omega) hk e
      omega
    rw [this]; decide
theorem qK_size {m T : Nat} {l : List Int} {k : Nat} : sizeL (qK m T l k).ring = k := by
  unfold qK
  simp only
  split
  · rename_i h; rw [h]; rfl
  · simp [sizeL, jobsK_len]

/-- The queue and the law's own list lie there, k jobs on. -/
structure At1 (P m T : Nat) (l : List Int) (w0 : World) (k : Nat) (lv : Value) (W : World) (rv : Value) (cs : List Ce) : Prop where
  q : QS w0.heap.size P rv cs W (qK m T l k)
  i : QI (qK m T l k)
  b : Below w0.heap.size w0 W
  row : W.ownsRow w0.heap.size 34 3 lv k (jcs (jobsK T l k))
  off : ∀ g, lv.ownBlock = some g → g ∉ ids P rv cs

/-- The queue and the law's own list lie there, i jobs are gone. -/
structure At2 (P m T : Nat) (l : List Int) (w0 : World) (n i : Nat) (lv : Value) (W : World) (rv : Value) (cs : List Ce) (q : Qu) : Prop where
  qs : QS w0.heap.size P rv cs W q
  qi : QI q
  r : if i = n then q.ring = [] else ∃ c, q.ring = [⟨T, c, (jobsK T l n).drop i⟩]
  b : Below w0.heap.size w0 W
  row : W.ownsRow w0.heap.size 34 3 lv n (jcs (jobsK T l n))
  off : ∀ g, lv.ownBlock = some g → g ∉ ids P rv cs
theorem At1.two {P m T : Nat} {l : List Int} {w0 : World} {k : Nat} {lv : Value} {W : World} {rv : Value} {cs : List Ce} (h : At1 P m T l w0 k lv W rv cs) : At2 P m T l w0 k 0 lv W rv cs (qK m T l k) := by
  refine ⟨h.q, h.i, ?_, h.b, h.row, h.off⟩
  split
  · rename_i e; rw [← e]; rfl
  · rename_i e
    refine ⟨0, ?_⟩
    unfold qK
    rw [if_neg (fun h => e h.symm)]
    rfl
/-- Next, of one alone. -/
theorem At2.next {P m T : Nat} {l : List Int} {w0 : World} {n i : Nat} {lv : Value} {W : World} {rv : Value} {cs : List Ce} {q : Qu} (h : At2 P m T l w0 n i lv W rv cs q) (hi : i < n) :
    Calls Try.prog 12 #[.pointer (some ⟨P, 0, none⟩)] W fun e w' => e = .returned (.tuple #[jagg (jobAt T l i), .bool true]) ∧ ∃ rv' cs' q', At2 P m T l w0 n (i + 1) lv w' rv' cs' q' := by
  have hr := h.r
  rw [if_neg (by omega)] at hr
  obtain ⟨c, hr⟩ := hr
  refine (Next_some h.qs h.qi (by rw [hr]; simp)).mono ?_
  rintro e w' ⟨r, t, s, j, js, hs, hir, hr2, hj, hc, rfl, rv', cs', hq', hu'⟩
  obtain ⟨c', hr'⟩ := hs.one hr
  rw [hr'] at hr2
  cases hr2
  have hlen := jobsK_len T l n
  have hd : (jobsK T l n).drop i = jobAt T l i :: (jobsK T l n).drop (i + 1) := by
    rw [List.drop_eq_getElem_cons (by rw [hlen]; exact hi), jobsK_at T l n i hi]
  rw [hd] at hj
  cases hj
  have hlb : ∀ g, lv.ownBlock = some g → g < W.heap.size := fun g hg => (h.row.lt g hg).2
  refine ⟨rfl, rv', cs', _, hq', hir.gone hr' (by rw [hd]), ?_, ?_, ?_, ?_⟩
  · have hg : r.gone.ring = if (jobsK T l n).drop (i + 1) = [] then [] else [⟨T, c' - (jobAt T l i).cost, (jobsK T l n).drop (i + 1)⟩] := by
      unfold Qu.gone
      rw [hr']
      simp only [hd]
      split <;> rfl
    split
    · rename_i e
      rw [hg, if_pos (List.drop_eq_nil_iff.2 (by omega))]
    · rename_i e
      rw [hg, if_neg (fun h0 => by have := List.drop_eq_nil_iff.1 h0; omega)]
      exact ⟨_, rfl⟩
  · exact h.b.trans (hu'.below (fun g hg => (h.qs.lt g hg).1) h.b.size)
  · exact own_heap h.row fun g hg => hu'.block g (hlb g hg) (h.off g hg)
  · intro g hg hm
    rcases hu'.new g hm with e | e
    · exact h.off g hg e
    · have := hlb g hg; omega

/-- A job in a block of its own. -/
structure JobIn (w W : World) (J : Nat) (j : Jb) : Prop where
  b : Below w.heap.size w W
  hj : W.heap[J]? = some (.cells #[.int .i64 j.ten, .string j.name, .int .i64 j.cost] 34 (0, 0))
  lo : w.heap.size ≤ J

set_option maxHeartbeats 8000000 in
set_option maxRecDepth 100000 in
theorem alone_walk (m tn : Int) (ao : Option Addr) (cap : Nat) (l : List Int) (w : World) (hl : IntsIn w ao l) (ht0 : -9223372036854775808 ≤ tn) (ht1 : tn ≤ 9223372036854775807) :
    Calls Try.prog 5 #[.int .i64 m, .int .i64 tn, .slice ao l.length cap] w fun e w' => e = .returned (.bool true) ∧ Below w.heap.size w w' := by
  have HBg : Hid (Calls Try.prog 7 #[] w fun e w' => e = .returned (.bool true) ∧ Below w.heap.size w w') := begun_any w
  by_cases hm : m < 1 ∨ 1000 < m
  · have HN : Hid (∀ W, Calls Try.prog 8 #[.int .i64 m] W fun e w' => e = .returned (.tuple #[.pointer none, .int .i64 3]) ∧ w' = W) := fun W => New_no m W hm
    clear hm hl ht0 ht1
    go_enter Try.func5, Try.ntmps5
    go_wp2_with fail
    refine HBg.out.mono ?_
    rintro e w1 ⟨rfl, hb1⟩
    go_wp2_with fail
    refine (HN.out w1).mono ?_
    rintro e w2 ⟨rfl, rfl⟩
    go_wp2
    go_ret
    exact ⟨rfl, hb1⟩
  obtain ⟨mn, rfl⟩ : ∃ mn : Nat, (mn : Int) = m := ⟨m.toNat, by omega⟩
  have hm1 : 1 ≤ mn := by omega
  have hm2 : mn ≤ 1000 := by omega
  have HN : Hid (∀ W : World, Calls Try.prog 8 #[.int .i64 mn] W fun e w' => e = .returned (.tuple #[.pointer (some ⟨W.heap.size, 0, none⟩), .int .i64 0]) ∧ QS W.heap.size W.heap.size (.slice none 0 0) [] w' ⟨mn, [], false⟩ ∧ Below W.heap.size W w' ∧ w'.heap.size = W.heap.size + 1) := fun W => New_yes mn W hm1 hm2
  obtain ⟨T, hT⟩ : ∃ T, T = 1 + chs tn 20 := ⟨_, rfl⟩
  have HT : Hid (1 ≤ T ∧ T ≤ 20 ∧ ((1 : Int) + chI tn 20 = (T : Int))) := ⟨by omega, by have := chs_lt tn (m := 20) (by decide); omega, by show (1 : Int) + (chs tn 20 : Int) = _; omega⟩
  have hcc1 : CC tn 20 := ⟨ht0, ht1, by decide⟩
  have HCC : Hid (∀ (c m : Int) (W : World), CC c m → Calls Try.prog 9 #[.int .i64 c, .int .i64 m] W fun e w' => e = .returned (.int .i64 (chI c m)) ∧ w' = W) := fun c m W h => choose_int c m W h
  have HL : Hid (IntsIn w ao l) := hl
  have HM : Hid (QI (qK mn T l 0)) := QI.new mn hm1 hm2
  clear hm hl ht0 ht1 hm1 hm2 hT
  go_enter Try.func5, Try.ntmps5
  go_wp2_with fail
  refine HBg.out.mono ?_
  rintro e w1 ⟨rfl, hb1⟩
  go_wp2_with fail
  refine (HN.out w1).mono ?_
  rintro e w2 ⟨rfl, hq2, hb2, hz2⟩
  have H2 : Hid (∃ rv cs, At1 w1.heap.size mn T l w1 0 (.slice none 0 0) w2 rv cs) := ⟨_, _, hq2, HM.out, hb2, World.ownsRow_nil _ _ _ _, fun g hg => by cases hg⟩
  have HB1 : Hid (Below w.heap.size w w1) := hb1
  clear hb1 hq2 hb2 hz2 HN HBg HM
  generalize hP : w1.heap.size = P at *
  go_wp2
  go_loopg [9, 10] 100 (fun gk v9 v wr => ∃ k : Nat, k ≤ l.length ∧ k ≤ 100 ∧ v = .int .i64 (k : Int) ∧ Hid (gk = 100 - k ∧ ∃ rv cs, At1 P mn T l w1 k v9 wr rv cs))
  case atStart => exact ⟨0, Nat.zero_le _, Nat.zero_le _, rfl, rfl, H2.out⟩
  case round =>
    obtain ⟨k, hk1, hk2, rfl, HI⟩ := hrel
    clear H2
    by_cases hkc : k < l.length ∧ k < 100
    · obtain ⟨hkl, hkh⟩ := hkc
      have i1 : (k : Int) < (l.length : Int) := by omega
      have i2 : (k : Int) < 100 := by omega
      obtain ⟨g, o, rfl, hg, hcell⟩ := HL.out.at_ (by intro e; rw [e] at hkl; simp at hkl)
      have hck := hcell k hkl
      have hcc2 : CC l[k] 1000 := ⟨(HL.out.lo _ (List.getElem_mem hkl)).1, (HL.out.lo _ (List.getElem_mem hkl)).2, by decide⟩
      have HDg : Hid (∀ W : World, Calls Try.prog 19 #[.int .i64 k] W fun e w' => e = .returned (.string (dgB k)) ∧ Below W.heap.size W w') := fun W => digits_any k (by omega) W
      have hjb : jobAt T l k = ⟨T, nmB1 k, 1 + chs l[k] 1000⟩ := by unfold jobAt; rw [List.getD_eq_getElem?_getD, List.getElem?_eq_getElem hkl]; rfl
      have hcl := chs_lt l[k] (m := 1000) (by decide)
      obtain ⟨y, hy⟩ : ∃ y, y = 1 + chs l[k] 1000 := ⟨_, rfl⟩
      have y1 : (1 : Int) + chI l[k] 1000 = (y : Int) := by show (1 : Int) + (chs l[k] 1000 : Int) = _; omega
      have y2 : IntKind.i64.wrap (y : Int) = (y : Int) := by rw [IntKind.wrap_i64]; omega
      have t1 := HT.out.2.2
      have t2 : IntKind.i64.wrap (T : Int) = (T : Int) := by have := HT.out.2.1; rw [IntKind.wrap_i64]; omega
      have hnm := nm_cat k
      have HJ : Hid (jobAt T l k = ⟨T, nmB1 k, y⟩ ∧ 1 ≤ y ∧ y ≤ 1000) := ⟨by rw [hjb, hy], by omega, by omega⟩
      have hcw : wr.cell? ⟨g, o + k, none⟩ = some (.int .i64 l[k]) := by
        obtain ⟨rv, cs, hA⟩ := HI.out.2
        have hx : wr.cell? ⟨g, o + k, none⟩ = w1.cell? ⟨g, o + k, none⟩ := hA.b.cell (by have := HB1.out.size; show g < w1.heap.size; omega)
        rw [hx, HB1.out.cell (p := ⟨g, o + k, none⟩) hg]
        exact hck
      have hgw : g < wr.heap.size := World.block_lt_of_cell? wr _ hcw
      have HKP : Hid (∀ W W' : World, (W.cell? ⟨g, o + k, none⟩ = some (.int .i64 l[k]) ∧ Below wr.heap.size wr W) → Below W.heap.size W W' → (W'.cell? ⟨g, o + k, none⟩ = some (.int .i64 l[k]) ∧ Below wr.heap.size wr W')) := fun W W' h1 h2 => ⟨(h2.cell (p := ⟨g, o + k, none⟩) (World.block_lt_of_cell? W _ h1.1)).trans h1.1, h1.2.trans (h2.mono h1.2.size)⟩
      have HKA : Hid (∀ (W : World) (ob : Obj), (W.cell? ⟨g, o + k, none⟩ = some (.int .i64 l[k]) ∧ Below wr.heap.size wr W) → ((W.alloc ob).cell? ⟨g, o + k, none⟩ = some (.int .i64 l[k]) ∧ Below wr.heap.size wr (W.alloc ob))) := fun W ob h1 => ⟨(World.cell?_alloc_past _ _ _ (World.block_lt_of_cell? W _ h1.1)).trans h1.1, h1.2.alloc h1.2.size _⟩
      have HKC : Hid (∀ (W : World) (ob ob' : Obj), wr.drew.heap.size ≤ W.heap.size → ((W.alloc ob).cell? ⟨g, o + k, none⟩ = some (.int .i64 l[k]) ∧ Below wr.heap.size wr (W.alloc ob)) → ((W.alloc ob').cell? ⟨g, o + k, none⟩ = some (.int .i64 l[k]) ∧ Below wr.heap.size wr (W.alloc ob'))) := fun W ob ob' hz0 h1 => by
        have hz : wr.heap.size ≤ W.heap.size := hz0
        have hgW : g < W.heap.size := Nat.lt_of_lt_of_le hgw hz
        have e1 : (W.alloc ob).cell? ⟨g, o + k, none⟩ = W.cell? ⟨g, o + k, none⟩ := World.cell?_alloc_past _ _ _ hgW
        have e2 : (W.alloc ob').cell? ⟨g, o + k, none⟩ = W.cell? ⟨g, o + k, none⟩ := World.cell?_alloc_past _ _ _ hgW
        refine ⟨e2.trans (e1.symm.trans h1.1), h1.2.os, h1.2.tape, h1.2.output, ?_, fun x hx => ?_⟩
        · rw [World.size_alloc]; omega
        · exact (heap_al W ob' x (by omega)).trans ((heap_al W ob x (by omega)).symm.trans (h1.2.block x hx))
      have HZ : Hid (∀ (X W : World), Below (X.alloc (.cells #[.int .i64 0, .string ⟨#[]⟩, .int .i64 0] 34)).heap.size (X.alloc (.cells #[.int .i64 0, .string ⟨#[]⟩, .int .i64 0] 34)) W → W.heap[X.heap.size]? = some (.cells #[.int .i64 0, .string ⟨#[]⟩, .int .i64 0] 34 (0, 0)) ∧ W.cell? ⟨X.heap.size, 0, none⟩ = some (.int .i64 0) ∧ W.cell? ⟨X.heap.size, 1, none⟩ = some (.string ⟨#[]⟩) ∧ W.cell? ⟨X.heap.size, 2, none⟩ = some (.int .i64 0) ∧ W.frozen? ⟨X.heap.size, 0, none⟩ = false ∧ W.frozen? ⟨X.heap.size, 1, none⟩ = false ∧ W.frozen? ⟨X.heap.size, 2, none⟩ = false) := fun X W h => by
        have hl := (h.block X.heap.size (by rw [World.size_alloc]; omega)).trans (heap_alloc_new X (.cells #[.int .i64 0, .string ⟨#[]⟩, .int .i64 0] 34))
        exact ⟨hl, by rw [Lib.cell_of_heap hl]; rfl, by rw [Lib.cell_of_heap hl]; rfl, by rw [Lib.cell_of_heap hl]; rfl, Lib.frozen_of_heap hl 0, Lib.frozen_of_heap hl 1, Lib.frozen_of_heap hl 2⟩
      have HDz : Hid (∀ X : World, Calls Try.prog 19 #[.int .i64 k] (X.alloc (.cells #[.int .i64 0, .string ⟨#[]⟩, .int .i64 0] 34)) fun e w' => e = .returned (.string (dgB k)) ∧ Below (X.alloc (.cells #[.int .i64 0, .string ⟨#[]⟩, .int .i64 0] 34)).heap.size (X.alloc (.cells #[.int .i64 0, .string ⟨#[]⟩, .int .i64 0] 34)) w' ∧ w'.heap[X.heap.size]? = some (.cells #[.int .i64 0, .string ⟨#[]⟩, .int .i64 0] 34 (0, 0)) ∧ w'.cell? ⟨X.heap.size, 0, none⟩ = some (.int .i64 0) ∧ w'.cell? ⟨X.heap.size, 1, none⟩ = some (.string ⟨#[]⟩) ∧ w'.cell? ⟨X.heap.size, 2, none⟩ = some (.int .i64 0) ∧ w'.frozen? ⟨X.heap.size, 0, none⟩ = false ∧ w'.frozen? ⟨X.heap.size, 1, none⟩ = false ∧ w'.frozen? ⟨X.heap.size, 2, none⟩ = false) := fun X => (HDg.out _).mono fun e w' ⟨he, hb⟩ => ⟨he, hb, HZ.out X w' hb⟩
      have HDw : Hid (∀ X : World, Calls Try.prog 19 #[.int .i64 k] (X.alloc (.cells #[.int .i64 0, .string ⟨#[]⟩, .int .i64 0] 34)).drew fun e w' => e = .returned (.string (dgB k)) ∧ Below (X.alloc (.cells #[.int .i64 0, .string ⟨#[]⟩, .int .i64 0] 34)).drew.heap.size (X.alloc (.cells #[.int .i64 0, .string ⟨#[]⟩, .int .i64 0] 34)).drew w' ∧ w'.heap[X.heap.size]? = some (.cells #[.int .i64 0, .string ⟨#[]⟩, .int .i64 0] 34 (0, 0)) ∧ w'.cell? ⟨X.heap.size, 0, none⟩ = some (.int .i64 0) ∧ w'.cell? ⟨X.heap.size, 1, none⟩ = some (.string ⟨#[]⟩) ∧ w'.cell? ⟨X.heap.size, 2, none⟩ = some (.int .i64 0) ∧ w'.frozen? ⟨X.heap.size, 0, none⟩ = false ∧ w'.frozen? ⟨X.heap.size, 1, none⟩ = false ∧ w'.frozen? ⟨X.heap.size, 2, none⟩ = false) := fun X => (HDg.out _).mono fun e w' ⟨he, hb⟩ => ⟨he, hb, HZ.out X w' ⟨hb.os, hb.tape, hb.output, hb.size, hb.block⟩⟩
      have HKS : Hid (∀ (W : World) (a b c : Value), (W.cell? ⟨g, o + k, none⟩ = some (.int .i64 l[k]) ∧ Below wr.heap.size wr W) → ((((W.setCell ⟨wr.heap.size, 0, none⟩ a).setCell ⟨wr.heap.size, 1, none⟩ b).setCell ⟨wr.heap.size, 2, none⟩ c).cell? ⟨g, o + k, none⟩ = some (.int .i64 l[k]) ∧ Below wr.heap.size wr (((W.setCell ⟨wr.heap.size, 0, none⟩ a).setCell ⟨wr.heap.size, 1, none⟩ b).setCell ⟨wr.heap.size, 2, none⟩ c))) := fun W a b c h1 => by
        have hbb := ((h1.2.setCell (p := ⟨wr.heap.size, 0, none⟩) (Nat.le_refl _) a).setCell (p := ⟨wr.heap.size, 1, none⟩) (Nat.le_refl _) b).setCell (p := ⟨wr.heap.size, 2, none⟩) (Nat.le_refl _) c
        exact ⟨(hbb.cell (p := ⟨g, o + k, none⟩) hgw).trans hcw, hbb⟩
      have HK1 : Hid ((wr.alloc (.cells #[.int .i64 0, .string ⟨#[]⟩, .int .i64 0] 34)).drew.cell? ⟨g, o + k, none⟩ = some (.int .i64 l[k]) ∧ Below wr.heap.size wr (wr.alloc (.cells #[.int .i64 0, .string ⟨#[]⟩, .int .i64 0] 34)).drew) := ⟨(World.cell?_alloc_past _ _ _ hgw).trans hcw, ((Below.refl _ wr).alloc (Nat.le_refl _) _).drew⟩
      have HK0 : Hid (wr.drew.cell? ⟨g, o + k, none⟩ = some (.int .i64 l[k]) ∧ Below wr.heap.size wr wr.drew) := ⟨hcw, (Below.refl _ wr).drew⟩
      clear hjb hcl hy hck hcell hg
      generalize l[k] = ck at *
      generalize dgB k = db at *
      generalize hnb : nmB1 k = nb at *
      have HJA : Hid (∀ W : World, wr.drew.heap.size ≤ W.heap.size → ((W.alloc (.cells #[.int .i64 T, .string nb, .int .i64 y] 34)).cell? ⟨g, o + k, none⟩ = some (.int .i64 ck) ∧ Below wr.heap.size wr (W.alloc (.cells #[.int .i64 T, .string nb, .int .i64 y] 34))) → ∃ J : Nat, (Value.pointer (some ⟨W.heap.size, 0, none⟩)) = .pointer (some ⟨J, 0, none⟩) ∧ Hid (JobIn wr (W.alloc (.cells #[.int .i64 T, .string nb, .int .i64 y] 34)) J ⟨T, nb, y⟩)) := fun W hz h => ⟨_, rfl, h.2, heap_alloc_new W _, hz⟩
      have HJB : Hid (∀ W : World, W.heap[wr.heap.size]? = some (.cells #[.int .i64 0, .string ⟨#[]⟩, .int .i64 0] 34 (0, 0)) → ((((W.setCell ⟨wr.heap.size, 0, none⟩ (.int .i64 T)).setCell ⟨wr.heap.size, 1, none⟩ (.string nb)).setCell ⟨wr.heap.size, 2, none⟩ (.int .i64 y)).cell? ⟨g, o + k, none⟩ = some (.int .i64 ck) ∧ Below wr.heap.size wr (((W.setCell ⟨wr.heap.size, 0, none⟩ (.int .i64 T)).setCell ⟨wr.heap.size, 1, none⟩ (.string nb)).setCell ⟨wr.heap.size, 2, none⟩ (.int .i64 y))) → ∃ J : Nat, (Value.pointer (some ⟨wr.heap.size, 0, none⟩)) = .pointer (some ⟨J, 0, none⟩) ∧ Hid (JobIn wr (((W.setCell ⟨wr.heap.size, 0, none⟩ (.int .i64 T)).setCell ⟨wr.heap.size, 1, none⟩ (.string nb)).setCell ⟨wr.heap.size, 2, none⟩ (.int .i64 y)) J ⟨T, nb, y⟩)) := fun W hz h => ⟨_, rfl, h.2, (three hz).1, Nat.le_refl _⟩
      go_wp2
      go_cut [11] from 30 to 60 (fun v wx => ∃ J : Nat, v = .pointer (some ⟨J, 0, none⟩) ∧ Hid (JobIn wr wx J ⟨T, nb, y⟩))
      case first =>
        go_region_held3 (fun w' => w'.cell? ⟨g, o + k, none⟩ = some (.int .i64 ck) ∧ Below wr.heap.size wr w')
          (first | with_reducible exact HK0.out | with_reducible exact HK1.out | with_reducible assumption | with_reducible exact HKC.out _ _ _ hbw.size (by assumption) | with_reducible exact HKA.out _ _ (by assumption) | with_reducible exact HKS.out _ _ _ _ (by assumption) | with_reducible exact HKP.out _ _ (by assumption) hbw | fail)
          (first
            | (go_at_call 9; refine (HCC.out _ _ _ (by assumption)).mono ?_; rintro e w' ⟨rfl, rfl⟩)
            | (go_at_call 19; with_reducible refine (HDz.out _).mono ?_; rintro e w' ⟨rfl, hbw, hz0, hz1, hz2, hz3, hz4, hz5, hz6⟩)
            | (go_at_call 19; with_reducible refine (HDw.out _).mono ?_; rintro e w' ⟨rfl, hbw, hz0, hz1, hz2, hz3, hz4, hz5, hz6⟩)
            | (go_at_call 19; refine (HDg.out _).mono ?_; rintro e w' ⟨rfl, hbw⟩)
            | fail)
        all_goals
          go_wp2_with fail
          go_meet
          case rel => first | (with_reducible exact HJA.out _ hbw.size (by assumption)) | (with_reducible exact HJB.out _ hz0 (by assumption))
      case rest =>
        obtain ⟨J, rfl, HJI⟩ := hcut
        obtain ⟨rv, cs, hA⟩ := HI.out.2
        have hj1 := HJI.out.hj
        have e0 : wc.cell? ⟨J, 0, none⟩ = some (.int .i64 T) := by rw [Lib.cell_of_heap hj1]; rfl
        have e1 : wc.cell? ⟨J, 1, none⟩ = some (.string nb) := by rw [Lib.cell_of_heap hj1]; rfl
        have e2 : wc.cell? ⟨J, 2, none⟩ = some (.int .i64 y) := by rw [Lib.cell_of_heap hj1]; rfl
        have hAq : QS w1.heap.size P rv cs wc (qK mn T l k) := hA.q.up HJI.out.b
        have hP0 : P ≤ w1.heap.size := by omega
        have HPu : Hid (Calls Try.prog 10 #[.pointer (some ⟨P, 0, none⟩), .agg #[.int .i64 T, .string nb, .int .i64 y]] wc fun e w' => e = .returned (.int .i64 0) ∧ ∃ rv' cs', QS w1.heap.size P rv' cs' w' (qK mn T l (k + 1)) ∧ QI (qK mn T l (k + 1)) ∧ Upd (ids P rv cs) (ids P rv' cs') wc w') := by
          have hjob := HJ.out.1
          have := Put_ok hAq hA.i ⟨T, nb, y⟩ HT.out.1 HT.out.2.1 HJ.out.2.1 HJ.out.2.2 (by show nameOk nb = true; rw [← hnb]; exact nm_ok (by omega)) (by rw [← hjob]; exact qK_has (by omega)) (by rw [qK_size]; omega)
          rw [← hjob, qK_succ] at this
          rw [hjob] at this
          exact this
        have hJl : wr.heap.size ≤ J := HJI.out.lo
        have HNI : Hid (J ∉ ids P rv cs ∧ J < wc.heap.size ∧ ∀ g, g ∈ ids P rv cs → g < wr.heap.size) := ⟨fun e => by have := (hA.q.lt J e).2; omega, (Array.getElem?_eq_some_iff.1 hj1).1, fun g hg => (hA.q.lt g hg).2⟩
        have HRo : Hid (wc.ownsRow w1.heap.size 34 3 u9 k (jcs (jobsK T l k)) ∧ (∀ g, u9.ownBlock = some g → g ∉ ids P rv cs ∧ g < wr.heap.size) ∧ Below w1.heap.size w1 wc ∧ wr.heap.size ≤ wc.heap.size ∧ w1.heap.size ≤ wr.heap.size) := ⟨own_heap hA.row fun g hg => HJI.out.b.block g (hA.row.lt g hg).2, fun g hg => ⟨hA.off g hg, (hA.row.lt g hg).2⟩, hA.b.trans (HJI.out.b.mono hA.b.size), HJI.out.b.size, hA.b.size⟩
        have hj1' : Hid (wc.heap[J]? = some (.cells #[.int .i64 T, .string nb, .int .i64 y] 34 (0, 0))) := hj1
        have HLo : Hid (∀ g ∈ ids P rv cs, w1.heap.size ≤ g) := fun g hg => (hA.q.lt g hg).1
        have HQ : Hid (jobAt T l k = ⟨T, nb, y⟩ ∧ gk = 100 - k) := ⟨HJ.out.1, HI.out.1⟩
        clear hA hAq hj1 hJl HJA HJB HKP HKA HKC HKS HK0 HK1 HZ HDz HDw HDg HJI HI HJ y1 y2 t1 t2 hcw hgw hnm
        go_wp2_with fail
        refine HPu.out.mono ?_
        rintro e W7 ⟨rfl, rv', cs', hq7, hi7, hu7⟩
        have hl7 := (hu7.block J HNI.out.2.1 HNI.out.1).trans hj1'.out
        have f0 : W7.cell? ⟨J, 0, none⟩ = some (.int .i64 T) := by rw [Lib.cell_of_heap hl7]; rfl
        have f1 : W7.cell? ⟨J, 1, none⟩ = some (.string nb) := by rw [Lib.cell_of_heap hl7]; rfl
        have f2 : W7.cell? ⟨J, 2, none⟩ = some (.int .i64 y) := by rw [Lib.cell_of_heap hl7]; rfl
        have hro7 : W7.ownsRow w1.heap.size 34 3 u9 k (jcs (jobsK T l k)) := own_heap HRo.out.1 fun g hg => hu7.block g (by have := (HRo.out.2.1 g hg).2; have := HRo.out.2.2.2.1; omega) (HRo.out.2.1 g hg).1
        have hz7 : w1.heap.size ≤ W7.heap.size := by have := hu7.size; have := HRo.out.2.2.2.1; have := HRo.out.2.2.2.2; omega
        obtain ⟨i0, hi0, hz0, hz1, hz2⟩ := info_p infJ
        obtain ⟨g', cap', w9, hrun, hown9, hgrow9, hat9, hlt9⟩ := run_append_lies (P := Try.prog) (W7.alloc (.cells #[.int .i64 T, .string nb, .int .i64 y] 34)) 30 30 w1.heap.size 34 i0 (.agg #[.int .i64 0, .string ⟨#[]⟩, .int .i64 0]) 3 32 Try.underlying30 hi0 hz0 hz1 hz2 rfl (by decide) u9 k (jcs (jobsK T l k)) (hro7.alloc _) ⟨W7.heap.size, 0, none⟩ 1 1 (jc ⟨T, nb, y⟩) rfl (new_job W7 ⟨T, nb, y⟩) (jc_one _) (by decide) (by unfold maxLen; omega) (by omega) (by rw [World.size_alloc]; omega) (W7.heap.size + 1) (World.size_alloc _ _)
        have hap : (appS #[30, 30] 30 #[u9, .slice (some ⟨W7.heap.size, 0, none⟩) 1 1]).run Try.prog (W7.alloc (.cells #[.int .i64 T, .string nb, .int .i64 y] 34)) = .ok (.slice (some ⟨g', 0, none⟩) (k + 1) cap') w9 := hrun
        have HE : Hid (∃ rv cs, At1 P mn T l w1 (k + 1) (.slice (some ⟨g', 0, none⟩) (k + 1) cap') w9 rv cs) := by
          have h9 : ∀ g ∈ ids P rv' cs', w9.heap[g]? = W7.heap[g]? := fun g hg => by
            have hgl := (hq7.lt g hg).2
            refine (hgrow9.block g (by rw [World.size_alloc]; omega) (fun e => ?_)).trans (heap_al W7 _ g hgl)
            have hx := HRo.out.2.1 g e.symm
            rcases hu7.new g hg with e2 | e2
            · exact hx.1 e2
            · have := HRo.out.2.2.2.1; omega
          refine ⟨rv', cs', hq7.keep h9, hi7, ?_, ?_, ?_⟩
          · have hb7 : Below w1.heap.size wc W7 := hu7.below HLo.out (by have := HRo.out.2.2.2.1; have := HRo.out.2.2.2.2; omega)
            exact ((HRo.out.2.2.1.trans hb7).alloc hz7 _).grown hgrow9 (by rw [World.size_alloc]; omega) (fun g hg => (hro7.lt g hg).1)
          · rw [jobsK_succ, HQ.out.1, jcs_app]
            have : jcs [(⟨T, nb, y⟩ : Jb)] = jc ⟨T, nb, y⟩ := by simp [jcs]
            rw [this]
            exact hown9
          · intro g hg hm
            simp [Value.ownBlock] at hg
            subst hg
            rcases hat9 with e | e
            · have hx := HRo.out.2.1 g' e
              rcases hu7.new g' hm with e2 | e2
              · exact hx.1 e2
              · have := HRo.out.2.2.2.1; omega
            · have := (hq7.lt g' hm).2; omega
        obtain ⟨k1, hk1e⟩ : ∃ k1, k1 = k + 1 := ⟨_, rfl⟩
        have z1 : (k : Int) + 1 = (k1 : Int) := by omega
        have z2 : IntKind.i64.wrap (k1 : Int) = (k1 : Int) := by rw [IntKind.wrap_i64]; omega
        have HK1e : Hid (k1 = k + 1) := hk1e
        clear hq7 hi7 hu7 hl7 hro7 hz7 hrun hown9 hgrow9 hat9 hlt9 HPu HRo HNI HLo hj1' hk1e
        go_wp2
        go_roundg (100 - k1)
        case measure => rw [HQ.out.2, HK1e.out]; omega
        case rel => exact ⟨k1, by rw [HK1e.out]; omega, by rw [HK1e.out]; omega, rfl, rfl, by rw [HK1e.out]; exact HE.out⟩
    · rcases Nat.lt_or_ge k l.length with hkl | hkl
      · have i1 : (k : Int) < (l.length : Int) := by omega
        have i2 : ¬ (k : Int) < 100 := by omega
        have HA2 : Hid (∃ rv cs q, At2 P mn T l w1 k 0 u9 wr rv cs q) := by
          obtain ⟨rv, cs, hA⟩ := HI.out.2
          exact ⟨rv, cs, _, hA.two⟩
        obtain ⟨la, lcap, hlv⟩ : ∃ la lcap, u9 = .slice la k lcap := by
          obtain ⟨rv, cs, hA⟩ := HI.out.2
          exact row_shape hA.row
        subst hlv
        clear HI
        go_wp2
        go_loopg [12] k (fun gk2 v wx => ∃ i : Nat, i ≤ k ∧ v = .int .i64 (i : Int) ∧ Hid (gk2 = k - i ∧ ∃ rv cs q, At2 P mn T l w1 k i (.slice la k lcap) wx rv cs q))
        case atStart => exact ⟨0, Nat.zero_le _, rfl, rfl, HA2.out⟩
        case round =>
          obtain ⟨i, hik, rfl, HJ⟩ := hrel
          clear HA2
          by_cases hil : i < k
          · have z0 : (i : Int) < (k : Int) := by omega
            have HNx : Hid (Calls Try.prog 12 #[.pointer (some ⟨P, 0, none⟩)] wr fun e w' => e = .returned (.tuple #[.agg #[.int .i64 (jobAt T l i).ten, .string (jobAt T l i).name, .int .i64 (jobAt T l i).cost], .bool true]) ∧ ∃ rv' cs' q', At2 P mn T l w1 k (i + 1) (.slice la k lcap) w' rv' cs' q') := by
              obtain ⟨rv, cs, q, hA⟩ := HJ.out.2
              exact hA.next hil
            have HGk : Hid (gk = k - i) := HJ.out.1
            clear HJ
            go_wp2_with fail
            refine HNx.out.mono ?_
            rintro e W3 ⟨rfl, rv, cs, q, hA⟩
            obtain ⟨gl, cap3, hv, hg1, hg2⟩ := hA.row.form (by omega)
            cases hv
            have hc : ∀ x, x < 3 → W3.cell? ⟨gl, i * 3 + x, none⟩ = (jc (jobAt T l i))[x]? := fun x hx => (hA.row.cellAt (i * 3 + x) (by omega)).trans ((jcs_at (jobsK T l k) i (by rw [jobsK_len]; exact hil) x hx).trans (by rw [jobsK_at T l k i hil]))
            have hcA : ∀ x, x < 3 → (W3.alloc (.cells #[.int .i64 (jobAt T l i).ten, .string (jobAt T l i).name, .int .i64 (jobAt T l i).cost] 34)).cell? ⟨gl, i * 3 + x, none⟩ = (jc (jobAt T l i))[x]? := fun x hx => (World.cell?_alloc_past _ _ _ hg2).trans (hc x hx)
            have a0 : (W3.alloc (.cells #[.int .i64 (jobAt T l i).ten, .string (jobAt T l i).name, .int .i64 (jobAt T l i).cost] 34)).cell? ⟨gl, i * 3, none⟩ = some (.int .i64 (jobAt T l i).ten) := hcA 0 (by omega)
            have a1 : (W3.alloc (.cells #[.int .i64 (jobAt T l i).ten, .string (jobAt T l i).name, .int .i64 (jobAt T l i).cost] 34)).cell? ⟨gl, i * 3 + 1, none⟩ = some (.string (jobAt T l i).name) := hcA 1 (by omega)
            have a2 : (W3.alloc (.cells #[.int .i64 (jobAt T l i).ten, .string (jobAt T l i).name, .int .i64 (jobAt T l i).cost] 34)).cell? ⟨gl, i * 3 + 2, none⟩ = some (.int .i64 (jobAt T l i).cost) := hcA 2 (by omega)
            have lj := heap_alloc_new W3 (.cells #[.int .i64 (jobAt T l i).ten, .string (jobAt T l i).name, .int .i64 (jobAt T l i).cost] 34)
            have b0 : (W3.alloc (.cells #[.int .i64 (jobAt T l i).ten, .string (jobAt T l i).name, .int .i64 (jobAt T l i).cost] 34)).cell? ⟨W3.heap.size, 0, none⟩ = some (.int .i64 (jobAt T l i).ten) := by rw [Lib.cell_of_heap lj]; rfl
            have b1 : (W3.alloc (.cells #[.int .i64 (jobAt T l i).ten, .string (jobAt T l i).name, .int .i64 (jobAt T l i).cost] 34)).cell? ⟨W3.heap.size, 1, none⟩ = some (.string (jobAt T l i).name) := by rw [Lib.cell_of_heap lj]; rfl
            have b2 : (W3.alloc (.cells #[.int .i64 (jobAt T l i).ten, .string (jobAt T l i).name, .int .i64 (jobAt T l i).cost] 34)).cell? ⟨W3.heap.size, 2, none⟩ = some (.int .i64 (jobAt T l i).cost) := by rw [Lib.cell_of_heap lj]; rfl
            have HE : Hid (∀ n, ∃ rv cs q, At2 P mn T l w1 k (i + 1) (.slice (some ⟨gl, 0, none⟩) k lcap) ((W3.alloc (.cells #[.int .i64 (jobAt T l i).ten, .string (jobAt T l i).name, .int .i64 (jobAt T l i).cost] 34)).drewN n) rv cs q) := fun n => by
              have hbA : Below W3.heap.size W3 ((W3.alloc (.cells #[.int .i64 (jobAt T l i).ten, .string (jobAt T l i).name, .int .i64 (jobAt T l i).cost] 34)).drewN n) := below_dr ((Below.refl _ W3).alloc (Nat.le_refl _) _) n
              exact ⟨rv, cs, q, hA.qs.up hbA, hA.qi, hA.r, hA.b.trans (hbA.mono hA.b.size), own_heap hA.row fun g hg => hbA.block g (hA.row.lt g hg).2, hA.off⟩
            obtain ⟨i1, hi1e⟩ : ∃ i1, i1 = i + 1 := ⟨_, rfl⟩
            have z1 : (i : Int) + 1 = (i1 : Int) := by omega
            have z2 : IntKind.i64.wrap (i1 : Int) = (i1 : Int) := by rw [IntKind.wrap_i64]; omega
            have HI1 : Hid (i1 = i + 1) := hi1e
            clear hA hg1 hg2 hc hcA lj hi1e HNx
            generalize jobAt T l i = jb at *
            go_wp2
            generalize W3.alloc (.cells #[.int .i64 jb.ten, .string jb.name, .int .i64 jb.cost] 34) = W4 at *
            go_quiet (fail)
            go_wp2
            go_roundg (k - i1)
            case measure => rw [HGk.out, HI1.out]; omega
            case rel => exact ⟨i1, by rw [HI1.out]; omega, rfl, rfl, by rw [HI1.out]; exact HE.out nq⟩
          · have z0 : ¬ (i : Int) < (k : Int) := by omega
            have hie : i = k := by omega
            have HNx : Hid (Calls Try.prog 12 #[.pointer (some ⟨P, 0, none⟩)] wr fun e w' => e = .returned (.tuple #[.agg #[.int .i64 0, .string ⟨#[]⟩, .int .i64 0], .bool false]) ∧ Below w.heap.size w w' ∧ w.heap.size ≤ w'.heap.size) := by
              obtain ⟨rv, cs, q, hA⟩ := HJ.out.2
              have hr := hA.r
              rw [if_pos hie] at hr
              refine (Next_none hA.qs hA.qi hr).mono ?_
              rintro e w' ⟨he, _, hbw⟩
              have h1 : Below w.heap.size w wr := HB1.out.trans (hA.b.mono HB1.out.size)
              have h2 : Below w.heap.size w w' := h1.trans (hbw.mono h1.size)
              exact ⟨he, h2, h2.size⟩
            clear HJ hie
            go_wp2_with fail
            refine HNx.out.mono ?_
            rintro e W3 ⟨rfl, hb3, hz3⟩
            have HB3 : Hid (Below w.heap.size w (W3.alloc (.cells #[.int .i64 0, .string ⟨#[]⟩, .int .i64 0] 34))) := hb3.alloc hz3 _
            clear hb3 hz3 HNx
            go_wp2
            go_ret
            exact ⟨rfl, HB3.out⟩
      · have i1 : ¬ (k : Int) < (l.length : Int) := by omega
        have HA2 : Hid (∃ rv cs q, At2 P mn T l w1 k 0 u9 wr rv cs q) := by
          obtain ⟨rv, cs, hA⟩ := HI.out.2
          exact ⟨rv, cs, _, hA.two⟩
        obtain ⟨la, lcap, hlv⟩ : ∃ la lcap, u9 = .slice la k lcap := by
          obtain ⟨rv, cs, hA⟩ := HI.out.2
          exact row_shape hA.row
        subst hlv
        clear HI
        go_wp2
        go_loopg [12] k (fun gk2 v wx => ∃ i : Nat, i ≤ k ∧ v = .int .i64 (i : Int) ∧ Hid (gk2 = k - i ∧ ∃ rv cs q, At2 P mn T l w1 k i (.slice la k lcap) wx rv cs q))
        case atStart => exact ⟨0, Nat.zero_le _, rfl, rfl, HA2.out⟩
        case round =>
          obtain ⟨i, hik, rfl, HJ⟩ := hrel
          clear HA2
          by_cases hil : i < k
          · have z0 : (i : Int) < (k : Int) := by omega
            have HNx : Hid (Calls Try.prog 12 #[.pointer (some ⟨P, 0, none⟩)] wr fun e w' => e = .returned (.tuple #[.agg #[.int .i64 (jobAt T l i).ten, .string (jobAt T l i).name, .int .i64 (jobAt T l i).cost], .bool true]) ∧ ∃ rv' cs' q', At2 P mn T l w1 k (i + 1) (.slice la k lcap) w' rv' cs' q') := by
              obtain ⟨rv, cs, q, hA⟩ := HJ.out.2
              exact hA.next hil
            have HGk : Hid (gk = k - i) := HJ.out.1
            clear HJ
            go_wp2_with fail
            refine HNx.out.mono ?_
            rintro e W3 ⟨rfl, rv, cs, q, hA⟩
            obtain ⟨gl, cap3, hv, hg1, hg2⟩ := hA.row.form (by omega)
            cases hv
            have hc : ∀ x, x < 3 → W3.cell? ⟨gl, i * 3 + x, none⟩ = (jc (jobAt T l i))[x]? := fun x hx => (hA.row.cellAt (i * 3 + x) (by omega)).trans ((jcs_at (jobsK T l k) i (by rw [jobsK_len]; exact hil) x hx).trans (by rw [jobsK_at T l k i hil]))
            have hcA : ∀ x, x < 3 → (W3.alloc (.cells #[.int .i64 (jobAt T l i).ten, .string (jobAt T l i).name, .int .i64 (jobAt T l i).cost] 34)).cell? ⟨gl, i * 3 + x, none⟩ = (jc (jobAt T l i))[x]? := fun x hx => (World.cell?_alloc_past _ _ _ hg2).trans (hc x hx)
            have a0 : (W3.alloc (.cells #[.int .i64 (jobAt T l i).ten, .string (jobAt T l i).name, .int .i64 (jobAt T l i).cost] 34)).cell? ⟨gl, i * 3, none⟩ = some (.int .i64 (jobAt T l i).ten) := hcA 0 (by omega)
            have a1 : (W3.alloc (.cells #[.int .i64 (jobAt T l i).ten, .string (jobAt T l i).name, .int .i64 (jobAt T l i).cost] 34)).cell? ⟨gl, i * 3 + 1, none⟩ = some (.string (jobAt T l i).name) := hcA 1 (by omega)
            have a2 : (W3.alloc (.cells #[.int .i64 (jobAt T l i).ten, .string (jobAt T l i).name, .int .i64 (jobAt T l i).cost] 34)).cell? ⟨gl, i * 3 + 2, none⟩ = some (.int .i64 (jobAt T l i).cost) := hcA 2 (by omega)
            have lj := heap_alloc_new W3 (.cells #[.int .i64 (jobAt T l i).ten, .string (jobAt T l i).name, .int .i64 (jobAt T l i).cost] 34)
            have b0 : (W3.alloc (.cells #[.int .i64 (jobAt T l i).ten, .string (jobAt T l i).name, .int .i64 (jobAt T l i).cost] 34)).cell? ⟨W3.heap.size, 0, none⟩ = some (.int .i64 (jobAt T l i).ten) := by rw [Lib.cell_of_heap lj]; rfl
            have b1 : (W3.alloc (.cells #[.int .i64 (jobAt T l i).ten, .string (jobAt T l i).name, .int .i64 (jobAt T l i).cost] 34)).cell? ⟨W3.heap.size, 1, none⟩ = some (.string (jobAt T l i).name) := by rw [Lib.cell_of_heap lj]; rfl
            have b2 : (W3.alloc (.cells #[.int .i64 (jobAt T l i).ten, .string (jobAt T l i).name, .int .i64 (jobAt T l i).cost] 34)).cell? ⟨W3.heap.size, 2, none⟩ = some (.int .i64 (jobAt T l i).cost) := by rw [Lib.cell_of_heap lj]; rfl
            have HE : Hid (∀ n, ∃ rv cs q, At2 P mn T l w1 k (i + 1) (.slice (some ⟨gl, 0, none⟩) k lcap) ((W3.alloc (.cells #[.int .i64 (jobAt T l i).ten, .string (jobAt T l i).name, .int .i64 (jobAt T l i).cost] 34)).drewN n) rv cs q) := fun n => by
              have hbA : Below W3.heap.size W3 ((W3.alloc (.cells #[.int .i64 (jobAt T l i).ten, .string (jobAt T l i).name, .int .i64 (jobAt T l i).cost] 34)).drewN n) := below_dr ((Below.refl _ W3).alloc (Nat.le_refl _) _) n
              exact ⟨rv, cs, q, hA.qs.up hbA, hA.qi, hA.r, hA.b.trans (hbA.mono hA.b.size), own_heap hA.row fun g hg => hbA.block g (hA.row.lt g hg).2, hA.off⟩
            obtain ⟨i1, hi1e⟩ : ∃ i1, i1 = i + 1 := ⟨_, rfl⟩
            have z1 : (i : Int) + 1 = (i1 : Int) := by omega
            have z2 : IntKind.i64.wrap (i1 : Int) = (i1 : Int) := by rw [IntKind.wrap_i64]; omega
            have HI1 : Hid (i1 = i + 1) := hi1e
            clear hA hg1 hg2 hc hcA lj hi1e HNx
            generalize jobAt T l i = jb at *
            go_wp2
            generalize W3.alloc (.cells #[.int .i64 jb.ten, .string jb.name, .int .i64 jb.cost] 34) = W4 at *
            go_quiet (fail)
            go_wp2
            go_roundg (k - i1)
            case measure => rw [HGk.out, HI1.out]; omega
            case rel => exact ⟨i1, by rw [HI1.out]; omega, rfl, rfl, by rw [HI1.out]; exact HE.out nq⟩
          · have z0 : ¬ (i : Int) < (k : Int) := by omega
            have hie : i = k := by omega
            have HNx : Hid (Calls Try.prog 12 #[.pointer (some ⟨P, 0, none⟩)] wr fun e w' => e = .returned (.tuple #[.agg #[.int .i64 0, .string ⟨#[]⟩, .int .i64 0], .bool false]) ∧ Below w.heap.size w w' ∧ w.heap.size ≤ w'.heap.size) := by
              obtain ⟨rv, cs, q, hA⟩ := HJ.out.2
              have hr := hA.r
              rw [if_pos hie] at hr
              refine (Next_none hA.qs hA.qi hr).mono ?_
              rintro e w' ⟨he, _, hbw⟩
              have h1 : Below w.heap.size w wr := HB1.out.trans (hA.b.mono HB1.out.size)
              have h2 : Below w.heap.size w w' := h1.trans (hbw.mono h1.size)
              exact ⟨he, h2, h2.size⟩
            clear HJ hie
            go_wp2_with fail
            refine HNx.out.mono ?_
            rintro e W3 ⟨rfl, hb3, hz3⟩
            have HB3 : Hid (Below w.heap.size w (W3.alloc (.cells #[.int .i64 0, .string ⟨#[]⟩, .int .i64 0] 34))) := hb3.alloc hz3 _
            clear hb3 hz3 HNx
            go_wp2
            go_ret
            exact ⟨rfl, HB3.out⟩
end Go.Proofs.Ytfddhdpnoliamaa
