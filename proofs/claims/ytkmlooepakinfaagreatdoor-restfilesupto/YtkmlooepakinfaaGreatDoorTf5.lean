/- Root and Blobs. -/
import Derived.Deep.QuietTactic
import Derived.BigQuiet
import Derived.BigRegion
import Derived.Test.YtkmlooepakinfaaGreatDoorTf4
namespace Go.Proofs.YtkmlooepakinfaaGreatDoor
open Go.RowKit Go.Shelf Go.Maps Go.WideMaps Go.Sort
attribute [local go_sem ↓] appS_eq

theorem pkT1_size {L : List Fl} (h : okT L) : (pkT1 L).1.size ≤ 200016008 := txN_size smD smD_dig 100 h
theorem pkT1_len {L : List Fl} (h : okT L) : (pkT1 L).2.length ≤ 6061 := by
  have h1 := dirF_len smD 101 L
  have h2 : 101 * L.length ≤ 101 * 60 := Nat.mul_le_mul_left _ h.1
  exact Nat.le_trans h1 (Nat.add_le_add_right h2 1)

set_option maxHeartbeats 2000000 in
set_option maxRecDepth 100000 in
theorem Root_any (ao : Option Addr) (cap : Nat) (L : List Fl) (w : World) (hl : IsFl w ao L) (he : Env w) :
    Calls Tryz.prog 14 #[.slice ao L.length cap] w fun e w' => e = .returned (.tuple #[.string (if chF L = 0 then smD (pkT1 L).1 else ⟨#[]⟩), .int .i64 (chF L)]) ∧ Below w.heap.size w w' := by
  have HC : Hid (Calls Tryz.prog 9 #[.slice ao L.length cap] w fun e w' => e = .returned (.int .i64 (chF L)) ∧ Below w.heap.size w w') := Check_any ao cap L w hl he.1
  by_cases h0 : chF L = 0
  · rw [if_pos h0]
    have hok := okT_of h0
    rw [h0] at HC ⊢
    have HP : Hid (∀ W, Below w.heap.size w W → Calls Tryz.prog 28 #[.slice ao L.length cap] W (PkP (pkT1 L) W)) := fun W hW => packed_tree ao cap L W hok (hl.below hW (Nat.le_refl _)) (he.up hW)
    have HS : Hid (∀ W, Below w.heap.size w W → Calls Tryz.prog 29 #[.string (pkT1 L).1] W fun e w' => e = .returned (.string (smD (pkT1 L).1)) ∧ Below W.heap.size W w') := fun W hW => Sm_any _ W (by have := pkT1_size hok; omega) (he.up hW)
    clear hl he hok h0
    generalize pkT1 L = r at *
    go_enter Tryz.func14, Tryz.ntmps14
    go_wp2_with fail
    refine HC.out.mono ?_
    rintro e w1 ⟨rfl, hb1⟩
    go_wp2_with fail
    refine (HP.out _ hb1).mono ?_
    rintro e w2 ⟨bv, rfl, _, hb2⟩
    have hb3 : Below w.heap.size w w2 := hb1.trans (hb2.mono hb1.size)
    go_wp2_with fail
    refine (HS.out _ hb3).mono ?_
    rintro e w3 ⟨rfl, hb4⟩
    have HB : Hid (Below w.heap.size w w3) := hb3.trans (hb4.mono hb3.size)
    clear hb1 hb2 hb3 hb4
    go_wp2
    refine bodyPost_ret (v := .tuple #[.string (smD r.1), .int .i64 0]) (by simp [results, Tryz.results14, go_sem]) rfl ?_
    exact ⟨rfl, HB.out⟩
  · rw [if_neg h0]
    clear hl he
    generalize chF L = c at *
    have h0' : (c != 0) = true := by simpa using h0
    clear h0
    go_enter Tryz.func14, Tryz.ntmps14
    go_wp2_with fail
    refine HC.out.mono ?_
    rintro e w1 ⟨rfl, hb1⟩
    have HB : Hid (Below w.heap.size w w1) := hb1
    clear hb1
    go_wp2
    refine bodyPost_ret (v := .tuple #[.string ⟨#[]⟩, .int .i64 c]) (by simp [results, Tryz.results14, go_sem]) rfl ?_
    exact ⟨rfl, HB.out⟩

/-- A tree's texts, rising, each once. -/
def blF (L : List Fl) : List (List UInt8) := Lib.compact (((pkT1 L).2.map fun b => b.data.toList).mergeSort fun x y => decide (x ≤ y))
theorem strsE (l : List ByteArray) : l.map Value.string = (l.map fun b => b.data.toList).map encStr := by
  rw [List.map_map]
  refine List.map_congr_left fun b _ => ?_
  show Value.string b = Value.string ⟨b.data.toList.toArray⟩
  rw [Array.toArray_toList]
theorem row_cut {w : World} {base g cap n m : Nat} {e : TypeId} {xs ys : List Value} (h : w.ownsRow base e 1 (.slice (some ⟨g, 0, none⟩) n cap) n (xs ++ ys)) (hm : xs.length = m) : w.ownsRow base e 1 (.slice (some ⟨g, 0, none⟩) m cap) m xs := by
  have hl := h.1
  rw [List.length_append] at hl
  refine ⟨by omega, ?_⟩
  rcases h.2 with ⟨h1, _⟩ | ⟨g2, cap2, cur, hv, hb, hh, h1, h2, h3, h4⟩
  · cases h1
  · injection hv with hv _ hv2
    injection hv with hv
    injection hv with hv
    subst hv hv2
    refine .inr ⟨g, cap, cur, rfl, hb, hh, by omega, h2, h3, ?_⟩
    have := congrArg (List.take (m * 1)) h4
    rw [List.take_take, show min (m * 1) (n * 1) = m * 1 from by omega] at this
    rw [this, List.take_append_of_le_length (by omega), List.take_of_length_le (by omega)]
theorem compact_len {α : Type} [Inhabited α] [DecidableEq α] (l : List α) : (Lib.compact l).length ≤ l.length := by
  unfold Lib.compact Lib.compactUpTo
  rw [List.length_map]
  exact Nat.le_trans (List.length_filter_le _ _) (by simp)

/-- Sorting, and then taking each once. -/
theorem sort_row {w : World} {base g cap : Nat} (ss : List (List UInt8)) (h : w.ownsRow base 9 1 (.slice (some ⟨g, 0, none⟩) ss.length cap) ss.length (ss.map encStr)) (hn : ss.length ≤ 1000000) :
    Calls Tryz.prog 23 #[.slice (some ⟨g, 0, none⟩) ss.length cap] w fun e w' => e = .returned (.tuple #[]) ∧ w'.ownsRow base 9 1 (.slice (some ⟨g, 0, none⟩) ss.length cap) ss.length ((ss.mergeSort fun x y => decide (x ≤ y)).map encStr) ∧ w.grownBy w' (some g) := by
  rcases h.2 with ⟨h1, _⟩ | ⟨g2, cap2, cur, hv, hbase, hb, h1, h2, h3, h4⟩
  · cases h1
  · injection hv with hv _ hv2
    injection hv with hv
    injection hv with hv
    subst hv hv2
    refine (sortS_any g 0 cap ss w (holds_of_block hb (by simpa using h4)) (Array.getElem?_eq_some_iff.1 hb).1 (by omega)).mono ?_
    rintro e w' ⟨rfl, n, os, rfl⟩
    exact ⟨rfl, ownsRow_sorted (by simp) hbase hb h1 h2 h3, grownBy_sorted _⟩
theorem comp_row {w : World} {base g cap : Nat} (ss : List (List UInt8)) (h : w.ownsRow base 9 1 (.slice (some ⟨g, 0, none⟩) ss.length cap) ss.length (ss.map encStr)) (hn : ss.length ≤ 1000000) :
    Calls Tryz.prog 24 #[.slice (some ⟨g, 0, none⟩) ss.length cap] w fun e w' => e = .returned (.slice (some ⟨g, 0, none⟩) (Lib.compact ss).length cap) ∧ w'.ownsRow base 9 1 (.slice (some ⟨g, 0, none⟩) (Lib.compact ss).length cap) (Lib.compact ss).length ((Lib.compact ss).map encStr) ∧ w.grownBy w' (some g) := by
  rcases h.2 with ⟨h1, _⟩ | ⟨g2, cap2, cur, hv, hbase, hb, h1, h2, h3, h4⟩
  · cases h1
  · injection hv with hv _ hv2
    injection hv with hv
    injection hv with hv
    subst hv hv2
    refine (Any.slices_Compact_string laysComp g 0 cap ss w (holds_of_block hb (by simpa using h4)) (by omega) h1).mono ?_
    rintro e w' ⟨rfl, q, rfl⟩
    have hl := compact_len ss
    have k1 := ownsRow_sorted (n := q) (os := #[]) (ss := ss) (ts := Lib.compact ss ++ List.replicate (ss.length - (Lib.compact ss).length) []) (by simp; omega) hbase hb h1 h2 h3
    have k2 := grownBy_sorted (w := w) (g := g) (n := q) (os := #[]) (Lib.compact ss ++ List.replicate (ss.length - (Lib.compact ss).length) []).toArray
    rw [grow_empty] at k1 k2
    rw [List.map_append] at k1
    exact ⟨rfl, row_cut k1 (by simp), k2⟩

/-- How Blobs ends. -/
def BlP (L : List Fl) (w : World) (e : Ending) (w' : World) : Prop := ∃ v, e = .returned (.tuple #[v, .int .i64 (chF L)]) ∧ (chF L = 0 → w'.ownsRow w.heap.size 9 1 v (blF L).length ((blF L).map encStr)) ∧ (chF L ≠ 0 → v = .slice none 0 0) ∧ Below w.heap.size w w'

set_option maxHeartbeats 2000000 in
set_option maxRecDepth 100000 in
theorem Blobs_any (ao : Option Addr) (cap : Nat) (L : List Fl) (w : World) (hl : IsFl w ao L) (he : Env w) :
    Calls Tryz.prog 13 #[.slice ao L.length cap] w (BlP L w) := by
  have HC : Hid (Calls Tryz.prog 9 #[.slice ao L.length cap] w fun e w' => e = .returned (.int .i64 (chF L)) ∧ Below w.heap.size w w') := Check_any ao cap L w hl he.1
  by_cases h0 : chF L = 0
  · have hok := okT_of h0
    have H0 : Hid (chF L = 0) := h0
    rw [h0] at HC
    have HP : Hid (∀ W, Below w.heap.size w W → Calls Tryz.prog 28 #[.slice ao L.length cap] W (PkP (pkT1 L) W)) := fun W hW => packed_tree ao cap L W hok (hl.below hW (Nat.le_refl _)) (he.up hW)
    have HL : Hid (0 < (pkT1 L).2.length ∧ (pkT1 L).2.length ≤ 6061) := ⟨dirF_pos smD 100 L, pkT1_len hok⟩
    clear hl he hok h0
    go_enter Tryz.func13, Tryz.ntmps13
    go_wp2_with fail
    refine HC.out.mono ?_
    rintro e w1 ⟨rfl, hb1⟩
    go_wp2_with fail
    refine (HP.out _ hb1).mono ?_
    rintro e w2 ⟨bv, rfl, hrow, hb2⟩
    obtain ⟨g, bc, rfl, hg1, hg2⟩ := hrow.form HL.out.1
    have hl1 : (pkT1 L).2.length = ((pkT1 L).2.map fun b => b.data.toList).length := by simp
    rw [strsE, hl1] at hrow
    have hln := HL.out.2
    rw [hl1] at hln
    have hsz := hb1.size
    have hS := sort_row _ hrow (by omega)
    rw [← hl1] at hS
    have HS : Hid (Calls Tryz.prog 23 #[.slice (some ⟨g, 0, none⟩) (pkT1 L).2.length bc] w2 fun e w' => e = .returned (.tuple #[]) ∧ w'.ownsRow w1.heap.size 9 1 (.slice (some ⟨g, 0, none⟩) (pkT1 L).2.length bc) (pkT1 L).2.length ((((pkT1 L).2.map fun b => b.data.toList).mergeSort fun x y => decide (x ≤ y)).map encStr) ∧ w2.grownBy w' (some g)) := hS
    have HB2 : Hid (Below w.heap.size w w2) := hb1.trans (hb2.mono hsz)
    clear hb1 hb2 hrow hS hl1 hln
    go_wp2_with fail
    refine HS.out.mono ?_
    rintro e w3 ⟨rfl, hrow3, hg3⟩
    have hl2 : (pkT1 L).2.length = (((pkT1 L).2.map fun b => b.data.toList).mergeSort fun x y => decide (x ≤ y)).length := by simp
    rw [hl2] at hrow3
    have hC := comp_row _ hrow3 (by rw [← hl2]; have := HL.out.2; omega)
    rw [← hl2] at hC
    have HCo : Hid (Calls Tryz.prog 24 #[.slice (some ⟨g, 0, none⟩) (pkT1 L).2.length bc] w3 fun e w' => e = .returned (.slice (some ⟨g, 0, none⟩) (blF L).length bc) ∧ w'.ownsRow w1.heap.size 9 1 (.slice (some ⟨g, 0, none⟩) (blF L).length bc) (blF L).length ((blF L).map encStr) ∧ w3.grownBy w' (some g)) := hC
    have HB3 : Hid (Below w.heap.size w w3) := HB2.out.grown hg3 HB2.out.size fun k hk => by injection hk with hk; omega
    clear hrow3 hg3 hC hl2
    go_wp2_with fail
    refine HCo.out.mono ?_
    rintro e w4 ⟨rfl, hrow4, hg4⟩
    have HB4 : Hid (Below w.heap.size w w4) := HB3.out.grown hg4 HB3.out.size fun k hk => by injection hk with hk; omega
    have HR4 : Hid (w4.ownsRow w1.heap.size 9 1 (.slice (some ⟨g, 0, none⟩) (blF L).length bc) (blF L).length ((blF L).map encStr)) := hrow4
    clear hrow4 hg4
    go_wp2
    refine bodyPost_ret (v := .tuple #[.slice (some ⟨g, 0, none⟩) (blF L).length bc, .int .i64 0]) (by simp [results, Tryz.results13, go_sem]) rfl ?_
    exact ⟨_, by rw [H0.out], fun _ => own_mono HR4.out hsz, fun h => absurd H0.out h, HB4.out⟩
  · clear hl he
    have H0 : Hid (chF L ≠ 0) := h0
    obtain ⟨c, hc⟩ : ∃ c, chF L = c := ⟨_, rfl⟩
    have HCE : Hid (chF L = c) := hc
    rw [hc] at HC h0
    have h0' : (c != 0) = true := by simpa using h0
    clear h0 hc
    go_enter Tryz.func13, Tryz.ntmps13
    go_wp2_with fail
    refine HC.out.mono ?_
    rintro e w1 ⟨rfl, hb1⟩
    have HB : Hid (Below w.heap.size w w1) := hb1
    clear hb1
    go_wp2
    refine bodyPost_ret (v := .tuple #[.slice none 0 0, .int .i64 c]) (by simp [results, Tryz.results13, go_sem]) rfl ?_
    exact ⟨_, by rw [HCE.out], fun h => absurd h H0.out, fun _ => rfl, HB.out⟩
end Go.Proofs.YtkmlooepakinfaaGreatDoor

/- A tree flattened, plain: which files each node stands for. -/
namespace Go.Proofs.YtkmlooepakinfaaGreatDoor
open Go.RowKit Go.Shelf Go.Maps Go.WideMaps

theorem fm_congr {α β : Type} {f g : α → List β} : ∀ {l : List α}, (∀ x ∈ l, f x = g x) → l.flatMap f = l.flatMap g
  | [], _ => rfl
  | x :: l, h => by rw [List.flatMap_cons, List.flatMap_cons, h x (by simp), fm_congr fun y hy => h y (by simp [hy])]
theorem filt_two {α : Type} (p : α → Bool) : ∀ L : List α, (L.filter p ++ L.filter fun x => !p x).Perm L
  | [] => .refl _
  | x :: l => by
    cases h : p x
    · rw [List.filter_cons_of_neg (by rw [h]; decide), List.filter_cons_of_pos (by rw [h]; decide)]
      exact (List.perm_middle).trans ((filt_two p l).cons x)
    · rw [List.filter_cons_of_pos h, List.filter_cons_of_neg (by rw [h]; decide)]
      exact (filt_two p l).cons x
theorem part_perm {α κ : Type} [DecidableEq κ] (key : α → κ) : ∀ (K : List κ), K.Nodup → ∀ L : List α, (∀ x ∈ L, key x ∈ K) → (K.flatMap fun k => L.filter fun x => decide (key x = k)).Perm L
  | [], _, L, h => by
    cases L with
    | nil => exact .refl _
    | cons x l => exact absurd (h x (by simp)) (by simp)
  | k :: K, hn, L, h => by
    rw [List.nodup_cons] at hn
    have h2 := part_perm key K hn.2 (L.filter fun x => !decide (key x = k)) (fun x hx => by
      rw [List.mem_filter] at hx
      rcases List.mem_cons.1 (h x hx.1) with e | e
      · rw [e] at hx; simp at hx
      · exact e)
    have e : (K.flatMap fun k' => (L.filter fun x => !decide (key x = k)).filter fun x => decide (key x = k')) = K.flatMap fun k' => L.filter fun x => decide (key x = k') := by
      refine fm_congr fun k' hk' => ?_
      rw [List.filter_filter]
      refine List.filter_congr fun x _ => ?_
      by_cases e : key x = k'
      · have : key x ≠ k := fun e2 => hn.1 (by rw [← e2, e]; exact hk')
        simp [e] at this ⊢
        exact fun e3 => this e3
      · simp [e]
    rw [e] at h2
    rw [List.flatMap_cons]
    exact (h2.append_left _).trans (filt_two (fun x => decide (key x = k)) L)

/-- A file further in. -/
def addP (a : ByteArray) (f : Fl) : Fl := ⟨⟨(a.data.toList ++ pth f).toArray⟩, f.tx, f.rn⟩
/-- The files that a node stands for. -/
def filesOf (a : ByteArray) (L : List Fl) (m : List UInt8) : List Fl := (L.filter fun f => decide (hdF f = m)).map (addP a)

section
variable (sm : ByteArray → ByteArray)
theorem keys_mem (n : Nat) (L : List Fl) {f : Fl} (hf : f ∈ L) : hdF f ∈ (sortN (nsF sm n L)).map kyN := by
  have hp : ((sortN (nsF sm n L)).map kyN).Perm ((tops L).map pth ++ names L) := by
    rw [← nsF_keys sm n L]
    exact (sortN_perm _).map kyN
  rw [hp.mem_iff, List.mem_append]
  cases hd : deepF f with
  | true => exact .inr ((names_mem L _).2 ⟨f, hf, hd, rfl⟩)
  | false =>
    refine .inl (List.mem_map.2 ⟨f, List.mem_filter.2 ⟨hf, by rw [hd]; rfl⟩, ?_⟩)
    unfold hdF
    rw [top_sl hd]
theorem all_files (n : Nat) {L : List Fl} (h : okT L) (a : ByteArray) : ((sortN (nsF sm n L)).flatMap fun x => filesOf a L (kyN x)).Perm (L.map (addP a)) := by
  have hn : ((sortN (nsF sm n L)).map kyN).Nodup := ((sortN_perm _).map kyN).nodup_iff.2 (nsF_nodup sm n h)
  have h1 := part_perm hdF ((sortN (nsF sm n L)).map kyN) hn L (fun f hf => keys_mem sm n L hf)
  rw [List.flatMap_map] at h1
  have h2 := h1.map (addP a)
  rw [List.map_flatMap] at h2
  exact h2
theorem some_files (n : Nat) {L : List Fl} (h : okT L) (a : ByteArray) (k : Nat) : (((sortN (nsF sm n L)).take k).flatMap fun x => filesOf a L (kyN x)).length ≤ L.length := by
  have h1 := (all_files sm n h a).length_eq
  rw [List.length_map] at h1
  rw [← h1]
  conv => rhs; rw [← List.take_append_drop k (sortN (nsF sm n L)), List.flatMap_append, List.length_append]
  omega
/-- A node is a file's, or a directory's. -/
theorem node_cases (n : Nat) {L : List Fl} (h : okT L) {x : Nd} (hx : x ∈ sortN (nsF sm n L)) (a : ByteArray) :
    (∃ f, f ∈ L ∧ deepF f = false ∧ x = ndF sm f ∧ filesOf a L (kyN x) = [addP a f]) ∨
    (∃ m, m ∈ names L ∧ x = ndM sm m (dirF sm n (sub m L)).1 ∧ filesOf a L (kyN x) = (sub m L).map (addP ⟨(a.data.toList ++ (m ++ [47])).toArray⟩)) := by
  have hx2 : x ∈ nsF sm n L := (sortN_perm _).mem_iff.1 hx
  have hnd := nsF_nodup sm n h
  rw [nsF_keys, List.nodup_append] at hnd
  unfold nsF at hx2
  rcases List.mem_append.1 hx2 with hx2 | hx2
  · obtain ⟨f, hf, rfl⟩ := List.mem_map.1 hx2
    have hf2 := hf
    unfold tops at hf2
    rw [List.mem_filter] at hf2
    have hd : deepF f = false := by simpa using hf2.2
    refine .inl ⟨f, hf2.1, hd, rfl, ?_⟩
    unfold filesOf
    have e : (L.filter fun g => decide (hdF g = kyN (ndF sm f))) = (tops L).filter fun g => decide (pth g = pth f) := by
      unfold tops
      rw [List.filter_filter]
      refine List.filter_congr fun g hg => ?_
      cases hdg : deepF g with
      | false =>
        have : hdF g = pth g := by unfold hdF; rw [top_sl hdg]
        rw [this]
        simp [kyN, ndF, pth]
      | true =>
        have : ¬ hdF g = pth f := fun e => hnd.2.2 (pth f) (List.mem_map.2 ⟨f, hf, rfl⟩) (hdF g) ((names_mem L _).2 ⟨g, hg, hdg, rfl⟩) e.symm
        have e2 : kyN (ndF sm f) = pth f := rfl
        rw [e2]
        simp [this]
    rw [e]
    have e3 : (tops L).filter (fun g => decide (pth g = pth f)) = [f] := by
      have hp := hnd.1
      obtain ⟨i, hi, rfl⟩ := List.getElem_of_mem hf
      have : ∀ l : List Fl, (l.map pth).Nodup → ∀ (i : Nat) (hi : i < l.length), l.filter (fun g => decide (pth g = pth l[i])) = [l[i]] := by
        intro l
        induction l with
        | nil => intro _ i hi; simp at hi
        | cons y l ih =>
          intro hn i hi
          rw [List.map_cons, List.nodup_cons] at hn
          cases i with
          | zero =>
            rw [List.filter_cons_of_pos (by simp)]
            have : l.filter (fun g => decide (pth g = pth (y :: l)[0])) = [] := by
              rw [List.filter_eq_nil_iff]
              intro g hg
              simp only [decide_eq_true_eq, List.getElem_cons_zero]
              exact fun e => hn.1 (List.mem_map.2 ⟨g, hg, e⟩)
            rw [this]
            rfl
          | succ i =>
            have hi2 : i < l.length := by simpa using hi
            rw [List.filter_cons_of_neg]
            · exact ih hn.2 i hi2
            · simp only [decide_eq_true_eq, List.getElem_cons_succ]
              exact fun e => hn.1 (List.mem_map.2 ⟨l[i], List.getElem_mem hi2, e.symm⟩)
      exact this (tops L) hp i hi
    rw [e3]
    rfl
  · obtain ⟨m, hm, rfl⟩ := List.mem_map.1 hx2
    refine .inr ⟨m, hm, rfl, ?_⟩
    unfold filesOf sub
    rw [List.map_map]
    have e : (L.filter fun g => decide (hdF g = kyN (ndM sm m (dirF sm n (sub m L)).1))) = L.filter fun g => deepF g && decide (hdF g = m) := by
      refine List.filter_congr fun g hg => ?_
      have e2 : kyN (ndM sm m (dirF sm n (sub m L)).1) = m := by simp [kyN, ndM]
      rw [e2]
      cases hdg : deepF g with
      | true => simp
      | false =>
        have e3 : hdF g = pth g := by unfold hdF; rw [top_sl hdg]
        have : ¬ hdF g = m := fun e => hnd.2.2 (pth g) (List.mem_map.2 ⟨g, List.mem_filter.2 ⟨hg, by rw [hdg]; rfl⟩, rfl⟩) m hm (by rw [← e3]; exact e)
        simp [this]
    unfold sub at e
    rw [e]
    refine List.map_congr_left fun g hg => ?_
    rw [List.mem_filter, Bool.and_eq_true, decide_eq_true_eq] at hg
    show addP a g = addP ⟨(a.data.toList ++ (m ++ [47])).toArray⟩ (subF g)
    unfold addP
    have e4 := (deep_sl hg.2.1).2
    rw [hg.2.2] at e4
    rw [subF_tx]
    have e5 : (subF g).rn = g.rn := by unfold subF; cases sl (pth g) <;> rfl
    rw [e5, e4]
    simp
theorem nsF_ne {n : Nat} {L : List Fl} (h : L ≠ []) : 0 < (nsF sm n L).length := by
  obtain ⟨f, hf⟩ := List.exists_mem_of_ne_nil L h
  have := keys_mem sm n L hf
  obtain ⟨x, hx, _⟩ := List.mem_map.1 this
  have hx2 := (sortN_perm (nsF sm n L)).mem_iff.1 hx
  exact List.length_pos_of_mem hx2
theorem sub_texts (n : Nat) (L : List Fl) {m : List UInt8} (hm : m ∈ names L) : ∀ t ∈ (dirF sm n (sub m L)).2, t ∈ (dirF sm (n + 1) L).2 := fun t ht => by
  rw [dirF_succ]
  simp only [List.mem_append]
  exact .inl (.inr (List.mem_flatMap.2 ⟨m, hm, ht⟩))
theorem top_text (n : Nat) (L : List Fl) {f : Fl} (hf : f ∈ L) (hd : deepF f = false) : f.tx ∈ (dirF sm (n + 1) L).2 := by
  rw [dirF_succ]
  simp only [List.mem_append]
  exact .inl (.inl (List.mem_map.2 ⟨f, List.mem_filter.2 ⟨hf, by rw [hd]; rfl⟩, rfl⟩))
theorem own_text (n : Nat) (L : List Fl) : (dirF sm (n + 1) L).1 ∈ (dirF sm (n + 1) L).2 := by
  rw [dirF_succ]
  simp
end
end Go.Proofs.YtkmlooepakinfaaGreatDoor

/- A tree is flattened: the walk in memory; a text by its digest; the nodes of a directory. -/
namespace Go.Proofs.YtkmlooepakinfaaGreatDoor
open Go.RowKit Go.Shelf Go.Maps Go.WideMaps Go.Sort
attribute [local go_sem ↓] appS_eq

/-- Texts that lie in a row from ao on. -/
def IsTx (w : World) (ao : Option Addr) (bs : List ByteArray) : Prop := bs = [] ∨ ∃ g o, ao = some ⟨g, o, none⟩ ∧ ∀ j (hj : j < bs.length), w.cell? ⟨g, o + j, none⟩ = some (.string bs[j])
/-- A walk: its texts, where each stands by its digest, the files that were met. -/
structure WS (B P M : Nat) (D : DataW Unit) (ba : Option Addr) (bc : Nat) (bs : List ByteArray) (F : List Fl) (fv : Value) (w : World) : Prop where
  blk : w.heap[P]? = some (.cells #[.slice ba bs.length bc, .map (some M), fv] 65 (0, 0))
  own : w.ownsMap Tryz.prog 9 (plainElem Tryz.prog 3) M bs.length D
  tx : bs = [] ∨ ∃ g o, ba = some ⟨g, o, none⟩ ∧ g < B ∧ ∀ j (hj : j < bs.length), w.cell? ⟨g, o + j, none⟩ = some (.string bs[j])
  files : w.ownsRow B 25 3 fv F.length (flCells F)
  ne : P ≠ M
  fP : fv.ownBlock ≠ some P
  fM : fv.ownBlock ≠ some M
  loP : B ≤ P
  loM : B ≤ M
/-- What a step of the walk leaves as it was. -/
structure FR (P : Nat) (fv fv' : Value) (w w' : World) : Prop where
  os : w'.os = w.os
  tape : w'.tape = w.tape
  output : w'.output = w.output
  size : w.heap.size ≤ w'.heap.size
  blk : ∀ b, b < w.heap.size → b ≠ P → fv.ownBlock ≠ some b → w'.heap[b]? = w.heap[b]?
  own : ∀ b, b < w.heap.size → fv.ownBlock ≠ some b → fv'.ownBlock ≠ some b
theorem FR.trans {P : Nat} {a b c : Value} {w w1 w2 : World} (h : FR P a b w w1) (k : FR P b c w1 w2) : FR P a c w w2 :=
  ⟨k.os.trans h.os, k.tape.trans h.tape, k.output.trans h.output, Nat.le_trans h.size k.size, fun x hx hP hne => (k.blk x (Nat.lt_of_lt_of_le hx h.size) hP (h.own x hx hne)).trans (h.blk x hx hP hne), fun x hx hne => k.own x (Nat.lt_of_lt_of_le hx h.size) (h.own x hx hne)⟩
theorem FR.of_below {P : Nat} {a : Value} {w w1 : World} (h : Below w.heap.size w w1) : FR P a a w w1 := ⟨h.os, h.tape, h.output, h.size, fun x hx _ _ => h.block x hx, fun _ _ hne => hne⟩

section
variable {B P M : Nat} {D : DataW Unit} {ba : Option Addr} {bc : Nat} {bs : List ByteArray} {F : List Fl} {fv : Value} {w w' : World}

theorem WS.lt (h : WS B P M D ba bc bs F fv w) : P < w.heap.size := (Array.getElem?_eq_some_iff.1 h.blk).1
theorem WS.below (h : WS B P M D ba bc bs F fv w) (hb : Below w.heap.size w w') : WS B P M D ba bc bs F fv w' := by
  refine ⟨(hb.block P h.lt).trans h.blk, ownsMap_heap h.own (hb.block M h.own.lt), ?_, row_heap h.files fun x hx => hb.block x (h.files.lt x hx).2, h.ne, h.fP, h.fM, h.loP, h.loM⟩
  rcases h.tx with h1 | ⟨g, o, h1, h2, h3⟩
  · exact .inl h1
  · exact .inr ⟨g, o, h1, h2, fun j hj => (hb.cell (p := ⟨g, o + j, none⟩) (by show g < _; have := h.loP; have := h.lt; omega)).trans (h3 j hj)⟩
theorem WS.c0 (h : WS B P M D ba bc bs F fv w) : w.cell? ⟨P, 0, none⟩ = some (.slice ba bs.length bc) := by rw [Lib.cell_of_heap h.blk]; rfl
theorem WS.c1 (h : WS B P M D ba bc bs F fv w) : w.cell? ⟨P, 1, none⟩ = some (.map (some M)) := by rw [Lib.cell_of_heap h.blk]; rfl
theorem WS.c2 (h : WS B P M D ba bc bs F fv w) : w.cell? ⟨P, 2, none⟩ = some fv := by rw [Lib.cell_of_heap h.blk]; rfl

/-- A text is found by its digest. -/
def Finds (bs : List ByteArray) (D : DataW Unit) (t : ByteArray) : Prop := ∃ (i : Nat) (hi : i < bs.length), bs[i] = t ∧ Maps.has D (.string (smD t).data.toList) = true ∧ D.atKey (.string (smD t).data.toList) (.lit (.int .i64 0)) = .lit (.int .i64 (i : Int))
theorem smD_size (t : ByteArray) : (smD t).size = 64 := by
  have := smD_dig t
  unfold digOk at this
  rw [Bool.and_eq_true] at this
  exact of_decide_eq_true this.1
theorem zeroIn (w : World) : (zeroValue 3).run Tryz.prog w = .ok (.int .i64 0) w := by kernel_rfl

set_option maxHeartbeats 2000000 in
set_option maxRecDepth 100000 in
theorem text_ok (h : WS B P M D ba bc bs F fv w) (t : ByteArray) (hf : Finds bs D t) :
    Calls Tryz.prog 90 #[.pointer (some ⟨P, 0, none⟩), .string (smD t)] w fun e w' => e = .returned (.tuple #[.string t, .int .i64 0]) ∧ w' = w := by
  obtain ⟨i, hi, ht, hh, hat⟩ := hf
  obtain ⟨v, ps, hrun, hv⟩ := h.own.look_ok lawS Tryz.underlying63 (zeroIn w) (plainElem_int Tryz.underlying3 (by decide)) (keyOf_string_mk Tryz.underlying9 (s := smD t) (by rw [smD_size]; decide))
  rw [hat] at hv
  rw [hh] at hrun
  obtain ⟨a, rfl, hz, _⟩ := plainElem_int_inv Tryz.underlying3 hv
  injection hz with hz _
  injection hz with hz
  injection hz with _ hz
  subst hz
  have c0 := h.c0
  have c1 := h.c1
  rcases h.tx with h1 | ⟨g, o, rfl, h2, h3⟩
  · exfalso; rw [h1] at hi; exact absurd hi (by simp)
  have c3 := h3 i hi
  rw [ht] at c3
  have hi2 : (i : Int) < (bs.length : Int) := by omega
  clear h hh hat hv ht h3
  generalize smD t = d at *
  go_enter Tryz.func90, Tryz.ntmps90
  go_wp2
  refine bodyPost_ret (v := .tuple #[.string t, .int .i64 0]) (by simp [results, Tryz.results90, go_sem]) rfl ?_
  exact ⟨rfl, rfl⟩

/-- How the nodes of a directory come. -/
def NdP (l : List Nd) (w : World) (e : Ending) (w' : World) : Prop := ∃ na nc, e = .returned (.tuple #[.slice na l.length nc, .int .i64 0]) ∧ w'.ownsRow w.heap.size 87 3 (.slice na l.length nc) l.length (ndCells l) ∧ Below w.heap.size w w'

set_option maxHeartbeats 2000000 in
set_option maxRecDepth 100000 in
theorem nodes_ok (h : WS B P M D ba bc bs F fv w) (t : ByteArray) (hf : Finds bs D t) (l : List Nd) (hs : t.size ≤ maxLen) (hok : neC l = 0) (ht : t.data.toList = pk l.length ++ pkDD l) :
    Calls Tryz.prog 60 #[.pointer (some ⟨P, 0, none⟩), .string (smD t)] w (NdP l w) := by
  have HT : Hid (Calls Tryz.prog 90 #[.pointer (some ⟨P, 0, none⟩), .string (smD t)] w fun e w' => e = .returned (.tuple #[.string t, .int .i64 0]) ∧ w' = w) := text_ok h t hf
  have HR : Hid (Calls Tryz.prog 91 #[.string t] w fun e w' => ∃ v, e = .returned (.tuple #[v, .int .i64 0]) ∧ w'.ownsRow w.heap.size 87 3 v l.length (ndCells l) ∧ Below w.heap.size w w') := ReadNodes_pk t w l hs hok ht
  clear h hf hs hok ht
  go_enter Tryz.func60, Tryz.ntmps60
  go_wp2_with fail
  refine HT.out.mono ?_
  rintro e w1 ⟨rfl, rfl⟩
  go_wp2_with fail
  refine HR.out.mono ?_
  rintro e w2 ⟨v, rfl, hrow, hb⟩
  obtain ⟨na, nc, rfl⟩ := own_shape hrow
  have HRow : Hid (w2.ownsRow w1.heap.size 87 3 (.slice na l.length nc) l.length (ndCells l)) := hrow
  have HB : Hid (Below w1.heap.size w1 w2) := hb
  clear hrow hb
  go_wp2
  refine bodyPost_ret (v := .tuple #[.slice na l.length nc, .int .i64 0]) (by simp [results, Tryz.results60, go_sem]) rfl ?_
  exact ⟨na, nc, rfl, HRow.out, HB.out⟩
end
end Go.Proofs.YtkmlooepakinfaaGreatDoor

/- A tree is flattened: a file. -/
namespace Go.Proofs.YtkmlooepakinfaaGreatDoor
open Go.RowKit Go.Shelf Go.Maps Go.WideMaps Go.Sort
attribute [local go_sem ↓] appS_eq

section
variable {B P M : Nat} {D : DataW Unit} {ba : Option Addr} {bc : Nat} {bs : List ByteArray} {F : List Fl} {fv : Value} {w w' : World}

/-- One file more. -/
theorem WS.file (h : WS B P M D ba bc bs F fv w) (x : Fl) (hF : F.length ≤ 1000) :
    ∃ G C w3, (appS #[22, 22] 22 #[fv, .slice (some ⟨w.heap.size, 0, none⟩) 1 1]).run Tryz.prog ((w.alloc (.cells #[.string x.pa, .string x.tx, .bool x.rn] 25)).drew) = .ok (.slice (some ⟨G, 0, none⟩) (F.length + 1) C) w3 ∧
      w3.cell? ⟨P, 2, none⟩ = some fv ∧ w3.frozen? ⟨P, 2, none⟩ = false ∧
      WS B P M D ba bc bs (F ++ [x]) (.slice (some ⟨G, 0, none⟩) (F.length + 1) C) (w3.setCell ⟨P, 2, none⟩ (.slice (some ⟨G, 0, none⟩) (F.length + 1) C)) ∧
      FR P fv (.slice (some ⟨G, 0, none⟩) (F.length + 1) C) w (w3.setCell ⟨P, 2, none⟩ (.slice (some ⟨G, 0, none⟩) (F.length + 1) C)) := by
  obtain ⟨i0, hi, hz0, hz1, hz2⟩ := info_p infF
  have hsz : ((w.alloc (.cells #[.string x.pa, .string x.tx, .bool x.rn] 25)).drew).heap.size = w.heap.size + 1 := World.size_alloc _ _
  have hA : Below w.heap.size w ((w.alloc (.cells #[.string x.pa, .string x.tx, .bool x.rn] 25)).drew) := ((Below.refl _ w).alloc (Nat.le_refl _) _).drew
  have hWA := h.below hA
  have hlo : B ≤ w.heap.size := Nat.le_trans h.loP (Nat.le_of_lt h.lt)
  obtain ⟨G, C, w3, hrun, hrow, hgr, hat, hlt⟩ := run_append_lies (P := Tryz.prog) ((w.alloc (.cells #[.string x.pa, .string x.tx, .bool x.rn] 25)).drew) 22 22 B 25 i0 (.agg #[.string ⟨#[]⟩, .string ⟨#[]⟩, .bool false]) 3 40 Tryz.underlying22 hi hz0 hz1 hz2 rfl (by decide) fv F.length (flCells F) hWA.files ⟨w.heap.size, 0, none⟩ 1 1 [.string x.pa, .string x.tx, .bool x.rn] rfl (new_cells w _ _) (fun u hu => by simp at hu; rcases hu with rfl | rfl | rfl <;> rfl) (by decide) (by unfold maxLen; omega) (by omega) (by omega) (w.heap.size + 1) hsz
  have hP3 : w3.heap[P]? = some (.cells #[.slice ba bs.length bc, .map (some M), fv] 65 (0, 0)) := (hgr.block P hWA.lt (fun e => h.fP e.symm)).trans hWA.blk
  have hnew : ∀ b, b < w.heap.size → fv.ownBlock ≠ some b → G ≠ b := fun b hb hne e => by
    rcases hat with h1 | h1
    · exact hne (by rw [h1, e])
    · omega
  have hkeep : ∀ b, b < w.heap.size → b ≠ P → fv.ownBlock ≠ some b → (w3.setCell ⟨P, 2, none⟩ (.slice (some ⟨G, 0, none⟩) (F.length + 1) C)).heap[b]? = w.heap[b]? := fun b hb hP hne => ((Below.heap_setCell _ _ _ _ hP).trans (hgr.block b (by omega) (fun e => hne e.symm))).trans (hA.block b hb)
  have hGP : G ≠ P := hnew P h.lt h.fP
  refine ⟨G, C, w3, hrun, by rw [Lib.cell_of_heap hP3]; rfl, by simp only [World.frozen?]; rw [hP3]; rfl, ⟨?_, ?_, ?_, ?_, h.ne, ?_, ?_, h.loP, h.loM⟩, ⟨?_, ?_, ?_, ?_, hkeep, ?_⟩⟩
  · simp only [World.setCell, Array.getElem?_modify, hP3]
    rfl
  · exact ownsMap_heap h.own (hkeep M h.own.lt (fun e => h.ne e.symm) h.fM)
  · rcases h.tx with h1 | ⟨g, o, h1, h2, h3⟩
    · exact .inl h1
    · refine .inr ⟨g, o, h1, h2, fun j hj => ?_⟩
      have hg : g < w.heap.size := by omega
      refine (World.cell?_of_block (w := w) (a := ⟨g, o + j, none⟩) (hkeep g hg (by have := h.loP; omega) (fun e => ?_))).trans (h3 j hj)
      have := (h.files.lt g e).1
      omega
  · have e : flCells (F ++ [x]) = flCells F ++ [.string x.pa, .string x.tx, .bool x.rn] := by simp [flCells]
    rw [e, List.length_append]
    refine row_heap hrow fun b hb => ?_
    have e2 : G = b := by injection hb
    subst e2
    exact Below.heap_setCell _ _ _ _ hGP
  · intro e
    exact hGP (by injection e)
  · intro e
    exact hnew M h.own.lt h.fM (by injection e)
  · exact hgr.os
  · exact hgr.tape
  · exact hgr.output
  · have e : (w3.setCell ⟨P, 2, none⟩ (.slice (some ⟨G, 0, none⟩) (F.length + 1) C)).heap.size = w3.heap.size := by simp [World.setCell]
    rw [e]
    have := hgr.size
    omega
  · intro b hb hne e
    exact hnew b hb hne (by injection e)

/-- How a step ends: it was done. -/
def StP (B P M : Nat) (D : DataW Unit) (ba : Option Addr) (bc : Nat) (bs : List ByteArray) (F : List Fl) (fv : Value) (w : World) (X : List Fl) (e : Ending) (w' : World) : Prop := ∃ (fv' : Value) (Y : List Fl), e = .returned (.int .i64 0) ∧ Y.Perm X ∧ WS B P M D ba bc bs (F ++ Y) fv' w' ∧ FR P fv fv' w w'

set_option maxHeartbeats 4000000 in
set_option maxRecDepth 100000 in
theorem file_ok (h : WS B P M D ba bc bs F fv w) (nm t p : ByteArray) (r : Bool) (hf : Finds bs D t) (hp : p.size ≤ 100) (hF : F.length < 60) :
    Calls Tryz.prog 92 #[.pointer (some ⟨P, 0, none⟩), .agg #[.string nm, .int .i64 (kdF r), .string (smD t)], .string p] w (StP B P M D ba bc bs F fv w [⟨p, t, r⟩]) := by
  have hA : Below w.heap.size w (w.alloc (.cells #[.string nm, .int .i64 (kdF r), .string (smD t)] 87)) := (Below.refl _ w).alloc (Nat.le_refl _) _
  have hWA := h.below hA
  have HT : Hid (Calls Tryz.prog 90 #[.pointer (some ⟨P, 0, none⟩), .string (smD t)] (w.alloc (.cells #[.string nm, .int .i64 (kdF r), .string (smD t)] 87)) fun e w' => e = .returned (.tuple #[.string t, .int .i64 0]) ∧ w' = w.alloc (.cells #[.string nm, .int .i64 (kdF r), .string (smD t)] 87)) := text_ok hWA t hf
  obtain ⟨fa, fc, rfl⟩ := own_shape h.files
  have c2 := hWA.c2
  have hx := heap_alloc_new w (.cells #[.string nm, .int .i64 (kdF r), .string (smD t)] 87)
  have hz : (w.alloc (.cells #[.string nm, .int .i64 (kdF r), .string (smD t)] 87)).heap.size = w.heap.size + 1 := World.size_alloc _ _
  obtain ⟨G, C, w3, hap, f2, fz, hws, hfr⟩ := hWA.file ⟨p, t, r⟩ (by omega)
  rw [hz] at hap
  have HE : Hid (WS B P M D ba bc bs (F ++ [⟨p, t, r⟩]) (.slice (some ⟨G, 0, none⟩) (F.length + 1) C) (w3.setCell ⟨P, 2, none⟩ (.slice (some ⟨G, 0, none⟩) (F.length + 1) C)) ∧ FR P (.slice fa F.length fc) (.slice (some ⟨G, 0, none⟩) (F.length + 1) C) w (w3.setCell ⟨P, 2, none⟩ (.slice (some ⟨G, 0, none⟩) (F.length + 1) C))) := ⟨hws, (FR.of_below hA).trans hfr⟩
  have hp2 : (p.size : Int) ≤ 100 := by omega
  have hF2 : ((F.length : Int) == 60) = false := by rw [beq_eq_false_iff_ne]; omega
  have c2a : ∀ o, ((w.alloc (.cells #[.string nm, .int .i64 (kdF r), .string (smD t)] 87)).alloc o).cell? ⟨P, 2, none⟩ = some (.slice fa F.length fc) := fun o => (((Below.refl _ (w.alloc (.cells #[.string nm, .int .i64 (kdF r), .string (smD t)] 87))).alloc (Nat.le_refl _) o).cell (p := ⟨P, 2, none⟩) hWA.lt).trans c2
  have n1 : (w.alloc (.cells #[.string nm, .int .i64 (kdF r), .string (smD t)] 87)).cell? ⟨w.heap.size, 1, none⟩ = some (.int .i64 (kdF r)) := Lib.cell_of_heap hx 1
  have n2 : (w.alloc (.cells #[.string nm, .int .i64 (kdF r), .string (smD t)] 87)).cell? ⟨w.heap.size, 2, none⟩ = some (.string (smD t)) := Lib.cell_of_heap hx 2
  clear h hA hWA hx hz hws hfr hp hF hf
  simp only at hap
  cases r with
  | true =>
    rw [show kdF true = 2 from rfl] at *
    go_enter Tryz.func92, Tryz.ntmps92
    go_wp2_with fail
    refine HT.out.mono ?_
    rintro e w1 ⟨rfl, rfl⟩
    go_wp2_with fail
    go_region
    go_wp2
    go_ret
    exact ⟨_, _, rfl, .refl _, HE.out⟩
  | false =>
    rw [show kdF false = 1 from rfl] at *
    go_enter Tryz.func92, Tryz.ntmps92
    go_wp2_with fail
    refine HT.out.mono ?_
    rintro e w1 ⟨rfl, rfl⟩
    go_wp2_with fail
    go_region
    go_wp2
    go_ret
    exact ⟨_, _, rfl, .refl _, HE.out⟩
end
end Go.Proofs.YtkmlooepakinfaaGreatDoor

/- A tree is flattened: directories, each node. -/
namespace Go.Proofs.YtkmlooepakinfaaGreatDoor
open Go.RowKit Go.Shelf Go.Maps Go.WideMaps Go.Sort
attribute [local go_sem ↓] appS_eq

theorem app_bytes (a b : ByteArray) : a ++ b = ⟨(a.data.toList ++ b.data.toList).toArray⟩ := by
  obtain ⟨x⟩ := a
  obtain ⟨y⟩ := b
  have e : (⟨x⟩ ++ ⟨y⟩ : ByteArray).data = x ++ y := ByteArray.data_append
  have e2 : (x.toList ++ y.toList).toArray = x ++ y := by simp
  rw [e2]
  generalize (⟨x⟩ ++ ⟨y⟩ : ByteArray) = z at e
  obtain ⟨z⟩ := z
  exact congrArg ByteArray.mk e
theorem app_size (a b : ByteArray) : (a ++ b).size = a.size + b.size := ByteArray.size_append

section
variable {B P M : Nat} {D : DataW Unit} {ba : Option Addr} {bc : Nat} {bs : List ByteArray} {F : List Fl} {fv : Value} {w w' : World}

set_option maxHeartbeats 4000000 in
set_option maxRecDepth 100000 in
theorem dir_ok (h : WS B P M D ba bc bs F fv w) (nm t p : ByteArray) (hf : Finds bs D t) (l : List Nd) (hs : t.size ≤ maxLen) (hok : neC l = 0) (ht : t.data.toList = pk l.length ++ pkDD l) (h0 : 0 < l.length) (hp : p.size ≤ 100) (X : List Fl)
    (hE : ∀ (W : World) (B2 : Nat) (na : Option Addr) (nc : Nat), WS B P M D ba bc bs F fv W → W.ownsRow B2 87 3 (.slice na l.length nc) l.length (ndCells l) → (Value.slice na l.length nc).ownBlock ≠ some P → (∀ x, fv.ownBlock = some x → (Value.slice na l.length nc).ownBlock ≠ some x) → Calls Tryz.prog 61 #[.pointer (some ⟨P, 0, none⟩), .slice na l.length nc, .string (p ++ ⟨#[47]⟩)] W (StP B P M D ba bc bs F fv W X)) :
    Calls Tryz.prog 93 #[.pointer (some ⟨P, 0, none⟩), .agg #[.string nm, .int .i64 3, .string (smD t)], .string p] w (StP B P M D ba bc bs F fv w X) := by
  have hA : Below w.heap.size w (w.alloc (.cells #[.string nm, .int .i64 3, .string (smD t)] 87)) := (Below.refl _ w).alloc (Nat.le_refl _) _
  have hWA := h.below hA
  have HN : Hid (Calls Tryz.prog 60 #[.pointer (some ⟨P, 0, none⟩), .string (smD t)] (w.alloc (.cells #[.string nm, .int .i64 3, .string (smD t)] 87)) (NdP l (w.alloc (.cells #[.string nm, .int .i64 3, .string (smD t)] 87)))) := nodes_ok hWA t hf l hs hok ht
  have HEa : Hid (∀ (W : World) (na : Option Addr) (nc : Nat), Below w.heap.size w W → W.ownsRow (w.alloc (.cells #[.string nm, .int .i64 3, .string (smD t)] 87)).heap.size 87 3 (.slice na l.length nc) l.length (ndCells l) → Calls Tryz.prog 61 #[.pointer (some ⟨P, 0, none⟩), .slice na l.length nc, .string (p ++ ⟨#[47]⟩)] W (StP B P M D ba bc bs F fv W X)) := fun W na nc hW hrow => by
    refine hE W _ na nc (h.below hW) hrow (fun e => ?_) (fun x hx e => ?_)
    · have := (hrow.lt P e).1
      rw [World.size_alloc] at this
      have := h.lt
      omega
    · have := (hrow.lt x e).1
      rw [World.size_alloc] at this
      have := (h.files.lt x hx).2
      omega
  have hx := heap_alloc_new w (.cells #[.string nm, .int .i64 3, .string (smD t)] 87)
  have n2 : (w.alloc (.cells #[.string nm, .int .i64 3, .string (smD t)] 87)).cell? ⟨w.heap.size, 2, none⟩ = some (.string (smD t)) := Lib.cell_of_heap hx 2
  have HA : Hid (Below w.heap.size w (w.alloc (.cells #[.string nm, .int .i64 3, .string (smD t)] 87))) := hA
  have hp2 : (p.size : Int) ≤ 100 := by omega
  have h02 : ((l.length : Int) == 0) = false := by rw [beq_eq_false_iff_ne]; omega
  clear h hA hWA hx hp hf hs hok ht h0 hE
  go_enter Tryz.func93, Tryz.ntmps93
  go_wp2_with fail
  refine HN.out.mono ?_
  rintro e w1 ⟨na, nc, rfl, hrow, hb⟩
  have hb1 : Below w.heap.size w w1 := HA.out.trans (hb.mono HA.out.size)
  have HE1 : Hid (Calls Tryz.prog 61 #[.pointer (some ⟨P, 0, none⟩), .slice na l.length nc, .string (p ++ ⟨#[47]⟩)] w1 (StP B P M D ba bc bs F fv w1 X)) := HEa.out w1 na nc hb1 hrow
  have HB1 : Hid (Below w.heap.size w w1) := hb1
  clear hrow hb hb1 HEa
  go_wp2_with fail
  refine HE1.out.mono ?_
  rintro e w2 ⟨fv', Y, rfl, hY, hws, hfr⟩
  have HF : Hid (Y.Perm X ∧ WS B P M D ba bc bs (F ++ Y) fv' w2 ∧ FR P fv fv' w w2) := ⟨hY, hws, (FR.of_below HB1.out).trans hfr⟩
  clear hY hws hfr
  go_wp2
  go_ret
  exact ⟨fv', Y, rfl, HF.out⟩

/-- While nodes are taken one by one. -/
def EaL (B P M : Nat) (D : DataW Unit) (ba : Option Addr) (bc : Nat) (bs : List ByteArray) (F : List Fl) (fv : Value) (w : World) (l : List Nd) (a : ByteArray) (L : List Fl) (i : Value) (wr : World) : Prop := ∃ (k : Nat) (fv' : Value) (Y : List Fl), k ≤ l.length ∧ i = .int .i64 k ∧ Y.Perm ((l.take k).flatMap fun x => filesOf a L (kyN x)) ∧ WS B P M D ba bc bs (F ++ Y) fv' wr ∧ FR P fv fv' w wr
theorem EaL.step {l : List Nd} {a : ByteArray} {L : List Fl} {k : Nat} {fv' fv'' : Value} {Y Z : List Fl} {wr w2 : World} {x : Nd} (hlt : k < l.length) (hx : l[k] = x) (hY : Y.Perm ((l.take k).flatMap fun x => filesOf a L (kyN x))) (hfr : FR P fv fv' w wr) (hZ : Z.Perm (filesOf a L (kyN x))) (hws : WS B P M D ba bc bs ((F ++ Y) ++ Z) fv'' w2) (hf2 : FR P fv' fv'' wr w2) {v : Value} (hv : v = .int .i64 ((k + 1 : Nat) : Int)) : EaL B P M D ba bc bs F fv w l a L v w2 := by
  refine ⟨k + 1, fv'', Y ++ Z, by omega, hv, ?_, by rw [← List.append_assoc]; exact hws, hfr.trans hf2⟩
  rw [List.take_succ_eq_append_getElem hlt, List.flatMap_append, hx]
  refine hY.append ?_
  simpa using hZ

set_option maxHeartbeats 8000000 in
set_option maxRecDepth 100000 in
theorem each_step (n : Nat) (L : List Fl) (a : ByteArray) (B2 : Nat) (na : Option Addr) (nc : Nat) (hok : okT L) (h : WS B P M D ba bc bs F fv w) (ha : ∀ f ∈ L, a.size + f.pa.size ≤ 100) (hF : F.length + L.length ≤ 60)
    (hrow : w.ownsRow B2 87 3 (.slice na (sortN (nsF smD n L)).length nc) (sortN (nsF smD n L)).length (ndCells (sortN (nsF smD n L)))) (hnP : (Value.slice na (sortN (nsF smD n L)).length nc).ownBlock ≠ some P) (hnF : ∀ x, fv.ownBlock = some x → (Value.slice na (sortN (nsF smD n L)).length nc).ownBlock ≠ some x)
    (hfile : ∀ f ∈ L, deepF f = false → Finds bs D f.tx)
    (hdir : ∀ m ∈ names L, ∀ (F' : List Fl) (fv' : Value) (W : World), WS B P M D ba bc bs F' fv' W → F'.length + (sub m L).length ≤ 60 → Calls Tryz.prog 93 #[.pointer (some ⟨P, 0, none⟩), .agg #[.string ⟨m.toArray⟩, .int .i64 3, .string (smD (dirF smD n (sub m L)).1)], .string (a ++ ⟨m.toArray⟩)] W (StP B P M D ba bc bs F' fv' W ((sub m L).map (addP ⟨(a.data.toList ++ (m ++ [47])).toArray⟩)))) :
    Calls Tryz.prog 61 #[.pointer (some ⟨P, 0, none⟩), .slice na (sortN (nsF smD n L)).length nc, .string a] w (StP B P M D ba bc bs F fv w (L.map (addP a))) := by
  have HK : Hid (okT L) := hok
  have HAll : Hid (((sortN (nsF smD n L)).flatMap fun x => filesOf a L (kyN x)).Perm (L.map (addP a))) := all_files smD n hok a
  have HSome : Hid (∀ k, (((sortN (nsF smD n L)).take k).flatMap fun x => filesOf a L (kyN x)).length ≤ L.length) := some_files smD n hok a
  have HCase : Hid (∀ x ∈ sortN (nsF smD n L), (∃ f, f ∈ L ∧ deepF f = false ∧ x = ndF smD f ∧ filesOf a L (kyN x) = [addP a f]) ∨ (∃ m, m ∈ names L ∧ x = ndM smD m (dirF smD n (sub m L)).1 ∧ filesOf a L (kyN x) = (sub m L).map (addP ⟨(a.data.toList ++ (m ++ [47])).toArray⟩))) := fun x hx => node_cases smD n hok hx a
  have HA : Hid (∀ f ∈ L, a.size + f.pa.size ≤ 100) := ha
  have HF : Hid (F.length + L.length ≤ 60) := hF
  have HR : Hid (w.ownsRow B2 87 3 (.slice na (sortN (nsF smD n L)).length nc) (sortN (nsF smD n L)).length (ndCells (sortN (nsF smD n L)))) := hrow
  have HNP : Hid ((Value.slice na (sortN (nsF smD n L)).length nc).ownBlock ≠ some P) := hnP
  have HNF : Hid (∀ x, fv.ownBlock = some x → (Value.slice na (sortN (nsF smD n L)).length nc).ownBlock ≠ some x) := hnF
  have HFi : Hid (∀ f ∈ L, deepF f = false → Finds bs D f.tx) := hfile
  have HDi : Hid (∀ m ∈ names L, ∀ (F' : List Fl) (fv' : Value) (W : World), WS B P M D ba bc bs F' fv' W → F'.length + (sub m L).length ≤ 60 → Calls Tryz.prog 93 #[.pointer (some ⟨P, 0, none⟩), .agg #[.string ⟨m.toArray⟩, .int .i64 3, .string (smD (dirF smD n (sub m L)).1)], .string (a ++ ⟨m.toArray⟩)] W (StP B P M D ba bc bs F' fv' W ((sub m L).map (addP ⟨(a.data.toList ++ (m ++ [47])).toArray⟩)))) := hdir
  have HS0 : Hid (EaL B P M D ba bc bs F fv w (sortN (nsF smD n L)) a L (.int .i64 ((0 : Nat) : Int)) w) := ⟨0, fv, [], by omega, rfl, .refl _, by rw [List.append_nil]; exact h, FR.of_below (Below.refl _ _)⟩
  have hnl : ((sortN (nsF smD n L)).length : Int) ≤ 60 := by
    rw [(sortN_perm _).length_eq]
    have := nsF_len smD n L
    have := hok.1
    omega
  have hmf : ∀ (fn : Fn) (first cap : Array Value) (w : World), (Instr.makeFunc fn first cap).run Tryz.prog w = .ok (.func fn first cap) w := fun _ _ _ _ => rfl
  clear hok h ha hF hrow hnP hnF hfile hdir
  generalize hl : sortN (nsF smD n L) = l at *
  clear hl
  go_enter Tryz.func61, Tryz.ntmps61
  go_wp2
  go_loopw [13] (fun i wr => EaL B P M D ba bc bs F fv w l a L i wr) (fun i _ => l.length - (intOf i).toNat)
  case atStart => exact HS0.out
  case round =>
    clear HS0
    obtain ⟨k, fv', Y, hk, rfl, hY, hws, hfr⟩ := hrel
    have HY : Hid (Y.Perm ((l.take k).flatMap fun x => filesOf a L (kyN x))) := hY
    have HW : Hid (WS B P M D ba bc bs (F ++ Y) fv' wr) := hws
    have HFR : Hid (FR P fv fv' w wr) := hfr
    by_cases hlt : k < l.length
    · have hki : (k : Int) < (l.length : Int) := by omega
      rcases HR.out.2 with ⟨_, h0⟩ | ⟨ng, nc2, cur, hnv, _, hnh, _⟩
      · exfalso; omega
      injection hnv with hna hx1 hx2
      subst hna
      clear hx1 hx2
      have hblk : wr.heap[ng]? = w.heap[ng]? := hfr.blk ng (Array.getElem?_eq_some_iff.1 hnh).1 (fun e => HNP.out (by rw [e]; rfl)) (fun e => HNF.out ng e rfl)
      have hcs : ∀ j u, (ndCells l)[j]? = some u → wr.cell? ⟨ng, j, none⟩ = some u := fun j u hu => by
        have h1 := HR.out.cells (show (Value.slice (some ⟨ng, 0, none⟩) l.length nc).ownBlock = some ng from rfl) j u hu
        rw [add0] at h1
        exact (World.cell?_of_block (w := w) (a := ⟨ng, j, none⟩) hblk).trans h1
      obtain ⟨g0, g1, g2⟩ := ndCells_get l k hlt
      have c0 := hcs _ _ g0
      have c1 := hcs _ _ g1
      have c2 := hcs _ _ g2
      have hcase := HCase.out l[k] (List.getElem_mem hlt)
      have hcnt := HSome.out (k + 1)
      rw [List.take_succ_eq_append_getElem hlt, List.flatMap_append, List.length_append] at hcnt
      have hYl := hY.length_eq
      have hFl : F.length + L.length ≤ 60 := HF.out
      simp only [List.flatMap_cons, List.flatMap_nil, List.append_nil] at hcnt
      generalize hx : l[k] = x at c0 c1 c2 hcase hcnt
      have HX : Hid (l[k] = x) := hx
      clear hx g0 g1 g2 hcs hblk hY hfr
      rcases hcase with ⟨f, hf, hd, rfl, hfo⟩ | ⟨m, hm, rfl, hfo⟩
      · rw [hfo, List.length_singleton] at hcnt
        have hpl : (a ++ f.pa).size ≤ 100 := by rw [app_size]; exact HA.out f hf
        have hFe : addP a f = ⟨a ++ f.pa, f.tx, f.rn⟩ := by unfold addP; rw [app_bytes]; rfl
        have hFl2 : (F ++ Y).length < 60 := by rw [List.length_append]; omega
        have hA1 : Below wr.heap.size wr (wr.alloc (.cells #[.string f.pa, .int .i64 (kdF f.rn), .string (smD f.tx)] 87)) := (Below.refl _ wr).alloc (Nat.le_refl _) _
        have HC : Hid (Calls Tryz.prog 92 #[.pointer (some ⟨P, 0, none⟩), .agg #[.string f.pa, .int .i64 (kdF f.rn), .string (smD f.tx)], .string (a ++ f.pa)] (wr.alloc (.cells #[.string f.pa, .int .i64 (kdF f.rn), .string (smD f.tx)] 87)) (StP B P M D ba bc bs (F ++ Y) fv' (wr.alloc (.cells #[.string f.pa, .int .i64 (kdF f.rn), .string (smD f.tx)] 87)) [⟨a ++ f.pa, f.tx, f.rn⟩])) := file_ok (HW.out.below hA1) f.pa f.tx (a ++ f.pa) f.rn (HFi.out f hf hd) hpl hFl2
        have HEnd : Hid (∀ w2 fv'' Z, Z.Perm [⟨a ++ f.pa, f.tx, f.rn⟩] → WS B P M D ba bc bs ((F ++ Y) ++ Z) fv'' w2 → FR P fv' fv'' (wr.alloc (.cells #[.string f.pa, .int .i64 (kdF f.rn), .string (smD f.tx)] 87)) w2 → ∀ v, v = .int .i64 ((k + 1 : Nat) : Int) → EaL B P M D ba bc bs F fv w l a L v w2) := fun w2 fv'' Z hZ hw hf2 v hv => EaL.step hlt HX.out HY.out HFR.out (by rw [hfo, hFe]; exact hZ) hw ((FR.of_below hA1).trans hf2) hv
        have hpl2 : (a.size : Int) + (f.pa.size : Int) ≤ 100 := by have := HA.out f hf; omega
        have hpl3 : a.size + f.pa.size ≤ 100 := HA.out f hf
        have hk3 : ¬ kdF f.rn = 3 := by unfold kdF; split <;> decide
        unfold ndF at c0 c1 c2
        clear hfo hpl hFe hFl2 hA1 hcnt hYl hFl hws hnh HFi HDi HCase HSome HA
        generalize smD f.tx = dg at *
        generalize kdF f.rn = kd at *
        go_wp2_with fail
        refine HC.out.mono ?_
        rintro e w2 ⟨fv'', Z, rfl, hZ, hw2, hf2⟩
        have HE2 : Hid (∀ v, v = .int .i64 ((k + 1 : Nat) : Int) → EaL B P M D ba bc bs F fv w l a L v w2) := HEnd.out w2 fv'' Z hZ hw2 hf2
        clear hZ hw2 hf2 HEnd HC
        go_wp2
        exact ⟨HE2.out _ (by go_num), by simp [intOf]; omega⟩
      · rw [hfo, List.length_map] at hcnt
        have hA1 : Below wr.heap.size wr (wr.alloc (.cells #[.string ⟨m.toArray⟩, .int .i64 3, .string (smD (dirF smD n (sub m L)).1)] 87)) := (Below.refl _ wr).alloc (Nat.le_refl _) _
        have HC : Hid (Calls Tryz.prog 93 #[.pointer (some ⟨P, 0, none⟩), .agg #[.string ⟨m.toArray⟩, .int .i64 3, .string (smD (dirF smD n (sub m L)).1)], .string (a ++ ⟨m.toArray⟩)] (wr.alloc (.cells #[.string ⟨m.toArray⟩, .int .i64 3, .string (smD (dirF smD n (sub m L)).1)] 87)) (StP B P M D ba bc bs (F ++ Y) fv' (wr.alloc (.cells #[.string ⟨m.toArray⟩, .int .i64 3, .string (smD (dirF smD n (sub m L)).1)] 87)) ((sub m L).map (addP ⟨(a.data.toList ++ (m ++ [47])).toArray⟩)))) := HDi.out m hm _ _ _ (HW.out.below hA1) (by rw [List.length_append]; omega)
        have HEnd : Hid (∀ w2 fv'' Z, Z.Perm ((sub m L).map (addP ⟨(a.data.toList ++ (m ++ [47])).toArray⟩)) → WS B P M D ba bc bs ((F ++ Y) ++ Z) fv'' w2 → FR P fv' fv'' (wr.alloc (.cells #[.string ⟨m.toArray⟩, .int .i64 3, .string (smD (dirF smD n (sub m L)).1)] 87)) w2 → ∀ v, v = .int .i64 ((k + 1 : Nat) : Int) → EaL B P M D ba bc bs F fv w l a L v w2) := fun w2 fv'' Z hZ hw hf2 v hv => EaL.step hlt HX.out HY.out HFR.out (by rw [hfo]; exact hZ) hw ((FR.of_below hA1).trans hf2) hv
        have hpl3 : a.size + (⟨m.toArray⟩ : ByteArray).size ≤ 100 := by
          obtain ⟨f, hf, hd, hh⟩ := (names_mem L m).1 hm
          have e := congrArg List.length (deep_sl hd).2
          rw [List.length_append, hh] at e
          have e1 : (pth f).length = f.pa.size := Array.length_toList
          have e2 : (⟨m.toArray⟩ : ByteArray).size = m.length := by show m.toArray.size = _; simp
          have := HA.out f hf
          omega
        have hpl2 : (a.size : Int) + ((⟨m.toArray⟩ : ByteArray).size : Int) ≤ 100 := by omega
        unfold ndM at c0 c1 c2
        clear hfo hA1 hcnt hYl hFl hws hnh HFi HDi HCase HSome HA
        generalize smD (dirF smD n (sub m L)).1 = dg at *
        go_wp2_with fail
        refine HC.out.mono ?_
        rintro e w2 ⟨fv'', Z, rfl, hZ, hw2, hf2⟩
        have HE2 : Hid (∀ v, v = .int .i64 ((k + 1 : Nat) : Int) → EaL B P M D ba bc bs F fv w l a L v w2) := HEnd.out w2 fv'' Z hZ hw2 hf2
        clear hZ hw2 hf2 HEnd HC
        go_wp2
        exact ⟨HE2.out _ (by go_num), by simp [intOf]; omega⟩
    · have hki : ¬ (k : Int) < (l.length : Int) := by omega
      have HEnd : Hid (Y.Perm (L.map (addP a)) ∧ WS B P M D ba bc bs (F ++ Y) fv' wr ∧ FR P fv fv' w wr) := by
        refine ⟨?_, hws, hfr⟩
        rw [List.take_of_length_le (by omega)] at hY
        exact hY.trans HAll.out
      clear hY hws hfr
      go_wp2
      go_ret
      exact ⟨fv', Y, rfl, HEnd.out⟩
end
end Go.Proofs.YtkmlooepakinfaaGreatDoor

/- A tree is flattened: all of it. -/
namespace Go.Proofs.YtkmlooepakinfaaGreatDoor
open Go.RowKit Go.Shelf Go.Maps Go.WideMaps Go.Sort
attribute [local go_sem ↓] appS_eq

section
variable {B P M : Nat} {D : DataW Unit} {ba : Option Addr} {bc : Nat} {bs : List ByteArray}

theorem sub_ne {L : List Fl} {m : List UInt8} (hm : m ∈ names L) : sub m L ≠ [] := by
  obtain ⟨f, hf, hd, hh⟩ := (names_mem L m).1 hm
  intro e
  have : subF f ∈ sub m L := List.mem_map.2 ⟨f, List.mem_filter.2 ⟨hf, by rw [hd, hh]; simp⟩, rfl⟩
  rw [e] at this
  cases this
theorem sub_path {L : List Fl} {m : List UInt8} {g : Fl} (hg : g ∈ sub m L) : ∃ f ∈ L, f.pa.size = m.length + 1 + g.pa.size := by
  obtain ⟨f, hf, rfl⟩ := List.mem_map.1 hg
  rw [List.mem_filter, Bool.and_eq_true, decide_eq_true_eq] at hf
  refine ⟨f, hf.1, ?_⟩
  have e := congrArg List.length (deep_sl hf.2.1).2
  rw [List.length_append, List.length_cons, hf.2.2] at e
  have e1 : (pth f).length = f.pa.size := Array.length_toList
  have e2 : (pth (subF f)).length = (subF f).pa.size := Array.length_toList
  omega

theorem each_any : ∀ (n : Nat) (L F : List Fl) (fv : Value) (w : World) (a : ByteArray) (B2 : Nat) (na : Option Addr) (nc : Nat), okT L → (∀ f ∈ L, f.pa.size < n + 1) → WS B P M D ba bc bs F fv w → (∀ f ∈ L, a.size + f.pa.size ≤ 100) → F.length + L.length ≤ 60 →
    w.ownsRow B2 87 3 (.slice na (sortN (nsF smD n L)).length nc) (sortN (nsF smD n L)).length (ndCells (sortN (nsF smD n L))) → (Value.slice na (sortN (nsF smD n L)).length nc).ownBlock ≠ some P → (∀ x, fv.ownBlock = some x → (Value.slice na (sortN (nsF smD n L)).length nc).ownBlock ≠ some x) →
    (∀ t ∈ (dirF smD (n + 1) L).2, Finds bs D t) →
    Calls Tryz.prog 61 #[.pointer (some ⟨P, 0, none⟩), .slice na (sortN (nsF smD n L)).length nc, .string a] w (StP B P M D ba bc bs F fv w (L.map (addP a)))
  | n, L, F, fv, w, a, B2, na, nc, hok, hsz, h, ha, hF, hrow, hnP, hnF, hfind => by
    refine each_step n L a B2 na nc hok h ha hF hrow hnP hnF (fun f hf hd => hfind _ (top_text smD n L hf hd)) fun m hm F' fv' W hW hF' => ?_
    have hne := sub_ne hm
    cases n with
    | zero =>
      exfalso
      obtain ⟨f, hf⟩ := List.exists_mem_of_ne_nil _ hne
      have := sub_less hsz m f hf
      omega
    | succ n =>
      have hokm := okT_sub hok m
      have hml : (⟨m.toArray⟩ : ByteArray).size = m.length := by show m.toArray.size = _; simp
      have hp : (a ++ (⟨m.toArray⟩ : ByteArray)).size ≤ 100 := by
        obtain ⟨g, hg⟩ := List.exists_mem_of_ne_nil _ hne
        obtain ⟨f, hf, e⟩ := sub_path hg
        rw [app_size, hml]
        have := ha f hf
        omega
      have hpe : (a ++ (⟨m.toArray⟩ : ByteArray)) ++ (⟨#[47]⟩ : ByteArray) = ⟨(a.data.toList ++ (m ++ [47])).toArray⟩ := by
        rw [app_bytes, app_bytes]
        simp
      refine dir_ok hW ⟨m.toArray⟩ (dirF smD (n + 1) (sub m L)).1 (a ++ ⟨m.toArray⟩) (hfind _ (sub_texts smD (n + 1) L hm _ (own_text smD n _))) (sortN (nsF smD n (sub m L))) (by have := txN_size smD smD_dig n hokm; unfold maxLen; omega) (nsF_ok smD smD_dig n hokm) (by
        rw [dirF_succ]
        show (txN (nsF smD n (sub m L))).data.toList = _
        unfold txN
        simp) (by rw [(sortN_perm _).length_eq]; exact nsF_ne smD hne) hp _ fun W2 B3 na2 nc2 hW2 hrow2 hP2 hF2 => ?_
      rw [hpe]
      refine each_any n (sub m L) F' fv' W2 ⟨(a.data.toList ++ (m ++ [47])).toArray⟩ B3 na2 nc2 hokm (sub_less hsz m) hW2 (fun g hg => ?_) hF' hrow2 hP2 hF2 (fun t ht => hfind t (sub_texts smD (n + 1) L hm t ht))
      obtain ⟨f, hf, e⟩ := sub_path hg
      have := ha f hf
      have e2 : (⟨(a.data.toList ++ (m ++ [47])).toArray⟩ : ByteArray).size = a.size + (m.length + 1) := by
        show (a.data.toList ++ (m ++ [47])).toArray.size = _
        simp
      omega

set_option maxHeartbeats 2000000 in
set_option maxRecDepth 100000 in
theorem whole_ok {F : List Fl} {fv : Value} {w : World} (L : List Fl) (hok : okT L) (h : WS B P M D ba bc bs F fv w) (hF : F.length + L.length ≤ 60) (hfind : ∀ t ∈ (pkT1 L).2, Finds bs D t) :
    Calls Tryz.prog 34 #[.pointer (some ⟨P, 0, none⟩), .string (smD (pkT1 L).1)] w (StP B P M D ba bc bs F fv w L) := by
  have HN : Hid (Calls Tryz.prog 60 #[.pointer (some ⟨P, 0, none⟩), .string (smD (pkT1 L).1)] w (NdP (sortN (nsF smD 100 L)) w)) := nodes_ok h _ (hfind _ (own_text smD 100 L)) _ (Nat.le_trans (pkT1_size hok) (by decide)) (nsF_ok smD smD_dig 100 hok) (by
    show (txN (nsF smD 100 L)).data.toList = _
    unfold txN
    simp)
  have HE : Hid (∀ W na nc, Below w.heap.size w W → W.ownsRow w.heap.size 87 3 (.slice na (sortN (nsF smD 100 L)).length nc) (sortN (nsF smD 100 L)).length (ndCells (sortN (nsF smD 100 L))) → Calls Tryz.prog 61 #[.pointer (some ⟨P, 0, none⟩), .slice na (sortN (nsF smD 100 L)).length nc, .string ⟨#[]⟩] W (StP B P M D ba bc bs F fv W L)) := fun W na nc hW hrow => by
    have h1 := each_any 100 L F fv W ⟨#[]⟩ w.heap.size na nc hok (fun f hf => by have := pathOk_size (flE_pa (hok.2.1 f hf)).1; omega) (h.below hW) (fun f hf => by have := pathOk_size (flE_pa (hok.2.1 f hf)).1; show 0 + _ ≤ _; omega) hF hrow (fun e => by
      have := (hrow.lt P e).1
      have := h.lt
      omega) (fun x hx e => by
      have := (hrow.lt x e).1
      have := (h.files.lt x hx).2
      omega) hfind
    have e : L.map (addP ⟨#[]⟩) = L := by
      have : ∀ f ∈ L, addP ⟨#[]⟩ f = f := fun f _ => by
        obtain ⟨⟨p⟩, t, r⟩ := f
        unfold addP pth
        simp
      rw [List.map_congr_left this, List.map_id']
    rw [e] at h1
    exact h1
  clear h hok hfind hF
  generalize smD (pkT1 L).1 = rt at *
  generalize sortN (nsF smD 100 L) = l at *
  go_enter Tryz.func34, Tryz.ntmps34
  go_wp2_with fail
  refine HN.out.mono ?_
  rintro e w1 ⟨na, nc, rfl, hrow, hb⟩
  have HE1 : Hid (Calls Tryz.prog 61 #[.pointer (some ⟨P, 0, none⟩), .slice na l.length nc, .string ⟨#[]⟩] w1 (StP B P M D ba bc bs F fv w1 L)) := HE.out w1 na nc hb hrow
  have HB : Hid (Below w.heap.size w w1) := hb
  clear hrow hb HE
  go_wp2_with fail
  refine HE1.out.mono ?_
  rintro e w2 ⟨fv', Y, rfl, hY, hws, hfr⟩
  have HF : Hid (Y.Perm L ∧ WS B P M D ba bc bs (F ++ Y) fv' w2 ∧ FR P fv fv' w w2) := ⟨hY, hws, (FR.of_below HB.out).trans hfr⟩
  clear hY hws hfr
  go_wp2
  go_ret
  exact ⟨fv', Y, rfl, HF.out⟩
end
end Go.Proofs.YtkmlooepakinfaaGreatDoor

/- A tree is flattened: a new walk. -/
namespace Go.Proofs.YtkmlooepakinfaaGreatDoor
open Go.RowKit Go.Shelf Go.Maps Go.WideMaps Go.Sort
attribute [local go_sem ↓] appS_eq

/-- Where things stand, by their keys: the first k of them. -/
def ixG (key : Nat → List UInt8) : Nat → DataW Unit
  | 0 => .map []
  | k + 1 => (ixG key k).put (.string (key k)) (.lit (.int .i64 (k : Int)))
theorem ixG_succ (key : Nat → List UInt8) (k : Nat) : ixG key (k + 1) = (ixG key k).put (.string (key k)) (.lit (.int .i64 (k : Int))) := rfl
theorem ixG_map (key : Nat → List UInt8) : ∀ k, IsMap (ixG key k)
  | 0 => isMap_empty
  | k + 1 => (ixG_map key k).put _ _
theorem str_ne {a b : List UInt8} (h : a ≠ b) : Lit.string a ≠ Lit.string b := fun e => h (by injection e)
theorem ixG_at (key : Nat → List UInt8) (d : List UInt8) : ∀ k, (∃ j, j < k ∧ key j = d) → ∃ i, i < k ∧ key i = d ∧ Maps.has (ixG key k) (.string d) = true ∧ (ixG key k).atKey (.string d) (.lit (.int .i64 0)) = .lit (.int .i64 (i : Int))
  | 0, ⟨j, hj, _⟩ => by omega
  | k + 1, ⟨j, hj, h⟩ => by
    by_cases e : key k = d
    · refine ⟨k, by omega, e, ?_, ?_⟩
      · rw [ixG_succ, e]
        exact has_put_same (ixG_map key k) (by exact trivial) _
      · rw [ixG_succ, e]
        exact atKey_put_same (ixG_map key k) (by exact trivial) _ _
    · have hjk : j < k := by
        rcases Nat.lt_or_ge j k with h5 | h5
        · exact h5
        · exfalso
          have e2 : j = k := by omega
          rw [e2] at h
          exact e h
      obtain ⟨i, h1, h2, h3, h4⟩ := ixG_at key d k ⟨j, hjk, h⟩
      refine ⟨i, by omega, h2, ?_, ?_⟩
      · rw [ixG_succ, has_put_other (str_ne fun e2 => e e2.symm)]
        exact h3
      · rw [ixG_succ, atKey_put_other (str_ne fun e2 => e e2.symm)]
        exact h4
/-- A text's digest, by its place. -/
def dgAt (bs : List ByteArray) (k : Nat) : List UInt8 := (smD (bs.getD k ⟨#[]⟩)).data.toList
theorem dgAt_eq (bs : List ByteArray) (k : Nat) (h : k < bs.length) : dgAt bs k = (smD bs[k]).data.toList := by
  unfold dgAt
  rw [List.getD_eq_getElem?_getD, List.getElem?_eq_getElem h, Option.getD_some]
def ixD (bs : List ByteArray) (k : Nat) : DataW Unit := ixG (dgAt bs) k
theorem bytes_ext {a b : ByteArray} (h : a.data.toList = b.data.toList) : a = b := by
  obtain ⟨x⟩ := a
  obtain ⟨y⟩ := b
  exact congrArg ByteArray.mk (Array.toList_inj.1 h)
theorem finds_of {bs : List ByteArray} {t : ByteArray} (ht : t ∈ bs) (hc : ∀ b ∈ bs, smD b = smD t → b = t) : Finds bs (ixD bs bs.length) t := by
  obtain ⟨j, hj, rfl⟩ := List.getElem_of_mem ht
  obtain ⟨i, h1, h2, h3, h4⟩ := ixG_at (dgAt bs) (smD bs[j]).data.toList bs.length ⟨j, hj, dgAt_eq bs j hj⟩
  rw [dgAt_eq bs i h1] at h2
  exact ⟨i, h1, hc _ (List.getElem_mem h1) (bytes_ext h2), h3, h4⟩

/-- How a new walk begins. -/
def NwP (ba : Option Addr) (bc : Nat) (bs : List ByteArray) (w : World) (e : Ending) (w' : World) : Prop := ∃ P M, e = .returned (.pointer (some ⟨P, 0, none⟩)) ∧ WS w.heap.size P M (ixD bs bs.length) ba bc bs [] (.slice none 0 0) w' ∧ Below w.heap.size w w'
def IsTxs (w : World) (ba : Option Addr) (bs : List ByteArray) : Prop := bs = [] ∨ ∃ g o, ba = some ⟨g, o, none⟩ ∧ g < w.heap.size ∧ ∀ j (hj : j < bs.length), w.cell? ⟨g, o + j, none⟩ = some (.string bs[j])
theorem IsTxs.below {B : Nat} {ba : Option Addr} {bs : List ByteArray} {w w' : World} (h : IsTxs w ba bs) (hb : Below B w w') (hB : w.heap.size ≤ B) : IsTxs w' ba bs := by
  rcases h with h | ⟨g, o, h1, h2, h3⟩
  · exact .inl h
  · exact .inr ⟨g, o, h1, Nat.lt_of_lt_of_le h2 hb.size, fun j hj => (hb.cell (p := ⟨g, o + j, none⟩) (by show g < _; omega)).trans (h3 j hj)⟩

set_option maxHeartbeats 4000000 in
set_option maxRecDepth 100000 in
theorem newWalk_any (ba : Option Addr) (bc : Nat) (bs : List ByteArray) (w : World) (hn : bs.length ≤ 1000000) (ht : IsTxs w ba bs) (hs : ∀ b ∈ bs, b.size ≤ 100000) (he : Env w) :
    Calls Tryz.prog 33 #[.slice ba bs.length bc] w (NwP ba bc bs w) := by
  have HT : Hid (IsTxs w ba bs) := ht
  have HS : Hid (∀ b ∈ bs, b.size ≤ 100000) := hs
  have HE : Hid (Env w) := he
  have hn1 : (bs.length : Int) ≤ 1000000 := by omega
  have hmm := makeMap_n Tryz.underlying63
  clear ht hs he
  go_enter Tryz.func33, Tryz.ntmps33
  go_wp2
  go_loopw [14] (fun i wr => ∃ k : Nat, k ≤ bs.length ∧ i = .int .i64 k ∧ wr.heap[w.heap.size + 1]? = some (.cells #[.slice ba bs.length bc, .map (some w.heap.size), .slice none 0 0] 65 (0, 0)) ∧ wr.ownsMap Tryz.prog 9 (plainElem Tryz.prog 3) w.heap.size k (ixD bs k) ∧ Below w.heap.size w wr) (fun i _ => bs.length - (intOf i).toNat)
  case atStart =>
    refine ⟨0, by omega, rfl, ?_, (World.ownsMap_made _ _ _ _).alloc _, ((Below.refl _ _).alloc (Nat.le_refl _) _).alloc (by rw [World.size_alloc]; omega) _⟩
    have := heap_alloc_new (w.alloc (.map #[] 0)) (.cells #[.slice ba bs.length bc, .map (some w.heap.size), .slice none 0 0] 65)
    rw [World.size_alloc] at this
    exact this
  case round =>
    obtain ⟨k, hk, rfl, hblk, hown, hb⟩ := hrel
    have HB : Hid (Below w.heap.size w wr) := hb
    have HK : Hid (wr.heap[w.heap.size + 1]? = some (.cells #[.slice ba bs.length bc, .map (some w.heap.size), .slice none 0 0] 65 (0, 0))) := hblk
    have HO : Hid (wr.ownsMap Tryz.prog 9 (plainElem (H := Unit) Tryz.prog 3) w.heap.size k (ixD bs k)) := hown
    have c1 : wr.cell? ⟨w.heap.size + 1, 1, none⟩ = some (.map (some w.heap.size)) := by rw [Lib.cell_of_heap hblk]; rfl
    have hwl : w.heap.size + 1 < wr.heap.size := (Array.getElem?_eq_some_iff.1 hblk).1
    by_cases hlt : k < bs.length
    · have HTB := HT.out.below hb (Nat.le_refl _)
      rcases HTB with h | ⟨g, o, rfl, hg, hc⟩
      · exfalso; rw [h] at hlt; exact absurd hlt (by simp)
      have c0 := hc k hlt
      have hsz := HS.out _ (List.getElem_mem hlt)
      have HX : Hid (ixD bs (k + 1) = (ixD bs k).put (.string (smD bs[k]).data.toList) (.lit (.int .i64 (k : Int)))) := by
        show _ = _
        unfold ixD
        rw [ixG_succ, dgAt_eq bs k hlt]
      have HSu : Hid (∀ W, Below wr.heap.size wr W → Calls Tryz.prog 29 #[.string bs[k]] W fun e w' => e = .returned (.string (smD bs[k])) ∧ Below W.heap.size W w') := fun W hW => Sm_any _ W (by omega) ((HE.out.up hb).up hW)
      have HPut : Hid (∀ W, Below wr.heap.size wr W → ∃ W2, (Instr.mapUpdate 63 (.map (some w.heap.size)) (.string (smD bs[k])) (.int .i64 (k : Int))).run Tryz.prog W = .ok () W2 ∧ W2.cell? ⟨w.heap.size + 1, 1, none⟩ = some (.map (some w.heap.size)) ∧ Hid (W2.heap[w.heap.size + 1]? = some (.cells #[.slice (some ⟨g, o, none⟩) bs.length bc, .map (some w.heap.size), .slice none 0 0] 65 (0, 0)) ∧ W2.ownsMap Tryz.prog 9 (plainElem (H := Unit) Tryz.prog 3) w.heap.size (k + 1) (ixD bs (k + 1)) ∧ Below w.heap.size w W2)) := fun W hW => by
        have ho : W.ownsMap Tryz.prog 9 (plainElem (H := Unit) Tryz.prog 3) w.heap.size k (ixD bs k) := ownsMap_heap HO.out (hW.block _ (by omega))
        obtain ⟨W2, r1, r2, r3⟩ := ho.store lawS Tryz.underlying63 (by unfold maxLen; omega) (keyOf_string_mk Tryz.underlying9 (s := smD bs[k]) (by rw [smD_size]; decide)) (plainElem_int (H := Unit) Tryz.underlying3 (a := (k : Int)) (WalkArith.wf_i64 (by omega)))
        have hWB : Below w.heap.size w W := HB.out.trans (hW.mono (by omega))
        have hblk2 : W2.heap[w.heap.size + 1]? = some (.cells #[.slice (some ⟨g, o, none⟩) bs.length bc, .map (some w.heap.size), .slice none 0 0] 65 (0, 0)) := ((r3.grown.block _ (by have := hW.size; omega) (by simp)).trans (hW.block _ hwl)).trans HK.out
        exact ⟨W2, r1, by rw [Lib.cell_of_heap hblk2]; rfl, hblk2, by rw [HX.out]; exact r2, hWB.grown r3.grown hWB.size (fun j hj => by injection hj with hj; omega)⟩
      clear hc hb hblk hown
      generalize bs[k] = tx at *
      go_wp2_with fail
      go_region_held3 (fun w' => w'.cell? ⟨w.heap.size + 1, 1, none⟩ = some (.map (some w.heap.size)))
        (first | assumption | (exact s1) | (simp [go_sem, *]; done) | (rw [hb3.cell (p := ⟨w.heap.size + 1, 1, none⟩) (by assumption)]; assumption))
        (first
          | (go_at_call 29; refine (HSu.out _ (Below.refl _ _).drew).mono ?_; rintro e w3 ⟨rfl, hb3⟩; obtain ⟨w4, hmu, s1, HX4⟩ := HPut.out w3 ((Below.refl wr.heap.size wr).drew.trans hb3))
          | fail)
      go_wp2
      exact ⟨⟨k + 1, by omega, by go_num, HX4.out⟩, by simp [intOf]; omega⟩
    · obtain rfl : k = bs.length := by omega
      have hki : ¬ (bs.length : Int) < (bs.length : Int) := by omega
      have HEnd : Hid (WS w.heap.size (w.heap.size + 1) w.heap.size (ixD bs bs.length) ba bc bs [] (.slice none 0 0) wr ∧ Below w.heap.size w wr) := by
        refine ⟨⟨hblk, hown, ?_, World.ownsRow_nil _ _ _ _, by omega, by simp [Value.ownBlock], by simp [Value.ownBlock], by omega, Nat.le_refl _⟩, hb⟩
        rcases HT.out with h | ⟨g, o, h1, h2, h3⟩
        · exact .inl h
        · exact .inr ⟨g, o, h1, h2, fun j hj => (hb.cell (p := ⟨g, o + j, none⟩) h2).trans (h3 j hj)⟩
      clear hblk hown hb
      go_wp2
      go_ret
      exact ⟨_, _, rfl, HEnd.out⟩
end Go.Proofs.YtkmlooepakinfaaGreatDoor

/- Flat: of a tree's texts. -/
namespace Go.Proofs.YtkmlooepakinfaaGreatDoor
open Go.RowKit Go.Shelf Go.Maps Go.WideMaps Go.Sort Go.Lib
attribute [local go_sem ↓] appS_eq

set_option maxHeartbeats 2000000 in
set_option maxRecDepth 100000 in
theorem comparePaths_w (a b : Fl) (w : World) :
    Calls Tryz.prog 27 #[.agg #[.string a.pa, .string a.tx, .bool a.rn], .agg #[.string b.pa, .string b.tx, .bool b.rn]] w fun e w' => e = .returned (.int .i64 (cmpB a.pa b.pa)) ∧ w' = (w.alloc (.cells #[.string a.pa, .string a.tx, .bool a.rn] 25)).alloc (.cells #[.string b.pa, .string b.tx, .bool b.rn] 25) := by
  obtain ⟨p, t, r⟩ := a
  obtain ⟨p2, t2, r2⟩ := b
  have HC : Hid (∀ W, Calls Tryz.prog 46 #[.string p, .string p2] W fun e w' => e = .returned (.int .i64 (cmpB p p2)) ∧ w' = W) := Compare_s p p2
  simp only
  generalize cmpB p p2 = r9 at *
  go_enter Tryz.func27, Tryz.ntmps27
  go_wp2_with (first | (go_at_call 46; refine (HC.out _).mono ?_; rintro e w1 ⟨rfl, hw⟩; subst w1) | go_in)
  go_ret
  exact ⟨rfl, rfl⟩

def encT (x : ByteArray × ByteArray × Bool) : List Value := [.string x.1, .string x.2.1, .bool x.2.2]
def tri (f : Fl) : ByteArray × ByteArray × Bool := (f.pa, f.tx, f.rn)
def ofT (x : ByteArray × ByteArray × Bool) : Fl := ⟨x.1, x.2.1, x.2.2⟩
theorem flT (F : List Fl) : flCells F = (F.map tri).flatMap encT := by
  unfold flCells
  rw [List.flatMap_map]
  rfl
theorem encT_one (x : ByteArray × ByteArray × Bool) : ∀ v ∈ encT x, v.oneCell' = true := by
  intro v hv
  simp [encT] at hv
  rcases hv with rfl | rfl | rfl <;> rfl
theorem ltT (x y : ByteArray × ByteArray × Bool) : ltOf (fun x y : ByteArray × ByteArray × Bool => cmpB x.1 y.1) x y = decide (x.1.data.toList < y.1.data.toList) := cmpB_neg x.1 y.1
theorem swoT : SWO (ltOf fun x y : ByteArray × ByteArray × Bool => cmpB x.1 y.1) where
  irrefl x := by rw [ltT]; simp [List.lt_irrefl]
  trans x y z h1 h2 := by
    rw [ltT, decide_eq_true_eq] at *
    exact List.lt_trans h1 h2
  ntrans x y z h1 h2 := by
    rw [ltT, decide_eq_false_iff_not] at *
    exact fun h3 => h2 (by
      rcases Decidable.em (y.1.data.toList < z.1.data.toList) with h | h
      · exact h
      · exfalso
        exact h1 (by
          rcases Decidable.em (x.1.data.toList < y.1.data.toList) with h4 | h4
          · exact h4
          · exact absurd h3 (List.not_lt.2 (List.le_trans (List.not_lt.1 h) (List.not_lt.1 h4)))))
theorem sort_files_uniq {L d : List Fl} (hL : L.Pairwise fun f g => pth f < pth g) (hp : d.Perm L) (hs : d.Pairwise fun f g => pth f ≤ pth g) : d = L := by
  refine List.Perm.eq_of_pairwise (le := fun f g => pth f ≤ pth g) (fun a b ha hb h1 h2 => ?_) hs (hL.imp fun h => List.le_of_lt h) hp
  have e := List.le_antisymm h1 h2
  obtain ⟨i, hi, rfl⟩ := List.getElem_of_mem (hp.mem_iff.1 ha)
  obtain ⟨j, hj, rfl⟩ := List.getElem_of_mem hb
  have hq := List.pairwise_iff_getElem.1 hL
  rcases Nat.lt_trichotomy i j with hij | hij | hij
  · have := hq i j hi hj hij; rw [e] at this; exact absurd this (List.lt_irrefl _)
  · subst hij; rfl
  · have := hq j i hj hi hij; rw [e] at this; exact absurd this (List.lt_irrefl _)

/-- Files that are a tree's, sorted, are as they were. -/
theorem sortFiles {B : Nat} {F L : List Fl} {v : Value} {w : World} (h : w.ownsRow B 25 3 v F.length (flCells F)) (hL : L.Pairwise fun f g => pth f < pth g) (hp : F.Perm L) (hl : F.length ≤ 1000000) :
    Calls Tryz.prog 35 #[v, .func (.func 27) #[] #[]] w fun e w' => e = .returned (.tuple #[]) ∧ w'.ownsRow B 25 3 v L.length (flCells L) ∧ w.grownBy w' v.ownBlock := by
  have hh := h
  rcases h.2 with ⟨rfl, h0⟩ | ⟨g, cap, cur, rfl, hbase, hb, _⟩
  · have e : F = [] := List.length_eq_zero_iff.1 h0
    subst e
    have e2 : L = [] := List.Perm.eq_nil hp.symm
    subst e2
    refine (sortFF_none none 0 _ w).mono ?_
    rintro e w' ⟨rfl, rfl⟩
    exact ⟨rfl, hh, ⟨rfl, rfl, rfl, Nat.le_refl _, fun _ _ _ => rfl⟩⟩
  · rw [flT] at hh
    have hlen : F.length = (F.map tri).length := by simp
    have hH : HoldsK encT 3 w g 0 (F.map tri).toArray := holdsK_row encT (fun x => .string x.1) (fun x => .string x.2.1) (fun x => .bool x.2.2) (fun _ => rfl) (F.map tri) hlen hh
    have hc : CmpLays Tryz.prog 27 #[] encT 3 (fun x y : ByteArray × ByteArray × Bool => cmpB x.1 y.1) g 0 (F.map tri).toArray.size w := fun m os dk _ x y => by
      refine (comparePaths_w (ofT x) (ofT y) _).mono ?_
      rintro e w' ⟨rfl, rfl⟩
      exact ⟨rfl, 0, _, by rw [alloc_eq_grow, alloc_eq_grow, grow_grow]; rfl⟩
    have := sortFF_any encT (fun _ => rfl) encT_one (fun x y : ByteArray × ByteArray × Bool => cmpB x.1 y.1) swoT 27 #[] g 0 cap (F.map tri).toArray w (enters_of Tryz.func27 (by kernel_rfl) rfl) hc hH (Array.getElem?_eq_some_iff.1 hb).1 (by simp; omega)
    rw [show (F.map tri).toArray.size = F.length from by simp] at this
    refine this.mono ?_
    rintro e w' ⟨rfl, d', m, os, hpp, hs, rfl⟩
    have e1 : d'.size = F.length := by rw [hpp.1]; simp
    have hp2 : d'.toList.Perm (F.map tri) := by
      have := hpp.2.2
      have e2 : List.take F.length d'.toList = d'.toList := List.take_of_length_le (by rw [Array.length_toList]; omega)
      have e3 : List.take F.length (F.map tri) = F.map tri := List.take_of_length_le (by simp)
      simpa [hpp.1, e2, e3] using this
    have hs2 : (d'.toList.map ofT).Pairwise fun a b => pth a ≤ pth b := by
      rw [List.pairwise_map, List.pairwise_iff_getElem]
      intro i j hi hj hij
      have hi' : i < d'.size := by simpa using hi
      have hj' : j < d'.size := by simpa using hj
      have h1 := hs i j (Nat.zero_le _) hij (by omega)
      rw [ltT, decide_eq_false_iff_not, getElem!_pos d' i hi', getElem!_pos d' j hj'] at h1
      show d'.toList[i].1.data.toList ≤ d'.toList[j].1.data.toList
      rw [Array.getElem_toList, Array.getElem_toList]
      exact List.not_lt.1 h1
    have hot : ∀ l : List Fl, (l.map tri).map ofT = l := fun l => by rw [List.map_map]; exact List.map_id' l
    have hto : ∀ l : List (ByteArray × ByteArray × Bool), (l.map ofT).map tri = l := fun l => by rw [List.map_map]; exact List.map_id' l
    have e : d'.toList.map ofT = L := sort_files_uniq hL (by
      have := hp2.map ofT
      rw [hot] at this
      exact this.trans hp) hs2
    have e4 : d'.toList = L.map tri := by rw [← e, hto]
    have hput := rowK_put (m := m) (os := os) encT (fun x => .string x.1) (fun x => .string x.2.1) (fun x => .bool x.2.2) (fun _ => rfl) (F.map tri) (L.map tri) hlen (by simp [hp.length_eq]) hh
    rw [← e4, Array.toArray_toList] at hput
    refine ⟨rfl, ?_, hput.2⟩
    rw [flT, ← hp.length_eq, ← e4]
    exact hput.1

set_option maxHeartbeats 2000000 in
set_option maxRecDepth 100000 in
theorem idxL_any (ao : Option Addr) (cap : Nat) (bs : List ByteArray) (w : World) (hn : bs.length ≤ 4611686018427387904) (hl : IsTxs w ao bs) :
    Calls Tryz.prog 58 #[.slice ao bs.length cap, .func (.func 31) #[] #[]] w (IdxP (bs.any fun b => decide (100000 < b.size)) w) := by
  have HL : Hid (IsTxs w ao bs) := hl
  have hn1 : (bs.length : Int) ≤ 4611686018427387904 := by omega
  clear hl
  go_enter Tryz.func58, Tryz.ntmps58
  go_wp2
  go_loopw [8] (fun i wr => ∃ k : Nat, k ≤ bs.length ∧ i = .int .i64 k ∧ (∀ j, (hj : j < bs.length) → j < k → ¬ 100000 < bs[j].size) ∧ wr = w) (fun i _ => bs.length - (intOf i).toNat)
  case atStart => exact ⟨0, by omega, rfl, by omega, rfl⟩
  case round =>
    obtain ⟨k, hk, rfl, hlo, rfl⟩ := hrel
    have HN : Hid (∀ j, (hj : j < bs.length) → j < k → ¬ 100000 < bs[j].size) := hlo
    clear hlo
    by_cases hlt : k < bs.length
    · rcases HL.out with h | ⟨g, o, rfl, hg, hc⟩
      · exfalso; rw [h] at hlt; exact absurd hlt (by simp)
      have c0 := hc k hlt
      have HP : Hid (100000 < bs[k].size → (bs.any fun b => decide (100000 < b.size)) = true) := fun h => List.any_eq_true.2 ⟨bs[k], List.getElem_mem hlt, decide_eq_true h⟩
      generalize hx : bs[k] = x at c0 HP
      have HX : Hid (bs[k] = x) := hx
      have HT : Hid (∀ W, Calls Tryz.prog 31 #[.string x] W fun e w' => e = .returned (.bool (decide (100000 < x.size))) ∧ w' = W) := tisTooLong_any x
      clear hx hc
      by_cases hb : 100000 < x.size
      · have HB : Hid (100000 < x.size) := hb
        rw [decide_eq_true hb] at HT
        clear hb
        go_wp2_with (first | (go_at_call 31; refine (HT.out _).mono ?_; rintro e w1 ⟨rfl, rfl⟩) | go_in)
        go_ret
        refine ⟨k, rfl, ?_, Below.refl _ _⟩
        rw [HP.out HB.out]
        simp
      · have HB : Hid (¬ 100000 < x.size) := hb
        rw [decide_eq_false hb] at HT
        clear hb
        go_wp2_with (first | (go_at_call 31; refine (HT.out _).mono ?_; rintro e w1 ⟨rfl, rfl⟩) | go_in)
        refine ⟨⟨k + 1, by omega, by go_num, fun j hj hjk => ?_, trivial⟩, by simp [intOf]; omega⟩
        by_cases h : j < k
        · exact HN.out j hj h
        · obtain rfl : j = k := by omega
          rw [HX.out]
          exact HB.out
    · have hki : ¬ (k : Int) < (bs.length : Int) := by omega
      go_wp2
      go_ret
      refine ⟨-1, rfl, ?_, Below.refl _ _⟩
      rw [show (bs.any fun b => decide (100000 < b.size)) = false from List.any_eq_false.2 fun b hb => by
        obtain ⟨j, hj, rfl⟩ := List.getElem_of_mem hb
        simpa using HN.out j hj (by omega)]
      rfl
set_option maxHeartbeats 2000000 in
set_option maxRecDepth 100000 in
theorem cfL_any (ao : Option Addr) (cap : Nat) (bs : List ByteArray) (w : World) (hn : bs.length ≤ 4611686018427387904) (hl : IsTxs w ao bs) :
    Calls Tryz.prog 30 #[.slice ao bs.length cap, .func (.func 31) #[] #[]] w fun e w' => e = .returned (.bool (bs.any fun b => decide (100000 < b.size))) ∧ Below w.heap.size w w' := by
  have HI : Hid (Calls Tryz.prog 58 #[.slice ao bs.length cap, .func (.func 31) #[] #[]] w (IdxP (bs.any fun b => decide (100000 < b.size)) w)) := idxL_any ao cap bs w hn hl
  clear hl
  generalize (bs.any fun b => decide (100000 < b.size)) = b at *
  generalize bs.length = ln at *
  go_enter Tryz.func30, Tryz.ntmps30
  go_wp2_with fail
  refine HI.out.mono ?_
  rintro e w1 ⟨r, rfl, hr, hb1⟩
  have HB1 : Hid (Below w.heap.size w w1) := hb1
  have HR : Hid (decide (0 ≤ r) = b) := hr
  clear hb1 hr
  go_wp2
  go_ret
  exact ⟨by rw [← HR.out]; rfl, HB1.out⟩
end Go.Proofs.YtkmlooepakinfaaGreatDoor

/- Flat, of a tree's texts, whatever others there are; what a text of a tree is. -/
namespace Go.Proofs.YtkmlooepakinfaaGreatDoor
open Go.RowKit Go.Shelf Go.Maps Go.WideMaps Go.Sort Go.Lib

/-- How flattening ends: as the tree was. -/
def FtP (L : List Fl) (w : World) (e : Ending) (w' : World) : Prop := ∃ v, e = .returned (.tuple #[v, .int .i64 0]) ∧ w'.ownsRow w.heap.size 25 3 v L.length (flCells L) ∧ Below w.heap.size w w'

set_option maxHeartbeats 4000000 in
set_option maxRecDepth 100000 in
theorem Flat_ok (L : List Fl) (ba : Option Addr) (bc : Nat) (bs : List ByteArray) (w : World) (hok : okT L) (hn : bs.length ≤ 2000) (ht : IsTxs w ba bs) (hs : ∀ b ∈ bs, b.size ≤ 100000) (he : Env w) (hin : ∀ t ∈ (pkT1 L).2, t ∈ bs) (hcl : ∀ t ∈ (pkT1 L).2, ∀ b ∈ bs, smD b = smD t → b = t) :
    Calls Tryz.prog 15 #[.string (smD (pkT1 L).1), .slice ba bs.length bc] w (FtP L w) := by
  have hany : (bs.any fun b => decide (100000 < b.size)) = false := List.any_eq_false.2 fun b hb => by have := hs b hb; simp; omega
  have hC := cfL_any ba bc bs w (by omega) ht
  rw [hany] at hC
  have HC : Hid (Calls Tryz.prog 30 #[.slice ba bs.length bc, .func (.func 31) #[] #[]] w fun e w' => e = .returned (.bool false) ∧ Below w.heap.size w w') := hC
  have HI : Hid (∀ W, Calls Tryz.prog 32 #[.string (smD (pkT1 L).1)] W fun e w' => e = .returned (.bool true) ∧ w' = W) := fun W => by
    have := Is_any (smD (pkT1 L).1) W
    rw [smD_dig] at this
    exact this
  have HW : Hid (∀ W, Below w.heap.size w W → Calls Tryz.prog 33 #[.slice ba bs.length bc] W (NwP ba bc bs W)) := fun W hW => newWalk_any ba bc bs W (by omega) (ht.below hW (Nat.le_refl _)) hs (he.up hW)
  have HO : Hid (∀ B P M W, WS B P M (ixD bs bs.length) ba bc bs [] (.slice none 0 0) W → Calls Tryz.prog 34 #[.pointer (some ⟨P, 0, none⟩), .string (smD (pkT1 L).1)] W (StP B P M (ixD bs bs.length) ba bc bs [] (.slice none 0 0) W L)) := fun B P M W hW => whole_ok L hok hW (by have := hok.1; simpa using this) fun t h => finds_of (hin t h) (hcl t h)
  have hn2 : (bs.length : Int) ≤ 2000 := by omega
  have HK : Hid (okT L) := hok
  clear hany hC ht hs he hin hcl hok
  generalize smD (pkT1 L).1 = rt at *
  go_enter Tryz.func15, Tryz.ntmps15
  go_wp2_with fail
  refine HC.out.mono ?_
  rintro e w1 ⟨rfl, hb1⟩
  go_wp2_with fail
  refine (HI.out _).mono ?_
  rintro e wb ⟨rfl, rfl⟩
  go_wp2_with fail
  refine (HW.out _ hb1).mono ?_
  rintro e w2 ⟨P, M, rfl, hws, hb2⟩
  have HB2 : Hid (Below w.heap.size w w2) := hb1.trans (hb2.mono hb1.size)
  have HO2 : Hid (Calls Tryz.prog 34 #[.pointer (some ⟨P, 0, none⟩), .string rt] w2 (StP wb.heap.size P M (ixD bs bs.length) ba bc bs [] (.slice none 0 0) w2 L)) := HO.out _ _ _ _ hws
  have hsz := hb1.size
  clear hws hb1 hb2 HW HC HI HO
  go_wp2_with fail
  refine HO2.out.mono ?_
  rintro e w3 ⟨fv, Y, rfl, hY, hws, hfr⟩
  rw [List.nil_append] at hws
  have c2 := hws.c2
  have HB3 : Hid (Below w.heap.size w w3) := by
    have h0 := HB2.out
    refine ⟨hfr.os.trans h0.os, hfr.tape.trans h0.tape, hfr.output.trans h0.output, Nat.le_trans h0.size hfr.size, fun b hb => ?_⟩
    refine (hfr.blk b (Nat.lt_of_lt_of_le hb h0.size) (fun e => ?_) (by simp [Value.ownBlock])).trans (h0.block b hb)
    have := hws.loP
    omega
  have HS : Hid (Calls Tryz.prog 35 #[fv, .func (.func 27) #[] #[]] w3 fun e w' => e = .returned (.tuple #[]) ∧ w'.ownsRow wb.heap.size 25 3 fv L.length (flCells L) ∧ w3.grownBy w' fv.ownBlock) :=
    sortFiles hws.files (HK.out.2.2.imp fun hh => hh.1) hY (by have := hY.length_eq; have := HK.out.1; omega)
  have HWS : Hid (WS wb.heap.size P M (ixD bs bs.length) ba bc bs Y fv w3) := hws
  clear hY hws hfr HO2
  go_wp2_with fail
  refine HS.out.mono ?_
  rintro e w4 ⟨rfl, hrow, hg⟩
  have d2 : w4.cell? ⟨P, 2, none⟩ = some fv := (World.cell?_of_block (w := w3) (a := ⟨P, 2, none⟩) (hg.block P HWS.out.lt (fun e => HWS.out.fP e.symm))).trans c2
  have HF : Hid (w4.ownsRow w.heap.size 25 3 fv L.length (flCells L) ∧ Below w.heap.size w w4) := ⟨own_mono hrow hsz, HB3.out.grown hg HB3.out.size fun k hk => Nat.le_trans hsz (HWS.out.files.lt k hk).1⟩
  clear hrow hg HS c2
  go_wp2
  refine bodyPost_ret (v := .tuple #[fv, .int .i64 0]) (by simp [results, Tryz.results15, go_sem]) rfl ?_
  exact ⟨fv, rfl, HF.out⟩
end Go.Proofs.YtkmlooepakinfaaGreatDoor

/- The sums of three texts (laid by wip/src/mksh.py). -/
namespace Go.Proofs.YtkmlooepakinfaaGreatDoor
open Go.RowKit

theorem mix_of (q : S8) (B : ByteArray) (W : List Int) (r : S8) (hl : W.length = 64) (hok : ((List.range 64).all fun i => wnext B (W.take i) i == W.getD i 0) = true) (h : (⟨(q.a + (goF (cuL.zip W) q).a) % 4294967296, (q.b + (goF (cuL.zip W) q).b) % 4294967296, (q.c + (goF (cuL.zip W) q).c) % 4294967296, (q.d + (goF (cuL.zip W) q).d) % 4294967296, (q.e + (goF (cuL.zip W) q).e) % 4294967296, (q.f + (goF (cuL.zip W) q).f) % 4294967296, (q.g + (goF (cuL.zip W) q).g) % 4294967296, (q.h + (goF (cuL.zip W) q).h) % 4294967296⟩ : S8) = r) : mixS q B cuL = r := by
  have hw : ws B 64 = W := by
    have h1 := ws_of B W 64 (by omega) fun i hi => by simpa using List.all_eq_true.1 hok i (List.mem_range.2 hi)
    rw [h1, List.take_of_length_le (by omega)]
  have hr : rounds8 W cuL 64 q = goF (cuL.zip W) q := by
    rw [rounds8_fold _ _ _ _ (by omega) (by rw [cuL_len]; decide), List.take_of_length_le (by rw [List.length_zip, hl, cuL_len]; decide), ← goF_eq]
  unfold mixS
  rw [hw, hr]
  exact h

def sxT : ByteArray := ⟨#[120]⟩
def sx1B : ByteArray := ⟨#[120, 128, 0, 0, 0, 0, 0, 0, 0, 0, 0, 0, 0, 0, 0, 0, 0, 0, 0, 0, 0, 0, 0, 0, 0, 0, 0, 0, 0, 0, 0, 0, 0, 0, 0, 0, 0, 0, 0, 0, 0, 0, 0, 0, 0, 0, 0, 0, 0, 0, 0, 0, 0, 0, 0, 0, 0, 0, 0, 0, 0, 0, 0, 8]⟩
def sx1W : List Int := [2021654528, 0, 0, 0, 0, 0, 0, 0, 0, 0, 0, 0, 0, 0, 0, 8, 2021654528, 327680, 1971024, 536871234, 3418490760, 8475648, 1124568096, 4177534981, 931784704, 341448440, 3910008977, 359146923, 3236027942, 1500331568, 3723075617, 2150859516, 2969464858, 3203193819, 2344153889, 1621682451, 3793127511, 4094548217, 1965560327, 2113633090, 2029180404, 834715653, 3623783194, 2443265322, 1843327394, 2293781290, 211574689, 3698406187, 490561120, 3311074907, 853938067, 15903757, 3428712410, 150987924, 3880940780, 4238751076, 4017808925, 3462345068, 524655193, 3518015180, 1175202895, 200890185, 2650706160, 3779152477]
def sx1H : S8 := ⟨762385986, 3072766020, 23231657, 4222366453, 3360886705, 2419901659, 36013847, 2451196033⟩
theorem sx1_ok : ((List.range 64).all fun i => wnext sx1B (sx1W.take i) i == sx1W.getD i 0) = true := by kernel_rfl
theorem sx1_mix : mixS sq8 sx1B cuL = sx1H := mix_of sq8 sx1B sx1W sx1H (by kernel_rfl) sx1_ok (by kernel_rfl)
def sxD : ByteArray := ⟨#[50, 100, 55, 49, 49, 54, 52, 50, 98, 55, 50, 54, 98, 48, 52, 52, 48, 49, 54, 50, 55, 99, 97, 57, 102, 98, 97, 99, 51, 50, 102, 53, 99, 56, 53, 51, 48, 102, 98, 49, 57, 48, 51, 99, 99, 52, 100, 98, 48, 50, 50, 53, 56, 55, 49, 55, 57, 50, 49, 97, 52, 56, 56, 49]⟩
theorem sx_sum : sumB sxT sq8 cuL = sxD := by
  have e1 : sxT.size / 64 = 0 := by kernel_rfl
  have e2 : (tailOf sxT).size / 64 = 1 := by kernel_rfl
  have xsx1 : (tailOf sxT).extract (64 * 0) (64 * 0 + 64) = sx1B := by kernel_rfl
  have b0 : blocks sxT cuL sq8 0 = sq8 := by
    rfl
  have b1 : blocks (tailOf sxT) cuL sq8 1 = sx1H := by
    unfold blocks
    rw [xsx1]
    exact sx1_mix
  show (⟨(dgs (blocks (tailOf sxT) cuL (blocks sxT cuL sq8 (sxT.size / 64)) ((tailOf sxT).size / 64)).l).toArray⟩ : ByteArray) = sxD
  rw [e1, e2, b0, b1]
  show (⟨(dgs sx1H.l).toArray⟩ : ByteArray) = sxD
  kernel_rfl

def sbT : ByteArray := ⟨#[1, 1, 98, 1, 64, 50, 100, 55, 49, 49, 54, 52, 50, 98, 55, 50, 54, 98, 48, 52, 52, 48, 49, 54, 50, 55, 99, 97, 57, 102, 98, 97, 99, 51, 50, 102, 53, 99, 56, 53, 51, 48, 102, 98, 49, 57, 48, 51, 99, 99, 52, 100, 98, 48, 50, 50, 53, 56, 55, 49, 55, 57, 50, 49, 97, 52, 56, 56, 49]⟩
def sb1B : ByteArray := ⟨#[1, 1, 98, 1, 64, 50, 100, 55, 49, 49, 54, 52, 50, 98, 55, 50, 54, 98, 48, 52, 52, 48, 49, 54, 50, 55, 99, 97, 57, 102, 98, 97, 99, 51, 50, 102, 53, 99, 56, 53, 51, 48, 102, 98, 49, 57, 48, 51, 99, 99, 52, 100, 98, 48, 50, 50, 53, 56, 55, 49, 55, 57, 50, 49]⟩
def sb1W : List Int := [16867841, 1077044279, 825308724, 845297458, 912404532, 875573558, 842490721, 963011169, 1664299622, 895694901, 858809954, 825831475, 1667445860, 1647325746, 892876593, 926495281, 1399096494, 1451198134, 623161206, 2886433189, 3247631563, 1513134056, 4077117603, 4062456430, 3908562019, 3328636627, 386739405, 2718029692, 1436398886, 2410582992, 3145990811, 868526431, 583688567, 4064843820, 3295961435, 2505845818, 201420197, 1260548262, 2338923373, 2904266935, 2486113742, 507426809, 2915040799, 1717076287, 3049660185, 2354767803, 3341486518, 1765699754, 2290895305, 1303601763, 1163678055, 964844409, 348523182, 4224445108, 1434729713, 146279551, 3621537229, 1085849592, 3824515151, 1699132669, 2753955029, 635304769, 1486597638, 340749099]
def sb1H : S8 := ⟨3636586827, 4063557508, 2594577271, 2682798449, 4238592339, 3890565741, 1482465807, 2433056932⟩
theorem sb1_ok : ((List.range 64).all fun i => wnext sb1B (sb1W.take i) i == sb1W.getD i 0) = true := by kernel_rfl
theorem sb1_mix : mixS sq8 sb1B cuL = sb1H := mix_of sq8 sb1B sb1W sb1H (by kernel_rfl) sb1_ok (by kernel_rfl)
def sb2B : ByteArray := ⟨#[97, 52, 56, 56, 49, 128, 0, 0, 0, 0, 0, 0, 0, 0, 0, 0, 0, 0, 0, 0, 0, 0, 0, 0, 0, 0, 0, 0, 0, 0, 0, 0, 0, 0, 0, 0, 0, 0, 0, 0, 0, 0, 0, 0, 0, 0, 0, 0, 0, 0, 0, 0, 0, 0, 0, 0, 0, 0, 0, 0, 0, 0, 2, 40]⟩
def sb2W : List Int := [1630812216, 830472192, 0, 0, 0, 0, 0, 0, 0, 0, 0, 0, 0, 0, 0, 552, 1736918168, 852557824, 1254547170, 2685184882, 3032472972, 3237938989, 358278503, 3402279993, 1626029759, 1315982713, 2560430617, 3821006961, 3966295878, 459868091, 2412076552, 4046550394, 18728978, 3658629580, 1731132269, 3992757944, 4114688231, 2387387853, 2040619408, 1339605921, 3220084464, 2482749261, 600860033, 686886929, 3991075520, 2523920633, 3090949541, 176910659, 1038566829, 1029622117, 542548737, 887908939, 3040883146, 1989018620, 514533596, 2728017772, 1431005960, 740534894, 2499333312, 2709176111, 70101761, 311701250, 382519666, 2129212325]
def sb2H : S8 := ⟨3636251484, 2886615582, 2766240801, 569608003, 167460413, 33901062, 250798081, 3361365004⟩
theorem sb2_ok : ((List.range 64).all fun i => wnext sb2B (sb2W.take i) i == sb2W.getD i 0) = true := by kernel_rfl
theorem sb2_mix : mixS sb1H sb2B cuL = sb2H := mix_of sb1H sb2B sb2W sb2H (by kernel_rfl) sb2_ok (by kernel_rfl)
def sbD : ByteArray := ⟨#[100, 56, 98, 99, 99, 98, 53, 99, 97, 99, 48, 101, 52, 50, 49, 101, 97, 52, 101, 49, 55, 99, 50, 49, 50, 49, 102, 51, 56, 55, 52, 51, 48, 57, 102, 98, 51, 101, 51, 100, 48, 50, 48, 53, 52, 97, 48, 54, 48, 101, 102, 50, 101, 48, 48, 49, 99, 56, 53, 97, 53, 99, 48, 99]⟩
theorem sb_sum : sumB sbT sq8 cuL = sbD := by
  have e1 : sbT.size / 64 = 1 := by kernel_rfl
  have e2 : (tailOf sbT).size / 64 = 1 := by kernel_rfl
  have xsb1 : (sbT).extract (64 * 0) (64 * 0 + 64) = sb1B := by kernel_rfl
  have xsb2 : (tailOf sbT).extract (64 * 0) (64 * 0 + 64) = sb2B := by kernel_rfl
  have b0 : blocks sbT cuL sq8 1 = sb1H := by
    unfold blocks
    rw [xsb1]
    exact sb1_mix
  have b1 : blocks (tailOf sbT) cuL sb1H 1 = sb2H := by
    unfold blocks
    rw [xsb2]
    exact sb2_mix
  show (⟨(dgs (blocks (tailOf sbT) cuL (blocks sbT cuL sq8 (sbT.size / 64)) ((tailOf sbT).size / 64)).l).toArray⟩ : ByteArray) = sbD
  rw [e1, e2, b0, b1]
  show (⟨(dgs sb2H.l).toArray⟩ : ByteArray) = sbD
  kernel_rfl

def saT : ByteArray := ⟨#[1, 1, 97, 3, 64, 100, 56, 98, 99, 99, 98, 53, 99, 97, 99, 48, 101, 52, 50, 49, 101, 97, 52, 101, 49, 55, 99, 50, 49, 50, 49, 102, 51, 56, 55, 52, 51, 48, 57, 102, 98, 51, 101, 51, 100, 48, 50, 48, 53, 52, 97, 48, 54, 48, 101, 102, 50, 101, 48, 48, 49, 99, 56, 53, 97, 53, 99, 48, 99]⟩
def sa1B : ByteArray := ⟨#[1, 1, 97, 3, 64, 100, 56, 98, 99, 99, 98, 53, 99, 97, 99, 48, 101, 52, 50, 49, 101, 97, 52, 101, 49, 55, 99, 50, 49, 50, 49, 102, 51, 56, 55, 52, 51, 48, 57, 102, 98, 51, 101, 51, 100, 48, 50, 48, 53, 52, 97, 48, 54, 48, 101, 102, 50, 101, 48, 48, 49, 99, 56, 53]⟩
def sa1W : List Int := [16867587, 1080309858, 1667457589, 1667326768, 1697919537, 1700869221, 825713458, 825373030, 859322164, 858798438, 1647535411, 1680880176, 892625200, 909141350, 845492272, 828586037, 886636544, 1540355650, 2617750932, 24514866, 1396978113, 487428243, 1199873071, 1144281583, 820364061, 719456612, 508361905, 2072606281, 134157181, 1036833660, 2226017297, 2635760883, 2999310994, 1690029402, 1311348866, 760401778, 3524483172, 1368143792, 1813957442, 3773740631, 2714016827, 1706957737, 3915842791, 1518673489, 2273159237, 2105064724, 474888564, 3450907840, 1059072890, 4251441457, 196656757, 3528559064, 92918, 2672416797, 4030671865, 1001358042, 3900908907, 3061276716, 2689415086, 2830436603, 1810043210, 4176269674, 4122051652, 2719921531]
def sa1H : S8 := ⟨3273503112, 1168772759, 2130173675, 3688719627, 2842344253, 3028729528, 2692299053, 3972283351⟩
theorem sa1_ok : ((List.range 64).all fun i => wnext sa1B (sa1W.take i) i == sa1W.getD i 0) = true := by kernel_rfl
theorem sa1_mix : mixS sq8 sa1B cuL = sa1H := mix_of sq8 sa1B sa1W sa1H (by kernel_rfl) sa1_ok (by kernel_rfl)
def sa2B : ByteArray := ⟨#[97, 53, 99, 48, 99, 128, 0, 0, 0, 0, 0, 0, 0, 0, 0, 0, 0, 0, 0, 0, 0, 0, 0, 0, 0, 0, 0, 0, 0, 0, 0, 0, 0, 0, 0, 0, 0, 0, 0, 0, 0, 0, 0, 0, 0, 0, 0, 0, 0, 0, 0, 0, 0, 0, 0, 0, 0, 0, 0, 0, 0, 0, 2, 40]⟩
def sa2W : List Int := [1630888752, 1669332992, 0, 0, 0, 0, 0, 0, 0, 0, 0, 0, 0, 0, 0, 552, 1844214800, 1691418624, 2979086420, 2685995698, 2282531498, 2754019917, 3223459925, 3476220775, 3017887891, 3665695513, 579887754, 1407579294, 3779326799, 82457416, 2813544477, 1175443232, 1642247770, 2282434987, 1197798551, 4007322572, 3240048537, 2937068970, 4024654412, 2745199737, 2927484403, 1714665887, 3000264031, 1076101447, 1791180375, 1931949353, 30773845, 2250514220, 3455211521, 3799611517, 733113271, 3538918955, 4106522945, 1081765585, 1290442005, 1915029181, 2241877385, 1709476929, 753776158, 2024977659, 2865662388, 2612732731, 1472526080, 2378605027]
def sa2H : S8 := ⟨108285545, 4021650928, 637779520, 2676746045, 641017731, 796157738, 932929102, 2129732299⟩
theorem sa2_ok : ((List.range 64).all fun i => wnext sa2B (sa2W.take i) i == sa2W.getD i 0) = true := by kernel_rfl
theorem sa2_mix : mixS sa1H sa2B cuL = sa2H := mix_of sa1H sa2B sa2W sa2H (by kernel_rfl) sa2_ok (by kernel_rfl)
def saD : ByteArray := ⟨#[48, 54, 55, 52, 52, 101, 54, 57, 101, 102, 98, 53, 56, 53, 102, 48, 50, 54, 48, 51, 98, 101, 52, 48, 57, 102, 56, 98, 101, 55, 51, 100, 50, 54, 51, 53, 50, 55, 56, 51, 50, 102, 55, 52, 54, 55, 50, 97, 51, 55, 57, 98, 53, 101, 52, 101, 55, 101, 102, 49, 50, 50, 99, 98]⟩
theorem sa_sum : sumB saT sq8 cuL = saD := by
  have e1 : saT.size / 64 = 1 := by kernel_rfl
  have e2 : (tailOf saT).size / 64 = 1 := by kernel_rfl
  have xsa1 : (saT).extract (64 * 0) (64 * 0 + 64) = sa1B := by kernel_rfl
  have xsa2 : (tailOf saT).extract (64 * 0) (64 * 0 + 64) = sa2B := by kernel_rfl
  have b0 : blocks saT cuL sq8 1 = sa1H := by
    unfold blocks
    rw [xsa1]
    exact sa1_mix
  have b1 : blocks (tailOf saT) cuL sa1H 1 = sa2H := by
    unfold blocks
    rw [xsa2]
    exact sa2_mix
  show (⟨(dgs (blocks (tailOf saT) cuL (blocks saT cuL sq8 (saT.size / 64)) ((tailOf saT).size / 64)).l).toArray⟩ : ByteArray) = saD
  rw [e1, e2, b0, b1]
  show (⟨(dgs sa2H.l).toArray⟩ : ByteArray) = saD
  kernel_rfl
end Go.Proofs.YtkmlooepakinfaaGreatDoor

/- Files that are the same. -/
namespace Go.Proofs.YtkmlooepakinfaaGreatDoor
open Go.RowKit Go.Shelf

theorem toL_inj {a b : ByteArray} (h : a.toList = b.toList) : a = b := by
  rw [Lib.toList_data, Lib.toList_data] at h
  obtain ⟨x⟩ := a
  obtain ⟨y⟩ := b
  exact congrArg ByteArray.mk (Array.toList_inj.1 h)
/-- How the look ends. -/
def SmP (A C : List Fl) (w : World) (e : Ending) (w' : World) : Prop := ∃ b, e = .returned (.bool b) ∧ (b = true ↔ A = C) ∧ ∃ n, w' = w.drewN n

set_option maxHeartbeats 4000000 in
set_option maxRecDepth 100000 in
theorem SameFiles_any (ao co : Option Addr) (ac cc : Nat) (A C : List Fl) (w : World) (hn : A.length ≤ 4611686018427387904) (ha : IsFl w ao A) (hc : IsFl w co C) :
    Calls Tryz.prog 8 #[.slice ao A.length ac, .slice co C.length cc] w (SmP A C w) := by
  by_cases hl : A.length = C.length
  · rw [← hl]
    have HA : Hid (IsFl w ao A) := ha
    have HC : Hid (IsFl w co C) := hc
    have HL : Hid (A.length = C.length) := hl
    have hn1 : (A.length : Int) ≤ 4611686018427387904 := by omega
    clear ha hc hl
    go_enter Tryz.func8, Tryz.ntmps8
    go_wp2
    go_loopw [5] (fun i wr => ∃ k m : Nat, k ≤ A.length ∧ i = .int .i64 k ∧ A.take k = C.take k ∧ wr = w.drewN m) (fun i _ => A.length - (intOf i).toNat)
    case atStart => exact ⟨0, 0, Nat.zero_le _, rfl, rfl, rfl⟩
    case round =>
      obtain ⟨k, m, hk, rfl, ht, rfl⟩ := hrel
      have HK : Hid (A.take k = C.take k) := ht
      clear ht
      by_cases hlt : k < A.length
      · have hlt' : k < C.length := by rw [← HL.out]; exact hlt
        rcases HA.out with h | ⟨g, o, rfl, _, hca⟩
        · exfalso; rw [h] at hlt; exact absurd hlt (by simp)
        rcases HC.out with h | ⟨g', o', rfl, _, hcc⟩
        · exfalso; rw [h] at hlt'; exact absurd hlt' (by simp)
        obtain ⟨a0, a1, a2⟩ := hca k hlt
        obtain ⟨b0, b1, b2⟩ := hcc k hlt'
        have HN : Hid (A[k] ≠ C[k] → A ≠ C) := fun h e => h (by simp only [e])
        have HY : Hid (A[k] = C[k] → A.take (k + 1) = C.take (k + 1)) := fun h => by rw [List.take_succ_eq_append_getElem hlt, List.take_succ_eq_append_getElem hlt', HK.out, h]
        generalize A[k] = x at *
        generalize C[k] = y at *
        obtain ⟨xp, xt, xr⟩ := x
        obtain ⟨yp, yt, yr⟩ := y
        simp only at a0 a1 a2 b0 b1 b2
        have i2 : (k : Int) < A.length := by omega
        clear hca hcc
        by_cases h1 : xp.toList = yp.toList
        · obtain rfl := toL_inj h1
          by_cases h2 : xt.toList = yt.toList
          · obtain rfl := toL_inj h2
            by_cases h3 : xr = yr
            · subst h3
              have HZ : Hid (A.take (k + 1) = C.take (k + 1)) := HY.out rfl
              clear h1 h2 HN HY
              go_wp2
              go_region
              all_goals go_wp2
              all_goals exact ⟨⟨k + 1, m + 1, by omega, by go_num, HZ.out, rfl⟩, by simp [intOf]; omega⟩
            · have HZ : Hid (A ≠ C) := HN.out (by intro e; injection e with _ _ e; exact h3 e)
              have h3' : (xr == yr) = false := by simpa using h3
              clear h1 h2 HN HY
              go_wp2
              go_region
              all_goals go_wp2
              all_goals
                go_ret
                exact ⟨false, rfl, ⟨fun h => absurd h (by decide), fun h => absurd h HZ.out⟩, m + 1, rfl⟩
          · have HZ : Hid (A ≠ C) := HN.out (by intro e; injection e with _ e _; rw [e] at h2; exact h2 rfl)
            clear h1 HN HY
            go_wp2
            go_region
            all_goals go_wp2
            all_goals
              go_ret
              exact ⟨false, rfl, ⟨fun h => absurd h (by decide), fun h => absurd h HZ.out⟩, m + 1, rfl⟩
        · have HZ : Hid (A ≠ C) := HN.out (by intro e; injection e with e _ _; rw [e] at h1; exact h1 rfl)
          clear HN HY
          go_wp2
          go_region
          all_goals go_wp2
          all_goals
            go_ret
            exact ⟨false, rfl, ⟨fun h => absurd h (by decide), fun h => absurd h HZ.out⟩, m + 1, rfl⟩
      · have hki : ¬ (k : Int) < (A.length : Int) := by omega
        have HZ : Hid (A = C) := by
          have := HK.out
          have hL := HL.out
          rwa [List.take_of_length_le (by omega), List.take_of_length_le (by omega)] at this
        go_wp2
        go_ret
        exact ⟨true, rfl, ⟨fun _ => HZ.out, fun _ => rfl⟩, m, rfl⟩
  · have hne : ¬ (A.length : Int) = C.length := by omega
    have HZ : Hid (A ≠ C) := fun e => hl (by rw [e])
    clear hl ha hc
    go_enter Tryz.func8, Tryz.ntmps8
    go_wp2
    go_ret
    exact ⟨false, rfl, ⟨fun h => absurd h (by decide), fun h => absurd h HZ.out⟩, 0, rfl⟩
end Go.Proofs.YtkmlooepakinfaaGreatDoor

/- What the statements of trees begin with. -/
namespace Go.Proofs.YtkmlooepakinfaaGreatDoor
open Go.RowKit Go.Shelf Go.Maps Go.WideMaps Go.Sort Go.Lib

theorem mem_compact {α : Type} [Inhabited α] [DecidableEq α] (l : List α) (x : α) : x ∈ Lib.compact l ↔ x ∈ l := by
  have h1 : ∀ m, m ≤ l.length → ∀ j, j < m → l.toArray[j]! ∈ Lib.compactUpTo l.toArray m := by
    intro m
    induction m with
    | zero => intro _ j hj; omega
    | succ m ih =>
      intro hm j hj
      rw [Lib.compactUpTo_succ, List.mem_append]
      by_cases h : j < m
      · exact .inl (ih (by omega) j h)
      · obtain rfl : j = m := by omega
        by_cases hk : Lib.keeps l.toArray j = true
        · exact .inr (by rw [if_pos hk]; simp)
        · have hk2 : ¬ (j = 0 ∨ l.toArray[j]! ≠ l.toArray[j - 1]!) := by
            unfold Lib.keeps at hk
            simpa using hk
          have hj0 : j ≠ 0 := fun e => hk2 (.inl e)
          have he : l.toArray[j]! = l.toArray[j - 1]! := Decidable.byContradiction fun e => hk2 (.inr e)
          rw [he]
          exact .inl (ih (by omega) (j - 1) (by omega))
  constructor
  · intro h
    unfold Lib.compact Lib.compactUpTo at h
    obtain ⟨j, hj, rfl⟩ := List.mem_map.1 h
    have hj2 : j < l.length := List.mem_range.1 (List.mem_filter.1 hj).1
    rw [getElem!_pos l.toArray j (by simpa using hj2)]
    simp
  · intro h
    obtain ⟨j, hj, rfl⟩ := List.getElem_of_mem h
    have := h1 l.length (Nat.le_refl _) j hj
    rw [getElem!_pos l.toArray j (by simpa using hj)] at this
    simpa [Lib.compact] using this

/-- A tree's texts, as Blobs answers them. -/
def blB (L : List Fl) : List ByteArray := (blF L).map fun s => ⟨s.toArray⟩
theorem blB_mem (L : List Fl) (t : ByteArray) : t ∈ blB L ↔ t ∈ (pkT1 L).2 := by
  unfold blB blF
  rw [List.mem_map]
  constructor
  · rintro ⟨s, hs, rfl⟩
    rw [mem_compact, List.mem_mergeSort, List.mem_map] at hs
    obtain ⟨b, hb, rfl⟩ := hs
    rw [Array.toArray_toList]
    exact hb
  · intro h
    refine ⟨t.data.toList, ?_, by rw [Array.toArray_toList]⟩
    rw [mem_compact, List.mem_mergeSort, List.mem_map]
    exact ⟨t, h, rfl⟩
theorem blB_len (L : List Fl) : (blB L).length = (blF L).length := by unfold blB; simp
theorem bl_txs {w : World} {base : Nat} {ao : Option Addr} {cap : Nat} {L : List Fl} (h : w.ownsRow base 9 1 (.slice ao (blF L).length cap) (blF L).length ((blF L).map encStr)) : IsTxs w ao (blB L) := by
  rcases h.2 with ⟨_, h0⟩ | ⟨g, cap2, cur, hv, _, hh, _⟩
  · exact .inl (List.length_eq_zero_iff.1 (by rw [blB_len]; exact h0))
  · injection hv with hv _ _
    subst hv
    refine .inr ⟨g, 0, rfl, (Array.getElem?_eq_some_iff.1 hh).1, fun j hj => ?_⟩
    have hj2 : j < (blF L).length := by rw [← blB_len]; exact hj
    have h1 := h.cells (show (Value.slice (some ⟨g, 0, none⟩) (blF L).length cap).ownBlock = some g from rfl) j (encStr (blF L)[j]) (by simp [hj2])
    rw [add0] at h1
    have e : (blB L)[j] = ⟨((blF L)[j]'hj2).toArray⟩ := by simp [blB]
    rw [Nat.zero_add, h1, e]

def f0 : Fl := ⟨⟨#[97, 47, 98]⟩, ⟨#[120]⟩, false⟩
def f1 : Fl := ⟨⟨#[98]⟩, ⟨#[120]⟩, false⟩
theorem nm_a : nameOk ⟨#[97]⟩ = true := by
  unfold nameOk
  rw [Lib.toList_data]
  decide
theorem nm_b : nameOk ⟨#[98]⟩ = true := by
  unfold nameOk
  rw [Lib.toList_data]
  decide
theorem pa0 : pathOk f0.pa = true := by
  unfold pathOk
  have e : piecesB f0.pa = [⟨#[97]⟩, ⟨#[98]⟩] := by rfl
  rw [e, List.all_cons, List.all_cons, nm_a, nm_b]
  rfl
theorem ok0 : okT [f0] := by
  refine ⟨by decide, fun f hf => ?_, List.pairwise_singleton _ _⟩
  rw [List.mem_singleton.1 hf]
  unfold flE
  rw [if_neg (by rw [pa0]; decide), if_neg (by decide)]
theorem ch0 : chF [f0] = 0 := by
  unfold chF
  have h : flEs [f0] = 0 := flEs_yes _ fun j hj => ok0.2.1 _ (List.getElem_mem hj)
  rw [if_neg (by decide), if_pos h, if_pos ((fit_iff _).1 ok0.2.2)]
theorem sort1 (x : Nd) : sortN [x] = [x] := by unfold sortN; simp
theorem sx_s : smD ⟨#[120]⟩ = sxD := sx_sum
theorem sb_s : smD sbT = sbD := sb_sum
theorem sa_s : smD saT = saD := sa_sum
theorem tx_of (x : Nd) : txN [x] = ⟨(pk 1 ++ (pkT x.1 ++ (pk x.2.1.toNat ++ pkT x.2.2) ++ [])).toArray⟩ := by
  unfold txN
  rw [sort1]
  rfl
theorem dir1 (n : Nat) : dirF smD (n + 1) [f1] = (sbT, [⟨#[120]⟩, sbT]) := by
  rw [dirF_succ]
  have e1 : tops [f1] = [f1] := by rfl
  have e2 : names [f1] = [] := by rfl
  have e3 : nsF smD n [f1] = [(⟨#[98]⟩, 1, sxD)] := by
    unfold nsF
    rw [e1, e2]
    show [ndF smD f1] = _
    unfold ndF
    rw [show smD f1.tx = sxD from sx_s]
    rfl
  have e4 : txN [(⟨#[98]⟩, 1, sxD)] = sbT := by rw [tx_of]; rfl
  rw [e3, e4, e1, e2]
  rfl
theorem pk0 : pkT1 [f0] = (saT, [⟨#[120]⟩, sbT, saT]) := by
  unfold pkT1
  rw [show (101 : Nat) = 100 + 1 from rfl, dirF_succ]
  have e1 : tops [f0] = [] := by rfl
  have e2 : names [f0] = [[97]] := by rfl
  have e3 : sub [97] [f0] = [f1] := by rfl
  have e4 : dirF smD 100 [f1] = (sbT, [⟨#[120]⟩, sbT]) := dir1 99
  have e5 : nsF smD 100 [f0] = [(⟨#[97]⟩, 3, sbD)] := by
    unfold nsF
    rw [e1, e2]
    show [ndM smD [97] (dirF smD 100 (sub [97] [f0])).1] = _
    rw [e3, e4]
    unfold ndM
    rw [sb_s]
  have e6 : txN [(⟨#[97]⟩, 3, sbD)] = saT := by rw [tx_of]; rfl
  rw [e5, e6, e1, e2]
  show (saT, [] ++ ((dirF smD 100 (sub [97] [f0])).2 ++ []) ++ [saT]) = _
  rw [e3, e4]
  rfl
theorem cl0 : ∀ t ∈ (pkT1 [f0]).2, ∀ b ∈ blB [f0], smD b = smD t → b = t := by
  intro t ht b hb
  rw [blB_mem] at hb
  rw [pk0] at ht hb
  have hxb : sxD ≠ sbD := fun e => absurd (congrArg (fun b => b.data.toList) e) (by decide)
  have hxa : sxD ≠ saD := fun e => absurd (congrArg (fun b => b.data.toList) e) (by decide)
  have hba : sbD ≠ saD := fun e => absurd (congrArg (fun b => b.data.toList) e) (by decide)
  simp only [List.mem_cons, List.not_mem_nil, or_false] at ht hb
  rcases ht with rfl | rfl | rfl <;> rcases hb with rfl | rfl | rfl <;> intro e <;> first | rfl | (simp only [sx_s, sb_s, sa_s] at e; first | exact absurd e hxb | exact absurd e hxa | exact absurd e hba | exact absurd e.symm hxb | exact absurd e.symm hxa | exact absurd e.symm hba)
theorem len0 : (blB [f0]).length ≤ 2000 := by
  rw [blB_len]
  unfold blF
  refine Nat.le_trans (compact_len _) ?_
  rw [(List.mergeSort_perm _ _).length_eq, List.length_map, pk0]
  decide
theorem siz0 : ∀ b ∈ blB [f0], b.size ≤ 100000 := by
  intro b hb
  rw [blB_mem, pk0] at hb
  simp only [List.mem_cons, List.not_mem_nil, or_false] at hb
  rcases hb with rfl | rfl | rfl <;> decide

set_option maxHeartbeats 4000000 in
set_option maxRecDepth 100000 in
theorem treeBegun_any (w : World) (he : Env w) :
    Calls Tryz.prog 4 #[] w fun e w' => e = .returned (.bool true) ∧ Below w.heap.size w w' := by
  have hA : Below w.heap.size w (w.alloc (.cells #[.string ⟨#[97, 47, 98]⟩, .string ⟨#[120]⟩, .bool false] 25)) := (Below.refl _ w).alloc (Nat.le_refl _) _
  have hfl : IsFl (w.alloc (.cells #[.string ⟨#[97, 47, 98]⟩, .string ⟨#[120]⟩, .bool false] 25)) (some ⟨w.heap.size, 0, none⟩) [f0] := by
    refine .inr ⟨w.heap.size, 0, rfl, by rw [World.size_alloc]; omega, fun j hj => ?_⟩
    have hj0 : j = 0 := by simpa using hj
    subst hj0
    have hx := heap_alloc_new w (.cells #[.string ⟨#[97, 47, 98]⟩, .string ⟨#[120]⟩, .bool false] 25)
    exact ⟨Lib.cell_of_heap hx 0, Lib.cell_of_heap hx 1, Lib.cell_of_heap hx 2⟩
  have HB : Hid (Calls Tryz.prog 13 #[.slice (some ⟨w.heap.size, 0, none⟩) 1 1] (w.alloc (.cells #[.string ⟨#[97, 47, 98]⟩, .string ⟨#[120]⟩, .bool false] 25)) (BlP [f0] (w.alloc (.cells #[.string ⟨#[97, 47, 98]⟩, .string ⟨#[120]⟩, .bool false] 25)))) := Blobs_any _ 1 [f0] _ hfl (he.up hA)
  have HR : Hid (∀ W, Below w.heap.size w W → IsFl W (some ⟨w.heap.size, 0, none⟩) [f0] → Calls Tryz.prog 14 #[.slice (some ⟨w.heap.size, 0, none⟩) 1 1] W fun e w' => e = .returned (.tuple #[.string (smD (pkT1 [f0]).1), .int .i64 0]) ∧ Below W.heap.size W w') := fun W hW hf => by
    have := Root_any _ 1 [f0] W hf (he.up hW)
    rw [if_pos ch0, ch0] at this
    exact this
  have HF : Hid (∀ W ba bc, Below w.heap.size w W → IsTxs W ba (blB [f0]) → Calls Tryz.prog 15 #[.string (smD (pkT1 [f0]).1), .slice ba (blF [f0]).length bc] W (FtP [f0] W)) := fun W ba bc hW ht => by
    have := Flat_ok [f0] ba bc (blB [f0]) W ok0 len0 ht siz0 (he.up hW) (fun t h => (blB_mem _ _).2 h) cl0
    rw [blB_len] at this
    exact this
  have HFl : Hid (∀ W, Below (w.alloc (.cells #[.string ⟨#[97, 47, 98]⟩, .string ⟨#[120]⟩, .bool false] 25)).heap.size (w.alloc (.cells #[.string ⟨#[97, 47, 98]⟩, .string ⟨#[120]⟩, .bool false] 25)) W → IsFl W (some ⟨w.heap.size, 0, none⟩) [f0]) := fun W hW => hfl.below hW (Nat.le_refl _)
  have HA : Hid (Below w.heap.size w (w.alloc (.cells #[.string ⟨#[97, 47, 98]⟩, .string ⟨#[120]⟩, .bool false] 25))) := hA
  clear hA hfl he
  generalize smD (pkT1 [f0]).1 = rt at *
  go_enter Tryz.func4, Tryz.ntmps4
  go_wp2_with fail
  refine HB.out.mono ?_
  rintro e w1 ⟨v, rfl, hrow, _, hb1⟩
  have hrow1 := hrow ch0
  obtain ⟨ba, bc, rfl⟩ := own_shape hrow1
  rw [ch0]
  have hB1 : Below w.heap.size w w1 := HA.out.trans (hb1.mono HA.out.size)
  have HR1 : Hid (Calls Tryz.prog 14 #[.slice (some ⟨w.heap.size, 0, none⟩) 1 1] w1 fun e w' => e = .returned (.tuple #[.string rt, .int .i64 0]) ∧ Below w1.heap.size w1 w') := HR.out w1 hB1 (HFl.out w1 hb1)
  have HT1 : Hid (IsTxs w1 ba (blB [f0])) := bl_txs hrow1
  have HF1 : Hid (IsFl w1 (some ⟨w.heap.size, 0, none⟩) [f0]) := HFl.out w1 hb1
  have HB1 : Hid (Below w.heap.size w w1) := hB1
  clear hrow hrow1 hb1 hB1 HR HFl
  generalize (blF [f0]).length = bl at *
  go_wp2_with fail
  refine HR1.out.mono ?_
  rintro e w2 ⟨rfl, hb2⟩
  have hB2 : Below w.heap.size w w2 := HB1.out.trans (hb2.mono HB1.out.size)
  have HF2 : Hid (Calls Tryz.prog 15 #[.string rt, .slice ba bl bc] w2 (FtP [f0] w2)) := HF.out w2 ba bc hB2 (HT1.out.below hb2 (Nat.le_refl _))
  have HFl2 : Hid (IsFl w2 (some ⟨w.heap.size, 0, none⟩) [f0]) := HF1.out.below hb2 (Nat.le_refl _)
  have HB2 : Hid (Below w.heap.size w w2) := hB2
  clear hb2 hB2 HF
  go_wp2_with fail
  refine HF2.out.mono ?_
  rintro e w3 ⟨v, rfl, hrow3, hb3⟩
  obtain ⟨fa, fc, rfl⟩ := own_shape hrow3
  have HS : Hid (Calls Tryz.prog 8 #[.slice (some ⟨w.heap.size, 0, none⟩) 1 1, .slice fa 1 fc] w3 (SmP [f0] [f0] w3)) := SameFiles_any _ fa 1 fc [f0] [f0] w3 (by decide) (HFl2.out.below hb3 (Nat.le_refl _)) (own_files hrow3 rfl)
  have HB3 : Hid (Below w.heap.size w w3) := HB2.out.trans (hb3.mono HB2.out.size)
  rw [show [f0].length = 1 from rfl]
  clear hrow3 hb3
  go_wp2_with fail
  refine HS.out.mono ?_
  rintro e w4 ⟨b, rfl, hb, n, rfl⟩
  rw [hb.2 rfl]
  have HB4 : Hid (Below w.heap.size w (w3.drewN n)) := below_drewN HB3.out n
  clear hb
  go_wp2
  go_ret
  exact ⟨rfl, HB4.out⟩
end Go.Proofs.YtkmlooepakinfaaGreatDoor
