/- The document's book of leases: where a job is; where a lease is; how many. -/
import Derived.Test.YtocahjnibdgmoaaLpM
namespace Go.Proofs.Ytocahjnibdgmoaa
open Go.RowKit Go.Shelf Go.Sort

structure Db where
  now : Int
  N : List (List UInt8)
  S : List Nat
  T : List Nat
  A : List (List UInt8 × Int × Int)
def nsv (l : List Nat) : List Value := l.map fun (n : Nat) => Value.int .i64 (n : Int)
def rws (nv sv tv av : Value) (d : Db) : List Row := [⟨nv, 9, 1, d.N.length, d.N.map encStr⟩, ⟨sv, 3, 1, d.S.length, nsv d.S⟩, ⟨tv, 3, 1, d.T.length, nsv d.T⟩, ⟨av, 52, 3, d.A.length, lcs d.A⟩]
def DB (B R : Nat) (a b c : Int) (nv sv tv av : Value) (d : Db) (W : World) : Prop := DS 36 B R [.int .i64 a, .int .i64 b, .int .i64 c, .int .i64 d.now] (rws nv sv tv av d) W

/-- The first place. -/
def fidx {α : Type} (p : α → Bool) (l : List α) : Int := match l.findIdx? p with | some i => (i : Int) | none => -1
theorem fidx_hit {α : Type} {p : α → Bool} {l : List α} {k : Nat} (hk : k < l.length) (h1 : p l[k] = true) (h2 : ∀ (j : Nat) (hj : j < l.length), j < k → p l[j] = false) : fidx p l = k := by
  unfold fidx
  have : l.findIdx? p = some k := List.findIdx?_eq_some_iff_getElem.2 ⟨hk, h1, fun j hj => by rw [h2 j (by omega) hj]; decide⟩
  rw [this]
theorem fidx_miss {α : Type} {p : α → Bool} {l : List α} (h2 : ∀ (j : Nat) (hj : j < l.length), p l[j] = false) : fidx p l = -1 := by
  unfold fidx
  have : l.findIdx? p = none := List.findIdx?_eq_none_iff.2 fun x hx => by
    obtain ⟨j, hj, rfl⟩ := List.getElem_of_mem hx
    exact h2 j hj
  rw [this]

section
variable {B R : Nat} {a b c : Int} {nv sv tv av : Value} {d : Db} {w : World}
theorem DB.nr (h : DB B R a b c nv sv tv av d w) : RowL w B 9 1 nv d.N.length (d.N.map encStr) := h.rows ⟨nv, 9, 1, d.N.length, d.N.map encStr⟩ (by simp [rws])
theorem DB.sr (h : DB B R a b c nv sv tv av d w) : RowL w B 3 1 sv d.S.length (nsv d.S) := h.rows ⟨sv, 3, 1, d.S.length, nsv d.S⟩ (by simp [rws])
theorem DB.tr (h : DB B R a b c nv sv tv av d w) : RowL w B 3 1 tv d.T.length (nsv d.T) := h.rows ⟨tv, 3, 1, d.T.length, nsv d.T⟩ (by simp [rws])
theorem DB.ar (h : DB B R a b c nv sv tv av d w) : RowL w B 52 3 av d.A.length (lcs d.A) := h.rows ⟨av, 52, 3, d.A.length, lcs d.A⟩ (by simp [rws])
theorem DB.c4 (h : DB B R a b c nv sv tv av d w) : w.cell? ⟨R, 4, none⟩ = some nv := DS.c h 4
theorem DB.c5 (h : DB B R a b c nv sv tv av d w) : w.cell? ⟨R, 5, none⟩ = some sv := DS.c h 5
theorem DB.c6 (h : DB B R a b c nv sv tv av d w) : w.cell? ⟨R, 6, none⟩ = some tv := DS.c h 6
theorem DB.c7 (h : DB B R a b c nv sv tv av d w) : w.cell? ⟨R, 7, none⟩ = some av := DS.c h 7
theorem DB.c0 (h : DB B R a b c nv sv tv av d w) : w.cell? ⟨R, 0, none⟩ = some (.int .i64 a) := DS.c h 0
theorem DB.c1 (h : DB B R a b c nv sv tv av d w) : w.cell? ⟨R, 1, none⟩ = some (.int .i64 b) := DS.c h 1
theorem DB.c2 (h : DB B R a b c nv sv tv av d w) : w.cell? ⟨R, 2, none⟩ = some (.int .i64 c) := DS.c h 2
theorem DB.c3 (h : DB B R a b c nv sv tv av d w) : w.cell? ⟨R, 3, none⟩ = some (.int .i64 d.now) := DS.c h 3
theorem row_s {l : List (List UInt8)} {v : Value} (h : RowL w B 9 1 v l.length (l.map encStr)) (k : Nat) (hk : k < l.length) : ∃ g cap, v = .slice (some ⟨g, 0, none⟩) l.length cap ∧ w.cell? ⟨g, k, none⟩ = some (.string ⟨(l[k]).toArray⟩) := by
  obtain ⟨g, cap, hv, _, hc⟩ := h.form (by omega)
  refine ⟨g, cap, hv, (hc k (by omega)).trans ?_⟩
  rw [List.getElem?_map, List.getElem?_eq_getElem hk]
  rfl
theorem row_i {l : List Nat} {v : Value} (h : RowL w B 3 1 v l.length (nsv l)) (k : Nat) (hk : k < l.length) : ∃ g cap, v = .slice (some ⟨g, 0, none⟩) l.length cap ∧ w.cell? ⟨g, k, none⟩ = some (.int .i64 (l[k] : Int)) := by
  obtain ⟨g, cap, hv, _, hc⟩ := h.form (by omega)
  refine ⟨g, cap, hv, (hc k (by omega)).trans ?_⟩
  unfold nsv
  rw [List.getElem?_map, List.getElem?_eq_getElem hk]
  rfl
theorem lcs_get (l : List (List UInt8 × Int × Int)) : ∀ (k : Nat) (hk : k < l.length), (lcs l)[k * 3]? = some (.string ⟨(l[k]).1.toArray⟩) ∧ (lcs l)[k * 3 + 1]? = some (.int .i64 (l[k]).2.1) ∧ (lcs l)[k * 3 + 2]? = some (.int .i64 (l[k]).2.2) := by
  induction l with
  | nil => intro k hk; cases hk
  | cons x r ih =>
    intro k hk
    have e : lcs (x :: r) = [encStr x.1, .int .i64 x.2.1, .int .i64 x.2.2] ++ lcs r := by unfold lcs; rw [List.flatMap_cons]
    rw [e]
    cases k with
    | zero => exact ⟨rfl, rfl, rfl⟩
    | succ k =>
      obtain ⟨h1, h2, h3⟩ := ih k (by simpa using hk)
      refine ⟨?_, ?_, ?_⟩
      · rw [List.getElem?_append_right (by simp; omega), show (k + 1) * 3 - [encStr x.1, Value.int .i64 x.2.1, Value.int .i64 x.2.2].length = k * 3 from by simp; omega]; exact h1
      · rw [List.getElem?_append_right (by simp; omega), show (k + 1) * 3 + 1 - [encStr x.1, Value.int .i64 x.2.1, Value.int .i64 x.2.2].length = k * 3 + 1 from by simp; omega]; exact h2
      · rw [List.getElem?_append_right (by simp; omega), show (k + 1) * 3 + 2 - [encStr x.1, Value.int .i64 x.2.1, Value.int .i64 x.2.2].length = k * 3 + 2 from by simp; omega]; exact h3
theorem row_l {l : List (List UInt8 × Int × Int)} {v : Value} (h : RowL w B 52 3 v l.length (lcs l)) (k : Nat) (hk : k < l.length) : ∃ g cap, v = .slice (some ⟨g, 0, none⟩) l.length cap ∧ w.cell? ⟨g, k * 3, none⟩ = some (.string ⟨(l[k]).1.toArray⟩) ∧ w.cell? ⟨g, k * 3 + 1, none⟩ = some (.int .i64 (l[k]).2.1) ∧ w.cell? ⟨g, k * 3 + 2, none⟩ = some (.int .i64 (l[k]).2.2) := by
  obtain ⟨g, cap, hv, _, hc⟩ := h.form (by omega)
  obtain ⟨h1, h2, h3⟩ := lcs_get l k hk
  exact ⟨g, cap, hv, (hc _ (by omega)).trans h1, (hc _ (by omega)).trans h2, (hc _ (by omega)).trans h3⟩

set_option maxHeartbeats 4000000 in
set_option maxRecDepth 100000 in
theorem At_any (h : DB B R a b c nv sv tv av d w) (hn : d.N.length ≤ 1000000) (s : ByteArray) :
    Calls Try.prog 22 #[.pointer (some ⟨R, 0, none⟩), .string s] w fun e w' => e = .returned (.int .i64 (fidx (fun x => decide (x = s.data.toList)) d.N)) ∧ w' = w := by
  have c4 := h.c4
  have H := h.nr
  obtain ⟨ao, cap, hv⟩ := H.shape
  subst hv
  have HR : Hid (RowL w B 9 1 (.slice ao d.N.length cap) d.N.length (d.N.map encStr)) := H
  clear H h
  generalize d.N = l at *
  obtain ⟨n, en⟩ : ∃ n, n = l.length := ⟨_, rfl⟩
  have HN : Hid (n = l.length) := en
  rw [← en] at c4 hn
  clear en
  go_enter Try.func22, Try.ntmps22
  go_wp2
  go_loopw [5] (fun v wr => ∃ k : Nat, k ≤ n ∧ v = .int .i64 (k : Int) ∧ Hid (∀ (j : Nat) (hj : j < l.length), j < k → decide (l[j] = s.data.toList) = false) ∧ wr = w) (fun v _ => n - (RowKit.intOf v).toNat)
  case atStart => exact ⟨0, Nat.zero_le _, rfl, by unfold Hid; omega, rfl⟩
  case round =>
    obtain ⟨k, hk, rfl, HK, rfl⟩ := hrel
    by_cases hlt : k < n
    · have hki : (k : Int) < (n : Int) := by omega
      have hkl : k < l.length := by rw [← HN.out]; exact hlt
      obtain ⟨g, cap', hv, c1⟩ := row_s HR.out k hkl
      cases hv
      obtain ⟨k1, hk1⟩ : ∃ k1, k1 = k + 1 := ⟨_, rfl⟩
      have ek1 : (k : Int) + 1 = (k1 : Int) := by omega
      have ek2 : IntKind.i64.wrap (k1 : Int) = (k1 : Int) := by rw [IntKind.wrap_i64]; omega
      have hq := eqL (l[k]) s
      by_cases he : l[k] = s.data.toList
      · rw [decide_eq_true he] at hq
        have HF : Hid (fidx (fun x => decide (x = s.data.toList)) l = (k : Int)) := fidx_hit hkl (decide_eq_true he) HK.out
        clear he hk1
        generalize (⟨(l[k]).toArray⟩ : ByteArray) = x at c1 hq
        go_wp2
        go_ret
        exact ⟨by rw [HF.out]; rfl, rfl⟩
      · rw [decide_eq_false he] at hq
        have HF : Hid (k1 = k + 1 ∧ ∀ (j : Nat) (hj : j < l.length), j < k1 → decide (l[j] = s.data.toList) = false) := ⟨hk1, fun j hj hj2 => by
          by_cases e : j < k
          · exact HK.out j hj e
          · have : j = k := by omega
            subst this
            exact decide_eq_false he⟩
        clear he hk1
        generalize (⟨(l[k]).toArray⟩ : ByteArray) = x at c1 hq
        go_wp2
        refine ⟨⟨k1, by have := HF.out.1; omega, rfl, HF.out.2, trivial⟩, ?_⟩
        have := HF.out.1
        simp [RowKit.intOf]; omega
    · have hki : ¬ (k : Int) < (n : Int) := by omega
      have HF : Hid (fidx (fun x => decide (x = s.data.toList)) l = -1) := fidx_miss fun j hj => HK.out j hj (by have := HN.out; omega)
      go_wp2
      go_ret
      exact ⟨by rw [HF.out]; rfl, rfl⟩

def isL (s : List UInt8) (q : Int) (x : List UInt8 × Int × Int) : Bool := decide (x.1 = s) && decide (x.2.1 = q)
set_option maxHeartbeats 4000000 in
set_option maxRecDepth 100000 in
theorem Has_any (h : DB B R a b c nv sv tv av d w) (hn : d.A.length ≤ 1000000) (s : ByteArray) (q : Int) :
    Calls Try.prog 34 #[.pointer (some ⟨R, 0, none⟩), .string s, .int .i64 q] w fun e w' => e = .returned (.int .i64 (fidx (isL s.data.toList q) d.A)) ∧ w' = w := by
  have c7 := h.c7
  have H := h.ar
  obtain ⟨ao, cap, hv⟩ := H.shape
  subst hv
  have HR : Hid (RowL w B 52 3 (.slice ao d.A.length cap) d.A.length (lcs d.A)) := H
  clear H h
  generalize d.A = l at *
  obtain ⟨n, en⟩ : ∃ n, n = l.length := ⟨_, rfl⟩
  have HN : Hid (n = l.length) := en
  rw [← en] at c7 hn
  clear en
  go_enter Try.func34, Try.ntmps34
  go_wp2
  go_loopw [7] (fun v wr => ∃ k : Nat, k ≤ n ∧ v = .int .i64 (k : Int) ∧ Hid (∀ (j : Nat) (hj : j < l.length), j < k → isL s.data.toList q l[j] = false) ∧ wr = w) (fun v _ => n - (RowKit.intOf v).toNat)
  case atStart => exact ⟨0, Nat.zero_le _, rfl, by unfold Hid; omega, rfl⟩
  case round =>
    obtain ⟨k, hk, rfl, HK, rfl⟩ := hrel
    by_cases hlt : k < n
    · have hki : (k : Int) < (n : Int) := by omega
      have hkl : k < l.length := by rw [← HN.out]; exact hlt
      obtain ⟨g, cap', hv, c1, c2, _⟩ := row_l HR.out k hkl
      cases hv
      obtain ⟨k1, hk1⟩ : ∃ k1, k1 = k + 1 := ⟨_, rfl⟩
      have ek1 : (k : Int) + 1 = (k1 : Int) := by omega
      have ek2 : IntKind.i64.wrap (k1 : Int) = (k1 : Int) := by rw [IntKind.wrap_i64]; omega
      have hq := eqL (l[k]).1 s
      have hno : isL s.data.toList q l[k] = false → Hid (k1 = k + 1 ∧ ∀ (j : Nat) (hj : j < l.length), j < k1 → isL s.data.toList q l[j] = false) := fun he => ⟨hk1, fun j hj hj2 => by
          by_cases e : j < k
          · exact HK.out j hj e
          · have : j = k := by omega
            subst this
            exact he⟩
      by_cases he : (l[k]).1 = s.data.toList
      · rw [decide_eq_true he] at hq
        by_cases he2 : (l[k]).2.1 = q
        · have HF : Hid (fidx (isL s.data.toList q) l = (k : Int)) := fidx_hit hkl (by unfold isL; simp [he, he2]) HK.out
          rw [he2] at c2
          clear he he2 hk1 hno
          generalize (⟨(l[k]).1.toArray⟩ : ByteArray) = x at c1 hq
          go_wp2
          go_ret
          exact ⟨by rw [HF.out]; rfl, rfl⟩
        · have HF := hno (by unfold isL; simp [he2])
          generalize (l[k]).2.1 = q2 at c2 he2
          have he3 : (q2 == q) = false := beq_eq_false_iff_ne.2 he2
          clear he hk1 hno
          generalize (⟨(l[k]).1.toArray⟩ : ByteArray) = x at c1 hq
          go_wp2
          refine ⟨⟨k1, by have := HF.out.1; omega, rfl, HF.out.2, trivial⟩, ?_⟩
          have := HF.out.1
          simp [RowKit.intOf]; omega
      · rw [decide_eq_false he] at hq
        have HF := hno (by unfold isL; simp [he])
        clear he hk1 hno
        generalize (⟨(l[k]).1.toArray⟩ : ByteArray) = x at c1 hq
        go_wp2
        refine ⟨⟨k1, by have := HF.out.1; omega, rfl, HF.out.2, trivial⟩, ?_⟩
        have := HF.out.1
        simp [RowKit.intOf]; omega
    · have hki : ¬ (k : Int) < (n : Int) := by omega
      have HF : Hid (fidx (isL s.data.toList q) l = -1) := fidx_miss fun j hj => HK.out j hj (by have := HN.out; omega)
      go_wp2
      go_ret
      exact ⟨by rw [HF.out]; rfl, rfl⟩

set_option maxHeartbeats 4000000 in
set_option maxRecDepth 100000 in
theorem Many_any (h : DB B R a b c nv sv tv av d w) (hn : d.A.length ≤ 1000000) (s : ByteArray) :
    Calls Try.prog 35 #[.pointer (some ⟨R, 0, none⟩), .string s] w fun e w' => e = .returned (.int .i64 (cntL d.A s.data.toList : Int)) ∧ w' = w := by
  have c7 := h.c7
  have H := h.ar
  obtain ⟨ao, cap, hv⟩ := H.shape
  subst hv
  have HR : Hid (RowL w B 52 3 (.slice ao d.A.length cap) d.A.length (lcs d.A)) := H
  clear H h
  generalize d.A = l at *
  obtain ⟨n, en⟩ : ∃ n, n = l.length := ⟨_, rfl⟩
  have HN : Hid (n = l.length) := en
  rw [← en] at c7 hn
  clear en
  go_enter Try.func35, Try.ntmps35
  go_wp2
  go_loopw [5, 6] (fun u v wr => ∃ k t : Nat, k ≤ n ∧ t ≤ k ∧ u = .int .i64 (t : Int) ∧ v = .int .i64 (k : Int) ∧ Hid (t = cntL (l.take k) s.data.toList) ∧ wr = w) (fun _ v _ => n - (RowKit.intOf v).toNat)
  case atStart => exact ⟨0, 0, Nat.zero_le _, Nat.zero_le _, rfl, rfl, rfl, rfl⟩
  case round =>
    obtain ⟨k, t, hk, htk, rfl, rfl, HK, rfl⟩ := hrel
    by_cases hlt : k < n
    · have hki : (k : Int) < (n : Int) := by omega
      have hkl : k < l.length := by rw [← HN.out]; exact hlt
      obtain ⟨g, cap', hv, c1, c2, _⟩ := row_l HR.out k hkl
      cases hv
      obtain ⟨k1, hk1⟩ : ∃ k1, k1 = k + 1 := ⟨_, rfl⟩
      have ek1 : (k : Int) + 1 = (k1 : Int) := by omega
      have ek2 : IntKind.i64.wrap (k1 : Int) = (k1 : Int) := by rw [IntKind.wrap_i64]; omega
      obtain ⟨t1, ht1⟩ : ∃ t1, t1 = t + 1 := ⟨_, rfl⟩
      have et1 : (t : Int) + 1 = (t1 : Int) := by omega
      have et2 : IntKind.i64.wrap (t1 : Int) = (t1 : Int) := by rw [IntKind.wrap_i64]; omega
      have hq := eqL (l[k]).1 s
      have hnx := cnt_next (nm := s.data.toList) hkl
      rw [← hk1, ← HK.out, ← ht1] at hnx
      by_cases he : (l[k]).1 = s.data.toList
      · rw [decide_eq_true he] at hq
        rw [if_pos he] at hnx
        have HF : Hid (k1 = k + 1 ∧ t1 = t + 1 ∧ t1 = cntL (l.take k1) s.data.toList) := ⟨hk1, ht1, hnx.symm⟩
        clear he hk1 ht1 hnx
        generalize (⟨(l[k]).1.toArray⟩ : ByteArray) = x at c1 hq
        go_wp2
        refine ⟨⟨k1, t1, by have := HF.out; omega, by have := HF.out; omega, rfl, rfl, HF.out.2.2, trivial⟩, ?_⟩
        have := HF.out.1
        simp [RowKit.intOf]; omega
      · rw [decide_eq_false he] at hq
        rw [if_neg he] at hnx
        have HF : Hid (k1 = k + 1 ∧ t = cntL (l.take k1) s.data.toList) := ⟨hk1, hnx.symm⟩
        clear he hk1 ht1 hnx
        generalize (⟨(l[k]).1.toArray⟩ : ByteArray) = x at c1 hq
        go_wp2
        refine ⟨⟨k1, t, by have := HF.out; omega, by have := HF.out; omega, rfl, rfl, HF.out.2, trivial⟩, ?_⟩
        have := HF.out.1
        simp [RowKit.intOf]; omega
    · have hki : ¬ (k : Int) < (n : Int) := by omega
      have HF : Hid (cntL l s.data.toList = t) := by
        have := HK.out
        rw [List.take_of_length_le (by have := HN.out; omega)] at this
        exact this.symm
      go_wp2
      go_ret
      exact ⟨by rw [HF.out]; rfl, rfl⟩
end
end Go.Proofs.Ytocahjnibdgmoaa
