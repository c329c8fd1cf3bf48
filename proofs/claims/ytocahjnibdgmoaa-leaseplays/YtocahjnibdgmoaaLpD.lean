/- The document's book of leases: a lease is dropped. -/
import Derived.Test.YtocahjnibdgmoaaLpF
namespace Go.Proofs.Ytocahjnibdgmoaa
open Go.RowKit Go.Shelf Go.Sort
attribute [local go_sem ↓] appS_eq

def cutL (l : List (List UInt8 × Int × Int)) (i : Nat) : List (List UInt8 × Int × Int) := l.take i ++ l.drop (i + 1)
theorem cutL_len {l : List (List UInt8 × Int × Int)} {i : Nat} (h : i < l.length) : (cutL l i).length = l.length - 1 := by unfold cutL; rw [List.length_append, List.length_take, List.length_drop]; omega
theorem lcs_take (l : List (List UInt8 × Int × Int)) : ∀ i, (lcs l).take (i * 3) = lcs (l.take i) := by
  induction l with
  | nil => intro i; simp [lcs]
  | cons x r ih =>
    intro i
    have e : lcs (x :: r) = [encStr x.1, .int .i64 x.2.1, .int .i64 x.2.2] ++ lcs r := by unfold lcs; rw [List.flatMap_cons]
    cases i with
    | zero => simp [lcs]
    | succ i =>
      have e2 : lcs (x :: r.take i) = [encStr x.1, .int .i64 x.2.1, .int .i64 x.2.2] ++ lcs (r.take i) := by unfold lcs; rw [List.flatMap_cons]
      rw [List.take_succ_cons, e, e2, List.take_append, ← ih i, List.take_of_length_le (by simp; omega)]
      congr 2
      simp only [List.length_cons, List.length_nil]
      omega
theorem lcs_drop (l : List (List UInt8 × Int × Int)) : ∀ i, (lcs l).drop (i * 3) = lcs (l.drop i) := by
  induction l with
  | nil => intro i; simp [lcs]
  | cons x r ih =>
    intro i
    have e : lcs (x :: r) = [encStr x.1, .int .i64 x.2.1, .int .i64 x.2.2] ++ lcs r := by unfold lcs; rw [List.flatMap_cons]
    cases i with
    | zero => simp
    | succ i =>
      rw [List.drop_succ_cons, e, List.drop_append, ← ih i]
      rw [List.drop_of_length_le (by simp; omega), List.nil_append]
      congr 1
      simp only [List.length_cons, List.length_nil]
      omega
theorem lcs_appL (a b : List (List UInt8 × Int × Int)) : lcs (a ++ b) = lcs a ++ lcs b := by unfold lcs; rw [List.flatMap_append]
theorem lcs_cut (l : List (List UInt8 × Int × Int)) (i : Nat) : lcs (cutL l i) = (lcs l).take (i * 3) ++ (lcs l).drop ((i + 1) * 3) := by
  unfold cutL
  rw [lcs_appL, lcs_take, lcs_drop]
theorem nsv_set (l : List Nat) (k u : Nat) : nsv (l.set k u) = (nsv l).set k (.int .i64 (u : Int)) := by unfold nsv; rw [List.map_set]

section
variable {B R : Nat} {a b c : Int} {nv sv tv av : Value} {d : Db} {w : World}
theorem DB.cutA {g n cap : Nat} (h : DB B R a b c nv sv tv (.slice (some ⟨g, 0, none⟩) n cap) d w) (hn : n = d.A.length) (hcap : n ≤ cap) (i i1 : Nat) (hi : i < n) (hi1 : i1 = i + 1) (hb : n ≤ 1000000) :
    ∃ v' w', (∃ a2 m2 c2, v' = .slice a2 m2 c2) ∧ (appS #[34, 34] 34 #[.slice (some ⟨g, 0, none⟩) i i, .slice (if cap = i1 then some (⟨g, 0, none⟩ : Addr) else some ⟨g, i1 * 3, none⟩) (n - i1) (cap - i1)]).run Try.prog w.drew = .ok v' w' ∧ (∃ u, w'.cell? ⟨R, 7, none⟩ = some u) ∧ w'.frozen? ⟨R, 7, none⟩ = false ∧ DB B R a b c nv sv tv v' { d with A := cutL d.A i } (w'.setCell ⟨R, 7, none⟩ v') ∧ Upd (rid R (rws nv sv tv (.slice (some ⟨g, 0, none⟩) n cap) d)) (rid R (rws nv sv tv v' { d with A := cutL d.A i })) w (w'.setCell ⟨R, 7, none⟩ v') := by
  subst hi1
  obtain ⟨i0, hi0, hz0, hz1, hz2⟩ := info_parts infL
  have hB : B ≤ w.heap.size := by have := h.lo; have := (h.lt R List.mem_cons_self).2; omega
  have hrow0 := h.ar
  rw [← hn] at hrow0
  obtain ⟨ad, had⟩ : ∃ ad : Addr, (if cap = i + 1 then some (⟨g, 0, none⟩ : Addr) else some ⟨g, (i + 1) * 3, none⟩) = some ad := by
    split
    · exact ⟨_, rfl⟩
    · exact ⟨_, rfl⟩
  have had2 : n - (i + 1) ≠ 0 → ad = ⟨g, (i + 1) * 3, none⟩ := fun e => by
    rw [if_neg (by omega)] at had
    exact (Option.some.inj had).symm
  obtain ⟨v', w', hrun, hrow, hgr, hat⟩ := RowL.cut (P := Try.prog) (w := w.drew) (h := (hrow0.keep fun _ _ => rfl)) 34 34 i0 (.agg #[.string ⟨#[]⟩, .int .i64 0, .int .i64 0]) 32 Try.underlying34 hi0 hz0 hz1 hz2 rfl i (cap - (i + 1)) hi ad had2 (by omega) hB
  have hcl : (cutL d.A i).length = n - 1 := by rw [cutL_len (by omega), hn]
  rw [← lcs_cut, ← hcl] at hrow
  have hu : Upd (ob (.slice (some ⟨g, 0, none⟩) n cap)) (ob v') w w' := by
    refine ⟨hgr.os, hgr.tape, hgr.output, hgr.size, fun k hk _ => hgr.block k hk (by simp), fun k hk => ?_⟩
    rcases hat with e | e
    · left
      have := mem_ob.1 hk
      rw [e] at this
      injection this with this
      subst this
      exact mem_ob.2 rfl
    · right
      have := mem_ob.1 hk
      rw [e] at this
      injection this with this
      subst this
      exact Nat.le_refl _
  have hs := DS.setRow (l1 := [⟨nv, 9, 1, d.N.length, d.N.map encStr⟩, ⟨sv, 3, 1, d.S.length, nsv d.S⟩, ⟨tv, 3, 1, d.T.length, nsv d.T⟩]) (l2 := []) (r := ⟨.slice (some ⟨g, 0, none⟩) n cap, 52, 3, d.A.length, lcs d.A⟩) (r' := ⟨v', 52, 3, (cutL d.A i).length, lcs (cutL d.A i)⟩) h hu hrow 7 rfl
  obtain ⟨a2, c2, hv2⟩ := hrow.shape
  exact ⟨v', w', ⟨a2, _, c2, hv2⟩, by rw [had]; exact hrun, hs.2.1, hs.1, hs.2.2.1, hs.2.2.2⟩
theorem DB.setS (h : DB B R a b c nv sv tv av d w) (k u : Nat) (hk : k < d.S.length) :
    ∃ g cap, sv = .slice (some ⟨g, 0, none⟩) d.S.length cap ∧ w.cell? ⟨g, k, none⟩ = some (.int .i64 (d.S[k] : Int)) ∧ w.frozen? ⟨g, k, none⟩ = false ∧ DB B R a b c nv sv tv av { d with S := d.S.set k u } (w.setCell ⟨g, k, none⟩ (.int .i64 (u : Int))) ∧ Upd (rid R (rws nv sv tv av d)) (rid R (rws nv sv tv av { d with S := d.S.set k u })) w (w.setCell ⟨g, k, none⟩ (.int .i64 (u : Int))) := by
  obtain ⟨g, cap, hv, hc⟩ := row_i h.sr k hk
  subst hv
  obtain ⟨f1, f2, f3⟩ := DS.setIn (l1 := [⟨nv, 9, 1, d.N.length, d.N.map encStr⟩]) (l2 := [⟨tv, 3, 1, d.T.length, nsv d.T⟩, ⟨av, 52, 3, d.A.length, lcs d.A⟩]) (r := ⟨.slice (some ⟨g, 0, none⟩) d.S.length cap, 3, 1, d.S.length, nsv d.S⟩) h (g := g) (cap := cap) rfl (by show 0 < d.S.length; omega) k (.int .i64 (u : Int))
  refine ⟨g, cap, rfl, hc, f1, ?_, f3⟩
  unfold DB rws
  simp only [List.length_set, nsv_set]
  exact f2
theorem rid_S (l : List Nat) : rid R (rws nv sv tv av { d with S := l }) = rid R (rws nv sv tv av d) := by simp [rid, rws]

/-- What comes of it. -/
def drpB (d : Db) (i k : Nat) (nm : List UInt8) : Bool := decide (cntL (cutL d.A i) nm = 0) && decide (d.S.getD k 0 = 2)
def drpD (b : Int) (d : Db) (i k : Nat) (nm : List UInt8) : Db := if drpB d i k nm = true then { d with A := cutL d.A i, S := d.S.set k (if (d.T.getD k 0 : Int) = b then 4 else 1) } else { d with A := cutL d.A i }

set_option maxHeartbeats 8000000 in
set_option maxRecDepth 100000 in
theorem drop_any (h : DB B R a b c nv sv tv av d w) (hb : d.A.length ≤ 1000000) (hnb : d.N.length ≤ 1000000) (i : Nat) (hi : i < d.A.length) (k : Nat) (hk : fidx (fun x => decide (x = (d.A[i]).1)) d.N = (k : Int)) (hS : k < d.S.length) (hT : k < d.T.length) :
    Calls Try.prog 37 #[.pointer (some ⟨R, 0, none⟩), .int .i64 (i : Int)] w fun e w' => e = .returned (.bool (drpB d i k (d.A[i]).1)) ∧ ∃ av', DB B R a b c nv sv tv av' (drpD b d i k (d.A[i]).1) w' ∧ Upd (rid R (rws nv sv tv av d)) (rid R (rws nv sv tv av' (drpD b d i k (d.A[i]).1))) w w' := by
  obtain ⟨g, cap, hv, d0, _, _⟩ := row_l h.ar i hi
  obtain ⟨g', cap', cur, hv2, hcap, _⟩ := h.ar.at (by omega)
  rw [hv] at hv2
  cases hv2
  subst hv
  have c7 := h.c7
  obtain ⟨n, en⟩ : ∃ n, n = d.A.length := ⟨_, rfl⟩
  rw [← en] at h c7 hcap hi hb
  obtain ⟨i1, hi1⟩ : ∃ i1, i1 = i + 1 := ⟨_, rfl⟩
  obtain ⟨v', w', ⟨a2, m2, c2, hv2⟩, hap, ⟨u7, r1⟩, r2, f1, f2⟩ := h.cutA en hcap i i1 hi hi1 hb
  have e1 : (i : Int) + 1 = (i1 : Int) := by omega
  have e2 : IntKind.i64.wrap (i1 : Int) = (i1 : Int) := by rw [IntKind.wrap_i64]; omega
  have e3 : (i1 : Int) ≤ (n : Int) := by omega
  have e4 : (n : Int) ≤ (cap : Int) := by omega
  have e5 : (i : Int) ≤ (cap : Int) := by omega
  have e6 : (i : Int) < (n : Int) := by omega
  have hcl : (cutL d.A i).length ≤ 1000000 := by rw [cutL_len (by omega)]; omega
  generalize hnm : (d.A[i]).1 = nm at *
  clear hnm
  obtain ⟨s, es⟩ : ∃ s : ByteArray, s = ⟨nm.toArray⟩ := ⟨_, rfl⟩
  have hsn : s.data.toList = nm := by rw [es]
  rw [← es] at d0
  -- behind the cut
  have HA : Hid (∀ X, X = w'.setCell ⟨R, 7, none⟩ v' → Calls Try.prog 22 #[.pointer (some ⟨R, 0, none⟩), .string s] X fun e w'' => e = .returned (.int .i64 (k : Int)) ∧ w'' = X) := fun X hX => by
    subst hX
    have := At_any f1 hnb s
    rw [hsn, show ({ d with A := cutL d.A i } : Db).N = d.N from rfl, hk] at this
    exact this
  have HM : Hid (∀ X, X = w'.setCell ⟨R, 7, none⟩ v' → Calls Try.prog 35 #[.pointer (some ⟨R, 0, none⟩), .string s] X fun e w'' => e = .returned (.int .i64 (cntL (cutL d.A i) nm : Int)) ∧ w'' = X) := fun X hX => by
    subst hX
    have := Many_any f1 hcl s
    rw [hsn] at this
    exact this
  have HF : Hid (DB B R a b c nv sv tv v' { d with A := cutL d.A i } (w'.setCell ⟨R, 7, none⟩ v') ∧ Upd (rid R (rws nv sv tv (.slice (some ⟨g, 0, none⟩) n cap) d)) (rid R (rws nv sv tv v' { d with A := cutL d.A i })) w (w'.setCell ⟨R, 7, none⟩ v')) := ⟨f1, f2⟩
  obtain ⟨W2, hW2⟩ : ∃ W2, W2 = w'.setCell ⟨R, 7, none⟩ v' := ⟨_, rfl⟩
  have HW2 : Hid (w'.setCell ⟨R, 7, none⟩ v' = W2) := hW2.symm
  have HA2 := HA.out W2 hW2
  have HM2 := HM.out W2 hW2
  rw [← hW2] at f1
  have b5 := f1.c5
  have b6 := f1.c6
  have b1 := f1.c1
  have hSk : d.S.getD k 0 = d.S[k] := by simp [List.getD, List.getElem?_eq_getElem hS]
  have hTk : d.T.getD k 0 = d.T[k] := by simp [List.getD, List.getElem?_eq_getElem hT]
  obtain ⟨gs, cs, hsv, hsc, hsf, hs1, hs2⟩ := f1.setS k 1 hS
  obtain ⟨gs', cs', hsv', hsc', hsf', hs3, hs4⟩ := f1.setS k 4 hS
  rw [hsv] at hsv'
  cases hsv'
  obtain ⟨gt, ct, htv, htc⟩ := row_i f1.tr k hT
  obtain ⟨_, _, hsvx, hsc2, hsf2, hs5, hs6⟩ := hs1.setS k 4 (by simpa using hS)
  have HS1 : Hid (DB B R a b c nv sv tv v' { d with A := cutL d.A i, S := d.S.set k 1 } (W2.setCell ⟨gs, k, none⟩ (.int .i64 1)) ∧ Upd (rid R (rws nv sv tv (.slice (some ⟨g, 0, none⟩) n cap) d)) (rid R (rws nv sv tv v' { d with A := cutL d.A i, S := d.S.set k 1 })) w (W2.setCell ⟨gs, k, none⟩ (.int .i64 1))) := by
    refine ⟨hs1, ?_⟩
    have := HF.out.2
    rw [HW2.out] at this
    exact this.trans hs2
  have hsvx2 := hsvx
  rw [hsv, show ({ d with A := cutL d.A i, S := d.S.set k 1 } : Db).S.length = d.S.length from by simp] at hsvx2
  cases hsvx2
  have HS5 : Hid (DB B R a b c nv sv tv v' { d with A := cutL d.A i, S := d.S.set k 4 } ((W2.setCell ⟨gs, k, none⟩ (.int .i64 1)).setCell ⟨gs, k, none⟩ (.int .i64 4)) ∧ Upd (rid R (rws nv sv tv (.slice (some ⟨g, 0, none⟩) n cap) d)) (rid R (rws nv sv tv v' { d with A := cutL d.A i, S := d.S.set k 4 })) w ((W2.setCell ⟨gs, k, none⟩ (.int .i64 1)).setCell ⟨gs, k, none⟩ (.int .i64 4))) := by
    have e9 : (d.S.set k 1).set k 4 = d.S.set k 4 := by simp
    refine ⟨?_, HS1.out.2.trans ?_⟩
    · have := hs5
      simp only [e9] at this
      exact this
    · have := hs6
      simp only [e9] at this
      exact this
  have g5 := HS1.out.1.c5
  have g6 := HS1.out.1.c6
  have g1 := HS1.out.1.c1
  obtain ⟨_, _, htv2, htc2⟩ := row_i HS1.out.1.tr k hT
  rw [htv] at htv2
  cases htv2
  have hsc9 : (W2.setCell ⟨gs, k, none⟩ (.int .i64 1)).cell? ⟨gs, k, none⟩ = some (.int .i64 1) := by
    have := hsc2
    simpa using this
  subst hsv htv
  have hkS : (k : Int) < (d.S.length : Int) := by omega
  have hkT : (k : Int) < (d.T.length : Int) := by omega
  have HDB : Hid (DB B R a b c nv (.slice (some ⟨gs, 0, none⟩) d.S.length cs) (.slice (some ⟨gt, 0, none⟩) d.T.length ct) v' { d with A := cutL d.A i } W2 ∧ Upd (rid R (rws nv (.slice (some ⟨gs, 0, none⟩) d.S.length cs) (.slice (some ⟨gt, 0, none⟩) d.T.length ct) (.slice (some ⟨g, 0, none⟩) n cap) d)) (rid R (rws nv (.slice (some ⟨gs, 0, none⟩) d.S.length cs) (.slice (some ⟨gt, 0, none⟩) d.T.length ct) v' { d with A := cutL d.A i })) w W2) := by
    have := HF.out
    rw [HW2.out] at this
    exact this
  have HAc : Hid (Calls Try.prog 22 #[.pointer (some ⟨R, 0, none⟩), .string s] W2 fun e w'' => e = .returned (.int .i64 (k : Int)) ∧ w'' = W2) := HA2
  have HMc : Hid (Calls Try.prog 35 #[.pointer (some ⟨R, 0, none⟩), .string s] W2 fun e w'' => e = .returned (.int .i64 (cntL (cutL d.A i) nm : Int)) ∧ w'' = W2) := HM2
  have HB : Hid (drpB d i k nm = (decide (cntL (cutL d.A i) nm = 0) && decide (d.S[k] = 2))) := by unfold Hid drpB; rw [hSk]
  have HD1 : Hid (drpB d i k nm = false → drpD b d i k nm = { d with A := cutL d.A i }) := fun e => by unfold drpD; rw [e]; rfl
  have HD2 : Hid (drpB d i k nm = true → drpD b d i k nm = { d with A := cutL d.A i, S := d.S.set k (if (d.T[k] : Int) = b then 4 else 1) }) := fun e => by unfold drpD; rw [e, if_pos rfl, hTk]
  clear HA2 HM2 HA HM HF h f1 f2 hs1 hs2 hs3 hs4 hs5 hs6 hsc2 hsc' hsf' hsvx hcl hSk hTk hsn es hk hnb hb hi hcap en
  generalize cntL (cutL d.A i) nm = cn at *
  generalize d.S[k] = sk at *
  generalize d.T[k] = tk at *
  generalize d.S.length = ls at *
  generalize d.T.length = lt at *
  subst hv2
  have hsf9 : (W2.setCell ⟨gs, k, none⟩ (.int .i64 1)).frozen? ⟨gs, k, none⟩ = false := hsf2
  have HL : Hid (W2.cell? ⟨R, 5, none⟩ = some (.slice (some ⟨gs, 0, none⟩) ls cs) ∧ W2.cell? ⟨gs, k, none⟩ = some (.int .i64 (sk : Int)) ∧ W2.frozen? ⟨gs, k, none⟩ = false ∧ (k : Int) < (ls : Int) ∧ (k : Int) < (lt : Int)) := ⟨b5, hsc, hsf, hkS, hkT⟩
  have HL2 : Hid ((W2.setCell ⟨gs, k, none⟩ (.int .i64 1)).cell? ⟨R, 5, none⟩ = some (.slice (some ⟨gs, 0, none⟩) ls cs) ∧ (W2.setCell ⟨gs, k, none⟩ (.int .i64 1)).cell? ⟨R, 6, none⟩ = some (.slice (some ⟨gt, 0, none⟩) lt ct) ∧ (W2.setCell ⟨gs, k, none⟩ (.int .i64 1)).cell? ⟨R, 1, none⟩ = some (.int .i64 b) ∧ (W2.setCell ⟨gs, k, none⟩ (.int .i64 1)).cell? ⟨gt, k, none⟩ = some (.int .i64 (tk : Int)) ∧ (W2.setCell ⟨gs, k, none⟩ (.int .i64 1)).cell? ⟨gs, k, none⟩ = some (.int .i64 1) ∧ (W2.setCell ⟨gs, k, none⟩ (.int .i64 1)).frozen? ⟨gs, k, none⟩ = false) := ⟨g5, g6, g1, htc2, hsc9, hsf9⟩
  clear b5 hsc hsf hkS hkT g5 g6 g1 htc2 hsc9 hsf2 hsf9 b6 b1 htc hW2 hS hT hi1
  by_cases h0 : cn = 0
  · by_cases h2 : sk = 2
    · have hBt : drpB d i k nm = true := by rw [HB.out]; simp [h0, h2]
      by_cases h4 : (tk : Int) = b
      · have HE : Hid (drpB d i k nm = true ∧ drpD b d i k nm = { d with A := cutL d.A i, S := d.S.set k 4 }) := ⟨hBt, by rw [HD2.out hBt, if_pos h4]⟩
        have HQ : Hid (¬ 0 < (cn : Int) ∧ (sk : Int) = 2 ∧ ((tk : Int) == b) = true) := ⟨by omega, by omega, beq_iff_eq.2 h4⟩
        clear h4 hBt HB HD1 HD2 h0 h2 HDB
        go_enter Try.func37, Try.ntmps37
        go_wp2
        go_region
        rw [HW2.out]
        generalize (if cap = i1 then some (⟨g, 0, none⟩ : Addr) else some ⟨g, i1 * 3, none⟩) = ax
        clear hap r1 r2 c7 d0 e1 e2 e3 e4 e5 e6
        obtain ⟨y1, y2, y3, y4, y5⟩ := HL.out
        obtain ⟨z1, z2, z3⟩ := HQ.out
        rw [z2] at y2
        obtain ⟨x1, x2, x3, x4, x5, x6⟩ := HL2.out
        go_wp2_with (first
          | (go_at_call 22; refine HAc.out.mono ?_; rintro e w'' ⟨rfl, hw⟩; subst w'')
          | (go_at_call 35; refine HMc.out.mono ?_; rintro e w'' ⟨rfl, hw⟩; subst w'')
          | go_in)
        go_quiet (fail)
        have x1' : ((W2.setCell ⟨gs, k, none⟩ (.int .i64 1)).drewN nq).cell? ⟨R, 5, none⟩ = some (.slice (some ⟨gs, 0, none⟩) ls cs) := x1
        have x5' : ((W2.setCell ⟨gs, k, none⟩ (.int .i64 1)).drewN nq).cell? ⟨gs, k, none⟩ = some (.int .i64 1) := x5
        have x6' : ((W2.setCell ⟨gs, k, none⟩ (.int .i64 1)).drewN nq).frozen? ⟨gs, k, none⟩ = false := x6
        go_wp2
        go_ret
        obtain ⟨u1, u2⟩ := HS5.out
        rw [HE.out.1, HE.out.2]
        exact ⟨rfl, _, DS.keep u1 fun _ _ => rfl, ⟨u2.os, u2.tape, u2.output, u2.size, u2.block, u2.new⟩⟩
      · have HE : Hid (drpB d i k nm = true ∧ drpD b d i k nm = { d with A := cutL d.A i, S := d.S.set k 1 }) := ⟨hBt, by rw [HD2.out hBt, if_neg h4]⟩
        have HQ : Hid (¬ 0 < (cn : Int) ∧ (sk : Int) = 2 ∧ ((tk : Int) == b) = false) := ⟨by omega, by omega, beq_eq_false_iff_ne.2 h4⟩
        clear h4 hBt HB HD1 HD2 h0 h2 HDB
        go_enter Try.func37, Try.ntmps37
        go_wp2
        go_region
        rw [HW2.out]
        generalize (if cap = i1 then some (⟨g, 0, none⟩ : Addr) else some ⟨g, i1 * 3, none⟩) = ax
        clear hap r1 r2 c7 d0 e1 e2 e3 e4 e5 e6
        obtain ⟨y1, y2, y3, y4, y5⟩ := HL.out
        obtain ⟨z1, z2, z3⟩ := HQ.out
        rw [z2] at y2
        obtain ⟨x1, x2, x3, x4, x5, x6⟩ := HL2.out
        go_wp2_with (first
          | (go_at_call 22; refine HAc.out.mono ?_; rintro e w'' ⟨rfl, hw⟩; subst w'')
          | (go_at_call 35; refine HMc.out.mono ?_; rintro e w'' ⟨rfl, hw⟩; subst w'')
          | go_in)
        go_quiet (fail)
        go_wp2
        go_ret
        obtain ⟨u1, u2⟩ := HS1.out
        rw [HE.out.1, HE.out.2]
        exact ⟨rfl, _, DS.keep u1 fun _ _ => rfl, ⟨u2.os, u2.tape, u2.output, u2.size, u2.block, u2.new⟩⟩
    · have hBf : drpB d i k nm = false := by rw [HB.out]; simp [h2]
      have HE : Hid (drpB d i k nm = false ∧ drpD b d i k nm = { d with A := cutL d.A i }) := ⟨hBf, HD1.out hBf⟩
      have HQ : Hid (¬ 0 < (cn : Int) ∧ ((sk : Int) == 2) = false ∧ ¬ (sk : Int) = 2) := ⟨by omega, beq_eq_false_iff_ne.2 (by omega), by omega⟩
      clear hBf HB HD1 HD2 h0 h2 HS1 HS5
      go_enter Try.func37, Try.ntmps37
      go_wp2
      go_region
      rw [HW2.out]
      generalize (if cap = i1 then some (⟨g, 0, none⟩ : Addr) else some ⟨g, i1 * 3, none⟩) = ax
      clear hap r1 r2 c7 d0 e1 e2 e3 e4 e5 e6
      obtain ⟨y1, y2, y3, y4, y5⟩ := HL.out
      obtain ⟨z1, z2, z3⟩ := HQ.out
      go_wp2_with (first
        | (go_at_call 22; refine HAc.out.mono ?_; rintro e w'' ⟨rfl, hw⟩; subst w'')
        | (go_at_call 35; refine HMc.out.mono ?_; rintro e w'' ⟨rfl, hw⟩; subst w'')
        | go_in)
      go_ret
      obtain ⟨u1, u2⟩ := HDB.out
      rw [HE.out.1, HE.out.2]
      exact ⟨rfl, _, u1, u2⟩
  · have hBf : drpB d i k nm = false := by rw [HB.out]; simp [h0]
    have HE : Hid (drpB d i k nm = false ∧ drpD b d i k nm = { d with A := cutL d.A i }) := ⟨hBf, HD1.out hBf⟩
    have HQ : Hid (0 < (cn : Int)) := by unfold Hid; omega
    clear hBf HB HD1 HD2 h0 HS1 HS5
    go_enter Try.func37, Try.ntmps37
    go_wp2
    go_region
    rw [HW2.out]
    generalize (if cap = i1 then some (⟨g, 0, none⟩ : Addr) else some ⟨g, i1 * 3, none⟩) = ax
    clear hap r1 r2 c7 d0 e1 e2 e3 e4 e5 e6
    obtain ⟨y1, y2, y3, y4, y5⟩ := HL.out
    have z1 := HQ.out
    go_wp2_with (first
      | (go_at_call 22; refine HAc.out.mono ?_; rintro e w'' ⟨rfl, hw⟩; subst w'')
      | (go_at_call 35; refine HMc.out.mono ?_; rintro e w'' ⟨rfl, hw⟩; subst w'')
      | go_in)
    go_ret
    obtain ⟨u1, u2⟩ := HDB.out
    rw [HE.out.1, HE.out.2]
    exact ⟨rfl, _, u1, u2⟩
end
end Go.Proofs.Ytocahjnibdgmoaa
