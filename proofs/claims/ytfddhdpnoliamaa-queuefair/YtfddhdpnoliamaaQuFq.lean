/- QueueFair, plain: the jobs that are put, and what is told of those that came. -/
import Derived.Test.YtfddhdpnoliamaaQuFm
namespace Go.Proofs.Ytfddhdpnoliamaa
open Go.RowKit Go.Shelf

def fj (C : List (List Int)) (t k : Nat) : Jb := ⟨t + 1, nmB1 (100 * t + k), 1 + chs ((C.getD t []).getD k 0) 1000⟩
def fjs (C : List (List Int)) (t k : Nat) : List Jb := (List.range k).map (fj C t)
def Kt (C : List (List Int)) (t : Nat) : Nat := min (C.getD t []).length 20
def Lf (C : List (List Int)) (t k : Nat) : Nat → List Jb
  | 0 => []
  | i + 1 => if i < t then fjs C i (Kt C i) else if i = t then fjs C t k else []
theorem fjs_succ (C : List (List Int)) (t k : Nat) : fjs C t (k + 1) = fjs C t k ++ [fj C t k] := by unfold fjs; rw [List.range_succ, List.map_append]; rfl
theorem Lf_self (C : List (List Int)) (t k : Nat) : Lf C t k (t + 1) = fjs C t k := by
  show (if t < t then _ else if t = t then _ else _) = _
  rw [if_neg (Nat.lt_irrefl t), if_pos rfl]
theorem Lf_step (C : List (List Int)) (t k : Nat) : upd (Lf C t k) (t + 1) (Lf C t k (t + 1) ++ [fj C t k]) = Lf C t (k + 1) := by
  funext n
  by_cases e : n = t + 1
  · subst e
    rw [upd_at, Lf_self, Lf_self, fjs_succ]
  · rw [upd_no _ _ e]
    cases n with
    | zero => rfl
    | succ i =>
      have : ¬ i = t := fun e2 => e (by rw [e2])
      show (if i < t then _ else if i = t then _ else _) = (if i < t then _ else if i = t then _ else _)
      rw [if_neg this, if_neg this]
theorem Lf_next (C : List (List Int)) (t : Nat) : Lf C t (Kt C t) = Lf C (t + 1) 0 := by
  funext n
  cases n with
  | zero => rfl
  | succ i =>
    show (if i < t then _ else if i = t then _ else _) = (if i < t + 1 then _ else if i = t + 1 then _ else _)
    by_cases h1 : i < t
    · rw [if_pos h1, if_pos (by omega)]
    · by_cases h2 : i = t
      · subst h2
        rw [if_neg h1, if_pos rfl, if_pos (by omega)]
      · rw [if_neg h1, if_neg h2, if_neg (by omega)]
        by_cases h3 : i = t + 1
        · rw [if_pos h3]; rfl
        · rw [if_neg h3]
def NL (C : List (List Int)) (n t k : Nat) : List (List ByteArray) := (List.range n).map fun i => (Lf C t k (i + 1)).map Jb.name
theorem NL_len (C : List (List Int)) (n t k : Nat) : (NL C n t k).length = n := by unfold NL; simp
theorem NL_at (C : List (List Int)) (n t k i : Nat) (h : i < n) : (NL C n t k).getD i [] = (Lf C t k (i + 1)).map Jb.name := by
  unfold NL
  rw [List.getD_eq_getElem?_getD, List.getElem?_map, List.getElem?_range h]
  rfl
theorem NL_step (C : List (List Int)) (n t k : Nat) (h : t < n) : (NL C n t k).set t ((NL C n t k).getD t [] ++ [(fj C t k).name]) = NL C n t (k + 1) := by
  refine List.ext_getElem? fun i => ?_
  rw [List.getElem?_set]
  have hi : ∀ k, (NL C n t k)[i]? = if i < n then some ((Lf C t k (i + 1)).map Jb.name) else none := fun k => by
    unfold NL
    rw [List.getElem?_map]
    by_cases e : i < n
    · rw [List.getElem?_range e, if_pos e]; rfl
    · rw [List.getElem?_eq_none (by simpa using e), if_neg e]; rfl
  by_cases e : t = i
  · subst e
    rw [if_pos rfl, if_pos (by rw [NL_len]; exact h), hi (k + 1), if_pos h, NL_at C n t k t h, Lf_self, Lf_self, fjs_succ, List.map_append]
    rfl
  · rw [if_neg e, hi k, hi (k + 1)]
    have : ¬ i = t := fun e2 => e e2.symm
    have e3 : Lf C t k (i + 1) = Lf C t (k + 1) (i + 1) := by
      show (if i < t then _ else if i = t then _ else _) = (if i < t then _ else if i = t then _ else _)
      rw [if_neg this, if_neg this]
    rw [e3]

theorem mem_fjs {C : List (List Int)} {t k : Nat} {j : Jb} (h : j ∈ fjs C t k) : ∃ i, i < k ∧ j = fj C t i := by
  unfold fjs at h
  obtain ⟨i, hi, e⟩ := List.mem_map.1 h
  exact ⟨i, List.mem_range.1 hi, e.symm⟩
theorem Kt_le (C : List (List Int)) (t : Nat) : Kt C t ≤ 20 := Nat.min_le_right _ _

/-- While jobs are put. -/
structure BP (q : Qu) (C : List (List Int)) (t k D na : Nat) : Prop where
  fr : Fresh q D
  rm : Rm q (Lf C t k)
  qi : QI q
  sz : sizeL q.ring = na
  le : na ≤ 20 * t + k
  dl : D ≤ 1000

theorem BP.has {q : Qu} {C : List (List Int)} {t k D na : Nat} (h : BP q C t k D na) (ht : t < 5) (hk : k < 20) : hasN q.ring (fj C t k).name = false := by
  cases e : hasN q.ring (fj C t k).name with
  | false => rfl
  | true =>
    exfalso
    unfold hasN at e
    obtain ⟨x, hx, e⟩ := List.any_eq_true.1 e
    obtain ⟨j, hj, e⟩ := List.any_eq_true.1 e
    have he : j.name = nmB1 (100 * t + k) := (eqN_iff _ _).1 e
    have hL := h.rm.jobs x hx
    rw [← hL] at hj
    have key : ∀ (i c : Nat), j ∈ fjs C i c → c ≤ 20 → i ≤ t → (i < t ∨ c ≤ k) → False := fun i c hm hc hi hor => by
      obtain ⟨a, ha, rfl⟩ := mem_fjs hm
      have := nm_inj (a := 100 * i + a) (b := 100 * t + k) (by omega) (by omega) he
      omega
    cases hn : x.num with
    | zero => rw [hn] at hj; cases hj
    | succ i =>
      rw [hn] at hj
      have hj2 : j ∈ (if i < t then fjs C i (Kt C i) else if i = t then fjs C t k else []) := hj
      by_cases h1 : i < t
      · rw [if_pos h1] at hj2
        exact key i _ hj2 (Kt_le C i) (by omega) (.inl h1)
      · rw [if_neg h1] at hj2
        by_cases h2 : i = t
        · rw [if_pos h2] at hj2
          exact key t k hj2 (by omega) (Nat.le_refl _) (.inr (Nat.le_refl _))
        · rw [if_neg h2] at hj2
          cases hj2
theorem BP.put {q : Qu} {C : List (List Int)} {t k D na : Nat} (h : BP q C t k D na) (ht : t < 5) (hk : k < 20) : BP { q with ring := addR (fj C t k) q.ring } C t (k + 1) (max D (fj C t k).cost) (na + 1) := by
  obtain ⟨h1, h2⟩ := h.fr.add h.rm (fj C t k) (D' := max D (fj C t k).cost) (Nat.le_max_left _ _) (Nat.le_max_right _ _)
  have hcl := chs_lt ((C.getD t []).getD k 0) (m := 1000) (by decide)
  have hsz := h.sz
  have hle := h.le
  have hdl := h.dl
  refine ⟨h1, ?_, h.qi.add _ (by show 1 ≤ 1 + _; omega) (by show 1 + _ ≤ 1000; omega) (by omega), ?_, by omega, by have e : (fj C t k).cost ≤ 1000 := (by show 1 + _ ≤ 1000; omega); omega⟩
  · have e : upd (Lf C t k) (fj C t k).ten (Lf C t k (fj C t k).ten ++ [fj C t k]) = Lf C t (k + 1) := Lf_step C t k
    rw [← e]
    exact h2
  · show sizeL (addR _ q.ring) = na + 1
    rw [size_addR, hsz]
theorem BP.next {q : Qu} {C : List (List Int)} {t D na : Nat} (h : BP q C t (Kt C t) D na) : BP q C (t + 1) 0 D na := by
  have hle := h.le
  have := Kt_le C t
  exact ⟨h.fr, by rw [← Lf_next]; exact h.rm, h.qi, h.sz, by omega, h.dl⟩
theorem BP.new (C : List (List Int)) (m : Nat) (h1 : 1 ≤ m) (h2 : m ≤ 1000) : BP ⟨m, [], false⟩ C 0 0 0 0 :=
  ⟨⟨List.nodup_nil, (fun _ h => absurd h List.not_mem_nil), (fun _ h => absurd h List.not_mem_nil), rfl⟩, ⟨(fun _ h => absurd h List.not_mem_nil), (fun n hn => by
    exfalso
    refine hn ?_
    cases n with
    | zero => rfl
    | succ i =>
      show (if i < 0 then fjs C i (Kt C i) else if i = 0 then fjs C 0 0 else []) = _
      rw [if_neg (by omega)]
      split
      · rfl
      · rfl), (fun _ h => absurd h List.not_mem_nil)⟩, QI.new m h1 h2, rfl, Nat.le_refl _, by omega⟩

def gotf (l : List Nat) : Nat → Nat
  | 0 => 0
  | i + 1 => l.getD i 0
def Lc (C : List (List Int)) (n : Nat) (came : List Nat) : Nat → List Jb
  | 0 => []
  | i + 1 => (Lf C n 0 (i + 1)).drop (came.getD i 0)
/-- While jobs come. -/
structure MP (q : Qu) (C : List (List Int)) (n D : Nat) (came got : List Nat) (left : Nat) : Prop where
  fr : Fr q (gotf got) D
  rm : Rm q (Lc C n came)
  qi : QI q
  sz : sizeL q.ring = left
  cl : came.length = n
  gl : got.length = n
  big : ∀ i, got.getD i 0 ≤ 1000 * came.getD i 0
  cle : ∀ i, came.getD i 0 ≤ 20
  dl : D ≤ 1000

theorem BP.main {q : Qu} {C : List (List Int)} {n D na : Nat} (h : BP q C n 0 D na) : MP q C n D (List.replicate n 0) (List.replicate n 0) na := by
  have hg : ∀ i, (List.replicate n 0).getD i 0 = 0 := fun i => by
    rw [List.getD_eq_getElem?_getD, List.getElem?_replicate]
    split <;> rfl
  have e1 : gotf (List.replicate n 0) = fun _ => 0 := by
    funext m
    cases m with
    | zero => rfl
    | succ i => exact hg i
  have e2 : Lc C n (List.replicate n 0) = Lf C n 0 := by
    funext m
    cases m with
    | zero => rfl
    | succ i =>
      show (Lf C n 0 (i + 1)).drop _ = _
      rw [hg i]
      rfl
  exact ⟨by rw [e1]; exact h.fr.fr, by rw [e2]; exact h.rm, h.qi, h.sz, by simp, by simp, fun i => by rw [hg i]; omega, fun i => by rw [hg i]; omega, h.dl⟩

theorem size_gone {p : Qu} {t : Tn} {s : List Tn} {j : Jb} {js : List Jb} (hr : p.ring = t :: s) (hj : t.jobs = j :: js) : sizeL p.gone.ring + 1 = sizeL p.ring := by
  have := congrArg List.length (allN_gone hr hj)
  rw [allN_len, List.length_cons, allN_len] at this
  omega
theorem Spun.size {q p : Qu} (h : Spun q p) : sizeL p.ring = sizeL q.ring := by
  have := h.allN.length_eq
  rwa [allN_len, allN_len] at this
theorem fjs_len (C : List (List Int)) (t k : Nat) : (fjs C t k).length = k := by unfold fjs; simp
theorem Lf_len (C : List (List Int)) (n i : Nat) : (Lf C n 0 (i + 1)).length ≤ 20 := by
  show (if i < n then fjs C i (Kt C i) else if i = n then fjs C n 0 else []).length ≤ 20
  by_cases h1 : i < n
  · rw [if_pos h1, fjs_len]; exact Kt_le C i
  · rw [if_neg h1]
    split
    · rw [fjs_len]; omega
    · exact Nat.zero_le _
theorem getD_set (l : List Nat) (i k x : Nat) (h : i < l.length) : (l.set i x).getD k 0 = if k = i then x else l.getD k 0 := by
  rw [List.getD_eq_getElem?_getD, List.getElem?_set, List.getD_eq_getElem?_getD]
  by_cases e : i = k
  · subst e
    rw [if_pos rfl, if_pos h, if_pos rfl]
    rfl
  · rw [if_neg e, if_neg (fun e2 => e e2.symm)]

theorem MP.next {q p : Qu} {C : List (List Int)} {n D : Nat} {came got : List Nat} {left : Nat} (h : MP q C n D came got left) (hsp : Spun q p) (hne : q.ring ≠ []) (hp : QI p) {t : Tn} {s : List Tn} {j : Jb} {js : List Jb} (hr : p.ring = t :: s) (hj : t.jobs = j :: js) (hc : j.cost ≤ t.cr) :
    ∃ i, i < n ∧ j.ten = i + 1 ∧ came.getD i 0 < (Lf C n 0 (i + 1)).length ∧ (NL C n n 0)[i]? = some ((Lf C n 0 (i + 1)).map Jb.name) ∧ ((Lf C n 0 (i + 1)).map Jb.name)[came.getD i 0]? = some j.name ∧ 1 ≤ j.cost ∧ j.cost ≤ 1000 ∧
      MP p.gone C n D (came.set i (came.getD i 0 + 1)) (got.set i (got.getD i 0 + j.cost)) (left - 1) ∧ 1 ≤ left := by
  obtain ⟨hf, hm, hb⟩ := spun_keeps hsp h.qi hne h.fr h.rm
  obtain ⟨hf2, hm2, hL, hten⟩ := gone_keeps hf hm hb hr hj hc
  have hcst := hp.cost t (by rw [hr]; exact List.mem_cons_self) j (by rw [hj]; exact List.mem_cons_self)
  have hsz := size_gone hr hj
  rw [hsp.size, h.sz] at hsz
  cases hn : t.num with
  | zero => rw [hn] at hL; cases hL
  | succ i =>
    rw [hn] at hL hf2 hm2 hten
    have hL2 : (Lf C n 0 (i + 1)).drop (came.getD i 0) = j :: js := hL
    have hlen : came.getD i 0 < (Lf C n 0 (i + 1)).length := by
      have := congrArg List.length hL2
      rw [List.length_drop, List.length_cons] at this
      omega
    have hin : i < n := by
      by_cases e : i < n
      · exact e
      · exfalso
        have e2 : Lf C n 0 (i + 1) = [] := by
          show (if i < n then fjs C i (Kt C i) else if i = n then fjs C n 0 else []) = []
          rw [if_neg e]
          split
          · rfl
          · rfl
        rw [e2] at hlen
        exact absurd hlen (Nat.not_lt_zero _)
    have hat : (Lf C n 0 (i + 1))[came.getD i 0]? = some j := by
      have := congrArg (fun l => l[0]?) hL2
      simpa using this
    refine ⟨i, hin, hten, hlen, ?_, ?_, hcst.1, hcst.2, ⟨?_, ?_, hp.gone hr hj, by omega, by rw [List.length_set]; exact h.cl, by rw [List.length_set]; exact h.gl, ?_, ?_, h.dl⟩, by omega⟩
    · unfold NL
      rw [List.getElem?_map, List.getElem?_range hin]
      rfl
    · rw [List.getElem?_map, hat]
      rfl
    · have e : gotf (got.set i (got.getD i 0 + j.cost)) = upd (gotf got) (i + 1) (gotf got (i + 1) + j.cost) := by
        funext m
        cases m with
        | zero => rfl
        | succ k =>
          show (got.set i _).getD k 0 = _
          rw [getD_set _ _ _ _ (by rw [h.gl]; exact hin)]
          by_cases e : k = i
          · subst e
            rw [if_pos rfl, upd_at]
            rfl
          · rw [if_neg e, upd_no _ _ (fun e2 => e (Nat.succ.inj e2))]
            rfl
      rw [e]
      exact hf2
    · have e : Lc C n (came.set i (came.getD i 0 + 1)) = upd (Lc C n came) (i + 1) js := by
        funext m
        cases m with
        | zero => rfl
        | succ k =>
          show (Lf C n 0 (k + 1)).drop ((came.set i _).getD k 0) = _
          rw [getD_set _ _ _ _ (by rw [h.cl]; exact hin)]
          by_cases e : k = i
          · subst e
            rw [if_pos rfl, upd_at, ← List.drop_drop, hL2]
            rfl
          · rw [if_neg e, upd_no _ _ (fun e2 => e (Nat.succ.inj e2))]
            rfl
      rw [e]
      exact hm2
    · intro k
      rw [getD_set _ _ _ _ (by rw [h.gl]; exact hin), getD_set _ _ _ _ (by rw [h.cl]; exact hin)]
      have := h.big k
      have := h.big i
      split
      · omega
      · omega
    · intro k
      rw [getD_set _ _ _ _ (by rw [h.cl]; exact hin)]
      have := h.cle k
      have := Lf_len C n i
      split
      · omega
      · omega

theorem MP.fair {q : Qu} {C : List (List Int)} {n D : Nat} {came got : List Nat} {left : Nat} (h : MP q C n D came got left) {a b : Nat} (ha : came.getD a 0 < (Lf C n 0 (a + 1)).length) (hb : came.getD b 0 < (Lf C n 0 (b + 1)).length) : got.getD a 0 ≤ got.getD b 0 + (q.qm + D) := by
  have key : ∀ i, came.getD i 0 < (Lf C n 0 (i + 1)).length → ∃ t ∈ q.ring, t.num = i + 1 := fun i hi => h.rm.own (i + 1) (fun e => by
    have e2 : (Lf C n 0 (i + 1)).drop (came.getD i 0) = [] := e
    have := List.drop_eq_nil_iff.1 e2
    omega)
  obtain ⟨t, ht, e1⟩ := key a ha
  obtain ⟨u, hu, e2⟩ := key b hb
  have := h.fr.fair ht hu
  rw [e1, e2] at this
  exact this
end Go.Proofs.Ytfddhdpnoliamaa
