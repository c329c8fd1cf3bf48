/- What guards a proof, plain: where no two texts that are summed have one digest, a proof shows its text alone. -/
import Derived.Test.YtagelkaenbdlaaaDoorShP
namespace Go.Proofs.YtagelkaenbdlaaaDoor
open Go.RowKit

def leafT (t : ByteArray) : ByteArray := ⟨(0 :: t.data.toList).toArray⟩
def ptB (a b : ByteArray) : ByteArray := ⟨(1 :: ((rawB a).data.toList ++ (rawB b).data.toList)).toArray⟩
theorem leafB_sm (t : ByteArray) : leafB t = sm (leafT t) := rfl
theorem pairB_sm (a b : ByteArray) : pairB a b = sm (ptB a b) := rfl
theorem mk_inj {l m : List UInt8} (h : (⟨l.toArray⟩ : ByteArray) = ⟨m.toArray⟩) : l = m := by
  have h1 := congrArg (fun x : ByteArray => x.data.toList) h
  simpa using h1
theorem leafT_inj {s t : ByteArray} (h : leafT s = leafT t) : s = t := by
  have h1 := mk_inj h
  injection h1 with _ h2
  exact (d_bytes h2).trans (d_bytes (s := t) rfl).symm
theorem wth_inj (c d : Nat) (hc : digB (c : Int) = true) (hd : digB (d : Int) = true) (h : wth c = wth d) : c = d := by
  unfold digB at hc hd
  unfold wth at h
  simp at hc hd
  rcases hc with hc | hc
  · rcases hd with hd | hd
    · rw [if_pos (by omega), if_pos (by omega)] at h; omega
    · rw [if_pos (by omega), if_neg (by omega)] at h; omega
  · rcases hd with hd | hd
    · rw [if_neg (by omega), if_pos (by omega)] at h; omega
    · rw [if_neg (by omega), if_neg (by omega)] at h; omega
theorem raw_at (a b : ByteArray) : ∀ n : Nat, rawN a n = rawN b n → ∀ k, k < n → UInt8.ofNat (two (a.data.toList.getD (2 * k) 0).toNat (a.data.toList.getD (2 * k + 1) 0).toNat) = UInt8.ofNat (two (b.data.toList.getD (2 * k) 0).toNat (b.data.toList.getD (2 * k + 1) 0).toNat) := by
  intro n
  induction n with
  | zero => intro _ k hk; omega
  | succ n ih =>
    intro h k hk
    have h' : rawN a n ++ [UInt8.ofNat (two (a.data.toList.getD (2 * n) 0).toNat (a.data.toList.getD (2 * n + 1) 0).toNat)] = rawN b n ++ [UInt8.ofNat (two (b.data.toList.getD (2 * n) 0).toNat (b.data.toList.getD (2 * n + 1) 0).toNat)] := h
    obtain ⟨h1, h2⟩ := List.append_inj' h' rfl
    by_cases hkn : k < n
    · exact ih h1 k hkn
    · obtain rfl : k = n := by omega
      exact List.cons.inj h2 |>.1
theorem raw_inj {a b : ByteArray} (ha : digOk a = true) (hb : digOk b = true) (h : rawB a = rawB b) : a = b := by
  have sa := dig_size ha
  have sb := dig_size hb
  have h1 : rawN a 32 = rawN b 32 := by
    unfold rawB at h
    rw [sa, sb] at h
    exact mk_inj h
  have key : ∀ j, j < 64 → (a.data.toList.getD j 0) = (b.data.toList.getD j 0) := by
    have two_of : ∀ k, k < 32 → (a.data.toList.getD (2 * k) 0) = (b.data.toList.getD (2 * k) 0) ∧ (a.data.toList.getD (2 * k + 1) 0) = (b.data.toList.getD (2 * k + 1) 0) := fun k hk => by
      have e := raw_at a b 32 h1 k hk
      have d1 := dig_at ha (2 * k) (by omega)
      have d2 := dig_at ha (2 * k + 1) (by omega)
      have d3 := dig_at hb (2 * k) (by omega)
      have d4 := dig_at hb (2 * k + 1) (by omega)
      have w1 := (dig_worth _ d1).2
      have w2 := (dig_worth _ d2).2
      have w3 := (dig_worth _ d3).2
      have w4 := (dig_worth _ d4).2
      rw [two_dig _ _ w1 w2, two_dig _ _ w3 w4] at e
      have e2 := congrArg UInt8.toNat e
      rw [UInt8.toNat_ofNat', UInt8.toNat_ofNat', Nat.mod_eq_of_lt (by omega), Nat.mod_eq_of_lt (by omega)] at e2
      exact ⟨UInt8.toNat_inj.1 (wth_inj _ _ d1 d3 (by omega)), UInt8.toNat_inj.1 (wth_inj _ _ d2 d4 (by omega))⟩
    intro j hj
    rcases Nat.mod_two_eq_zero_or_one j with hm | hm
    · have := (two_of (j / 2) (by omega)).1
      rwa [show 2 * (j / 2) = j from by omega] at this
    · have := (two_of (j / 2) (by omega)).2
      rwa [show 2 * (j / 2) + 1 = j from by omega] at this
  have hl : a.data.toList = b.data.toList := by
    refine List.ext_getElem (by rw [s_len, s_len, sa, sb]) fun j h2 h3 => ?_
    have := key j (by rw [s_len, sa] at h2; exact h2)
    rwa [List.getD_eq_getElem?_getD, List.getD_eq_getElem?_getD, List.getElem?_eq_getElem h2, List.getElem?_eq_getElem h3] at this
  exact (d_bytes hl).trans (d_bytes (s := b) rfl).symm
theorem ptB_inj {a b c d : ByteArray} (ha : digOk a = true) (hb : digOk b = true) (hc : digOk c = true) (hd : digOk d = true) (h : ptB a b = ptB c d) : a = c ∧ b = d := by
  have h1 := mk_inj h
  injection h1 with _ h2
  have sz : ∀ x : ByteArray, digOk x = true → (rawB x).data.toList.length = 32 := fun x hx => by rw [s_len, rawB_size, dig_size hx]
  obtain ⟨e1, e2⟩ := List.append_inj h2 (by rw [sz a ha, sz c hc])
  exact ⟨raw_inj ha hc ((d_bytes e1).trans (d_bytes (s := rawB c) rfl).symm), raw_inj hb hd ((d_bytes e2).trans (d_bytes (s := rawB d) rfl).symm)⟩

def stepT (a : ByteArray) (s : Bool) (p : ByteArray) : ByteArray := bif s then ptB p a else ptB a p
theorem stepB_sm (a : ByteArray) (s : Bool) (p : ByteArray) : stepB a s p = sm (stepT a s p) := by
  unfold stepB stepT
  cases s <;> rfl
def upT (a : ByteArray) : List Bool → List ByteArray → List ByteArray
  | s :: sr, p :: ps => stepT a s p :: upT (stepB a s p) sr ps
  | _, _ => []
theorem upT_snoc : ∀ (sr : List Bool) (ps : List ByteArray) (a : ByteArray) (s : Bool) (p : ByteArray), sr.length = ps.length → upT a (sr ++ [s]) (ps ++ [p]) = upT a sr ps ++ [stepT (foldU a sr ps) s p] := by
  intro sr
  induction sr with
  | nil => intro ps a s p h; match ps, h with | [], _ => rfl
  | cons x sr ih =>
    intro ps a s p h
    match ps, h with
    | y :: ps, h =>
      show stepT a x y :: upT (stepB a x y) (sr ++ [s]) (ps ++ [p]) = _
      rw [ih ps _ s p (by simpa using h)]
      rfl
theorem upT_take (sr : List Bool) (ps : List ByteArray) (a : ByteArray) (k : Nat) (h1 : k < sr.length) (h2 : k < ps.length) : upT a (sr.take (k + 1)) (ps.take (k + 1)) = upT a (sr.take k) (ps.take k) ++ [stepT (foldU a (sr.take k) (ps.take k)) sr[k] ps[k]] := by
  rw [List.take_succ_eq_append_getElem h1, List.take_succ_eq_append_getElem h2]
  exact upT_snoc _ _ _ _ _ (by rw [List.length_take, List.length_take]; omega)
theorem upT_all : ∀ (sr : List Bool) (ps : List ByteArray) (a : ByteArray) (k : Nat), ¬ (k < ps.length ∧ k < sr.length) → upT a (sr.take k) (ps.take k) = upT a sr ps := by
  intro sr
  induction sr with
  | nil => intro ps a k _; rw [List.take_nil]; cases ps <;> cases k <;> simp [upT]
  | cons s sr ih =>
    intro ps a k h
    match ps, k, h with
    | [], k, _ => rw [List.take_nil]; cases k <;> simp [upT]
    | p :: ps, 0, h => exact absurd ⟨by simp, by simp⟩ h
    | p :: ps, k + 1, h =>
      show stepT a s p :: upT (stepB a s p) (sr.take k) (ps.take k) = stepT a s p :: upT (stepB a s p) sr ps
      rw [ih ps _ k (fun ⟨x, y⟩ => h ⟨by simpa using x, by simpa using y⟩)]
theorem upT_len : ∀ (sr : List Bool) (ps : List ByteArray) (a : ByteArray), (upT a sr ps).length ≤ sr.length := by
  intro sr
  induction sr with
  | nil => intro ps a; cases ps <;> simp [upT]
  | cons s sr ih =>
    intro ps a
    match ps with
    | [] => simp [upT]
    | p :: ps => simp only [upT, List.length_cons]; have := ih ps (stepB a s p); omega
def shownT (t : ByteArray) (i n : Nat) (ps : List ByteArray) : List ByteArray := leafT t :: upT (leafB t) (sidesL i n).reverse ps
theorem shownT_lo (t : ByteArray) (i n : Nat) (ps : List ByteArray) (p : ByteArray) (h : 2 ≤ n) (hi : i < side n) (hl : ps.length = (sidesL i (side n)).length) : shownT t i n (ps ++ [p]) = shownT t i (side n) ps ++ [ptB (shownB t i (side n) ps) p] := by
  unfold shownT shownB
  rw [sidesL_lo i n h hi, List.reverse_cons, upT_snoc _ _ _ _ _ (by rw [List.length_reverse, hl])]
  rfl
theorem shownT_hi (t : ByteArray) (i n : Nat) (ps : List ByteArray) (p : ByteArray) (h : 2 ≤ n) (hi : side n ≤ i) (hl : ps.length = (sidesL (i - side n) (n - side n)).length) : shownT t i n (ps ++ [p]) = shownT t (i - side n) (n - side n) ps ++ [ptB p (shownB t (i - side n) (n - side n) ps)] := by
  unfold shownT shownB
  rw [sidesL_hi i n h hi, List.reverse_cons, upT_snoc _ _ _ _ _ (by rw [List.length_reverse, hl])]
  rfl

def summedF : Nat → List ByteArray → List ByteArray
  | 0, _ => [⟨#[]⟩]
  | f + 1, ss => if ss.length = 0 then [⟨#[]⟩] else if ss.length = 1 then [leafT (ss.getD 0 ⟨#[]⟩)] else summedF f (ss.take (side ss.length)) ++ summedF f (ss.drop (side ss.length)) ++ [ptB (rootB (ss.take (side ss.length))) (rootB (ss.drop (side ss.length)))]
def summedL (ss : List ByteArray) : List ByteArray := summedF ss.length ss
theorem summedF_more : ∀ f g (ss : List ByteArray), ss.length ≤ f → ss.length ≤ g → summedF f ss = summedF g ss := by
  intro f
  induction f with
  | zero =>
    intro g ss h1 _
    cases g with
    | zero => rfl
    | succ g => unfold summedF; rw [if_pos (by omega)]
  | succ f ih =>
    intro g ss h1 h2
    cases g with
    | zero => unfold summedF; rw [if_pos (by omega)]
    | succ g =>
      unfold summedF
      by_cases h0 : ss.length = 0
      · rw [if_pos h0, if_pos h0]
      · rw [if_neg h0, if_neg h0]
        by_cases h3 : ss.length = 1
        · rw [if_pos h3, if_pos h3]
        · rw [if_neg h3, if_neg h3]
          have hl := side_lt ss.length (by omega)
          have hp := side_pos ss.length
          rw [ih g (ss.take (side ss.length)) (by rw [List.length_take]; omega) (by rw [List.length_take]; omega), ih g (ss.drop (side ss.length)) (by rw [List.length_drop]; omega) (by rw [List.length_drop]; omega)]
theorem summedL_one (s : ByteArray) : summedL [s] = [leafT s] := rfl
theorem summedL_split (ss : List ByteArray) (h : 2 ≤ ss.length) : summedL ss = summedL (ss.take (side ss.length)) ++ summedL (ss.drop (side ss.length)) ++ [ptB (rootB (ss.take (side ss.length))) (rootB (ss.drop (side ss.length)))] := by
  obtain ⟨f, hf⟩ : ∃ f, ss.length = f + 1 := ⟨ss.length - 1, by omega⟩
  have hl := side_lt ss.length h
  have hp := side_pos ss.length
  have e : summedL ss = summedF (f + 1) ss := by unfold summedL; rw [hf]
  rw [e]
  conv => lhs; unfold summedF
  rw [if_neg (by omega), if_neg (by omega)]
  unfold summedL
  rw [summedF_more f _ _ (by rw [List.length_take]; omega) (Nat.le_refl _), summedF_more f _ _ (by rw [List.length_drop]; omega) (Nat.le_refl _)]
theorem summedL_len : ∀ (n : Nat) (ss : List ByteArray), ss.length ≤ n → 0 < ss.length → 0 < (summedL ss).length ∧ (summedL ss).length < 2 * ss.length := by
  intro n
  induction n with
  | zero => intro ss h h0; omega
  | succ n ih =>
    intro ss h h0
    by_cases h1 : ss.length = 1
    · match ss, h1 with
      | [s], _ => rw [summedL_one]; simp
    · have hl := side_lt ss.length (by omega)
      have hp := side_pos ss.length
      have a1 := ih (ss.take (side ss.length)) (by rw [List.length_take]; omega) (by rw [List.length_take]; omega)
      have a2 := ih (ss.drop (side ss.length)) (by rw [List.length_drop]; omega) (by rw [List.length_drop]; omega)
      rw [List.length_take] at a1
      rw [List.length_drop] at a2
      rw [summedL_split ss (by omega), List.length_append, List.length_append]
      simp only [List.length_cons, List.length_nil]
      omega

/-- A text's proof shows it. -/
theorem show_root' : ∀ (n : Nat) (ss : List ByteArray) (i m : Nat) (t : ByteArray), ss.length ≤ n → ss.length = m → ss[i]? = some t → shownB t i m (proofL ss i) = rootB ss := by
  intro n
  induction n with
  | zero =>
    intro ss i m t h hm ht
    have : ss = [] := List.length_eq_zero_iff.1 (by omega)
    subst this
    simp at ht
  | succ n ih =>
    intro ss i m t h hm ht
    subst hm
    have hi : i < ss.length := (List.getElem?_eq_some_iff.1 ht).1
    by_cases h1 : ss.length = 1
    · match ss, h1 with
      | [s], _ =>
        have hi0 : i = 0 := by simpa using hi
        subst hi0
        rw [shown_one _ _ _ _ (by simp), rootB_one]
        simp at ht
        rw [ht]
    · have hl := side_lt ss.length (by omega)
      have hp := side_pos ss.length
      have e1 : (ss.take (side ss.length)).length = side ss.length := by rw [List.length_take]; omega
      have e2 : (ss.drop (side ss.length)).length = ss.length - side ss.length := List.length_drop ..
      rw [rootB_split ss (by omega)]
      by_cases hk : i < side ss.length
      · rw [proofL_lo ss i (by omega) hk, shown_lo _ _ _ _ _ (by omega) hk (by rw [proof_sides _ _ _ (Nat.le_refl _), e1])]
        congr 1
        exact ih (ss.take (side ss.length)) i _ t (by omega) e1 (by rw [List.getElem?_take_of_lt hk]; exact ht)
      · rw [proofL_hi ss i (by omega) (by omega), shown_hi _ _ _ _ _ (by omega) (by omega) (by rw [proof_sides _ _ _ (Nat.le_refl _), e2])]
        congr 1
        exact ih (ss.drop (side ss.length)) (i - side ss.length) _ t (by omega) e2 (by rw [List.getElem?_drop, show side ss.length + (i - side ss.length) = i from by omega]; exact ht)
theorem show_root (ss : List ByteArray) (i : Nat) (hi : i < ss.length) : shownB ss[i] i ss.length (proofL ss i) = rootB ss := show_root' _ ss i _ _ (Nat.le_refl _) rfl (List.getElem?_eq_getElem hi)

theorem guard_key (L : List ByteArray) (hinj : ∀ x y, x ∈ L → y ∈ L → sm x = sm y → x = y) : ∀ (n : Nat) (ss : List ByteArray) (i : Nat) (hi : i < ss.length) (ps : List ByteArray) (t : ByteArray), ss.length ≤ n → ps.length = (sidesL i ss.length).length → (∀ p ∈ ps, digOk p = true) →
    (∀ x ∈ summedL ss, x ∈ L) → (∀ x ∈ shownT t i ss.length ps, x ∈ L) → shownB t i ss.length ps = rootB ss → t = ss[i] := by
  intro n
  induction n with
  | zero => intro ss i hi ps t h; omega
  | succ n ih =>
    intro ss i hi ps t h hps hd hS hT he
    by_cases h1 : ss.length = 1
    · match ss, h1 with
      | [s], _ =>
        have hi0 : i = 0 := by simpa using hi
        subst hi0
        rw [shown_one _ _ _ _ (by simp), rootB_one, leafB_sm, leafB_sm] at he
        exact leafT_inj (hinj _ _ (hT _ (by simp [shownT])) (hS _ (by rw [summedL_one]; simp)) he)
    · have hl := side_lt ss.length (by omega)
      have hp := side_pos ss.length
      have e1 : (ss.take (side ss.length)).length = side ss.length := by rw [List.length_take]; omega
      have e2 : (ss.drop (side ss.length)).length = ss.length - side ss.length := List.length_drop ..
      have hps0 : 0 < ps.length := by
        by_cases hk : i < side ss.length
        · rw [sidesL_lo i _ (by omega) hk, List.length_cons] at hps; omega
        · rw [sidesL_hi i _ (by omega) (by omega), List.length_cons] at hps; omega
      obtain ⟨qs, q, rfl, hq⟩ : ∃ qs q, ps = qs ++ [q] ∧ qs.length + 1 = ps.length := by
        refine ⟨ps.dropLast, ps.getLast (by intro e; rw [e] at hps0; cases hps0), ?_, ?_⟩
        · rw [List.dropLast_concat_getLast]
        · rw [List.length_dropLast]; omega
      rw [rootB_split ss (by omega)] at he
      rw [summedL_split ss (by omega)] at hS
      by_cases hk : i < side ss.length
      · have hq2 : qs.length = (sidesL i (side ss.length)).length := by rw [sidesL_lo i _ (by omega) hk, List.length_cons] at hps; omega
        rw [shown_lo _ _ _ _ _ (by omega) hk hq2, pairB_sm, pairB_sm] at he
        rw [shownT_lo _ _ _ _ _ (by omega) hk hq2] at hT
        have := hinj _ _ (hT _ (by simp)) (hS _ (by simp)) he
        have := ptB_inj (shown_dig _ _ _ _) (hd q (by simp)) (rootB_dig _) (rootB_dig _) this
        have r := ih (ss.take (side ss.length)) i (by omega) qs t (by omega) (by rw [e1]; exact hq2) (fun p hp => hd p (by simp [hp])) (fun x hx => hS x (by simp [hx])) (fun x hx => hT x (by rw [e1] at hx; simp [hx])) (by rw [e1]; exact this.1)
        rw [r, List.getElem_take]
      · have hq2 : qs.length = (sidesL (i - side ss.length) (ss.length - side ss.length)).length := by rw [sidesL_hi i _ (by omega) (by omega), List.length_cons] at hps; omega
        rw [shown_hi _ _ _ _ _ (by omega) (by omega) hq2, pairB_sm, pairB_sm] at he
        rw [shownT_hi _ _ _ _ _ (by omega) (by omega) hq2] at hT
        have := hinj _ _ (hT _ (by simp)) (hS _ (by simp)) he
        have := ptB_inj (hd q (by simp)) (shown_dig _ _ _ _) (rootB_dig _) (rootB_dig _) this
        have r := ih (ss.drop (side ss.length)) (i - side ss.length) (by omega) qs t (by omega) (by rw [e2]; exact hq2) (fun p hp => hd p (by simp [hp])) (fun x hx => hS x (by simp [hx])) (fun x hx => hT x (by rw [e2] at hx; simp [hx])) (by rw [e2]; exact this.2)
        rw [r, List.getElem_drop]
        congr 1
        omega
end Go.Proofs.YtagelkaenbdlaaaDoor
