/- The lines of a command, plain: words, registers, numbers, what each line takes, and what the document asks of it. -/
import Derived.Test.YtcpomkgfcpfedaaGreatDoorParts
namespace Go.Proofs.YtcpomkgfcpfedaaGreatDoor
open Go.RowKit Go.Shelf

/-- The words of a text between blanks, behind cur. -/
def wdL : List UInt8 → List UInt8 → List (List UInt8)
  | cur, [] => [cur]
  | cur, c :: l => if c = 32 then cur :: wdL [] l else wdL (cur ++ [c]) l

theorem wdL_ne (l : List UInt8) : ∀ cur, wdL cur l ≠ [] := by
  induction l with
  | nil => intro cur h; cases h
  | cons c l ih =>
    intro cur
    unfold wdL
    by_cases h : c = 32
    · rw [if_pos h]; intro h'; cases h'
    · rw [if_neg h]; exact ih _
theorem wdL_blank (l : List UInt8) : ∀ cur, wdL cur (l ++ [32]) = wdL cur l ++ [[]] := by
  induction l with
  | nil => intro cur; rfl
  | cons c l ih =>
    intro cur
    rw [List.cons_append]
    unfold wdL
    by_cases h : c = 32
    · rw [if_pos h, if_pos h, ih]; rfl
    · rw [if_neg h, if_neg h, ih]
theorem wdL_snoc (l : List UInt8) (c : UInt8) (hc : c ≠ 32) : ∀ cur, ∃ ps p, wdL cur l = ps ++ [p] ∧ wdL cur (l ++ [c]) = ps ++ [p ++ [c]] := by
  induction l with
  | nil => intro cur; exact ⟨[], cur, rfl, by show (if c = 32 then _ else _) = _; rw [if_neg hc]; rfl⟩
  | cons b l ih =>
    intro cur
    rw [List.cons_append]
    unfold wdL
    by_cases h : b = 32
    · rw [if_pos h, if_pos h]
      obtain ⟨ps, p, e1, e2⟩ := ih []
      exact ⟨cur :: ps, p, by rw [e1]; rfl, by rw [e2]; rfl⟩
    · rw [if_neg h, if_neg h]
      exact ih _
theorem wdL_len (l : List UInt8) : ∀ cur, (wdL cur l).length ≤ l.length + 1 := by
  induction l with
  | nil => intro cur; exact Nat.le_refl _
  | cons c l ih =>
    intro cur
    unfold wdL
    by_cases h : c = 32
    · rw [if_pos h]; have := ih []; simp only [List.length_cons]; omega
    · rw [if_neg h]; have := ih (cur ++ [c]); simp only [List.length_cons]; omega
theorem wdL_mem (l : List UInt8) : ∀ cur, ∀ p ∈ wdL cur l, p.length ≤ cur.length + l.length := by
  induction l with
  | nil => intro cur p hp; obtain rfl := List.mem_singleton.1 hp; simp
  | cons c l ih =>
    intro cur p hp
    unfold wdL at hp
    by_cases h : c = 32
    · rw [if_pos h] at hp
      rcases List.mem_cons.1 hp with rfl | hp
      · simp
      · have := ih [] p hp; simp only [List.length_cons, List.length_nil] at *; omega
    · rw [if_neg h] at hp
      have := ih _ p hp
      simp only [List.length_append, List.length_cons, List.length_nil] at *
      omega

theorem wdL_miss (s : List UInt8) : ∀ cur, Lib.indexByte s 32 = -1 → wdL cur s = [cur ++ s] := by
  induction s with
  | nil => intro cur _; simp [wdL]
  | cons b l ih =>
    intro cur h
    unfold Lib.indexByte at h
    by_cases hb : b = 32
    · rw [hb] at h; simp at h
    · have hb' : (b == 32) = false := beq_eq_false_iff_ne.2 hb
      rw [hb'] at h
      unfold wdL
      rw [if_neg hb]
      have hl : Lib.indexByte l 32 = -1 := by
        by_cases h1 : Lib.indexByte l 32 = -1
        · exact h1
        · have := Lib.indexByte_ge l 32
          simp [h1] at h
          omega
      rw [ih _ hl]
      simp
theorem wdL_hit (s : List UInt8) : ∀ cur (i : Nat), Lib.indexByte s 32 = i → wdL cur s = (cur ++ s.take i) :: wdL [] (s.drop (i + 1)) := by
  induction s with
  | nil => intro cur i h; simp [Lib.indexByte] at h
  | cons b l ih =>
    intro cur i h
    unfold Lib.indexByte at h
    by_cases hb : b = 32
    · subst hb
      simp at h
      obtain rfl : i = 0 := by omega
      simp [wdL]
    · have hb' : (b == 32) = false := beq_eq_false_iff_ne.2 hb
      rw [hb'] at h
      show (if b = 32 then cur :: wdL [] l else wdL (cur ++ [b]) l) = _
      rw [if_neg hb]
      have hge := Lib.indexByte_ge l 32
      by_cases h1 : Lib.indexByte l 32 = -1
      · simp [h1] at h
      · simp [h1] at h
        obtain ⟨k, rfl⟩ : ∃ k, i = k + 1 := ⟨i - 1, by omega⟩
        rw [ih (cur ++ [b]) k (by omega)]
        simp

abbrev blank : ByteArray := ⟨#[32]⟩
theorem wdL_cut (s : List UInt8) : ∃ r, wdL [] s = (Lib.cut s [32]).1 :: r := by
  unfold Lib.cut
  rw [Lib.index_one]
  by_cases h : Lib.indexByte s 32 = -1
  · rw [h, if_neg (by decide), wdL_miss s [] h]
    exact ⟨[], rfl⟩
  · have hge := Lib.indexByte_ge s 32
    obtain ⟨i, hi⟩ : ∃ i : Nat, Lib.indexByte s 32 = i := ⟨(Lib.indexByte s 32).toNat, by omega⟩
    rw [hi, if_pos (by omega), wdL_hit s [] i hi]
    exact ⟨wdL [] (s.drop (i + 1)), by simp⟩
/-- What SplitN answers. -/
def wdN (k : Nat) (s : List UInt8) : List (List UInt8) := Lib.splitK [32] 0 k s
theorem wdN_le : ∀ (k : Nat) (s : List UInt8), (wdL [] s).length ≤ k + 1 → wdN k s = wdL [] s := by
  intro k
  induction k with
  | zero =>
    intro s h
    show [s] = _
    by_cases h1 : Lib.indexByte s 32 = -1
    · rw [wdL_miss s [] h1]; rfl
    · have hge := Lib.indexByte_ge s 32
      obtain ⟨i, hi⟩ : ∃ i : Nat, Lib.indexByte s 32 = i := ⟨(Lib.indexByte s 32).toNat, by omega⟩
      rw [wdL_hit s [] i hi] at h
      have := wdL_ne (s.drop (i + 1)) []
      cases h2 : wdL [] (s.drop (i + 1)) with
      | nil => exact absurd h2 this
      | cons a b => rw [h2] at h; simp at h
  | succ k ih =>
    intro s h
    unfold wdN Lib.splitK
    by_cases h1 : Lib.index s [32] = -1
    · rw [if_pos (beq_iff_eq.2 h1), wdL_miss s [] (by rw [← Lib.index_one]; exact h1)]
      rfl
    · have hge := Lib.index_ge s [32]
      obtain ⟨i, hi⟩ : ∃ i : Nat, Lib.index s [32] = i := ⟨(Lib.index s [32]).toNat, by omega⟩
      rw [if_neg (fun e => h1 (beq_iff_eq.1 e)), hi]
      have e : ((i : Int)).toNat = i := by omega
      rw [wdL_hit s [] i (by rw [← Lib.index_one]; exact hi)] at h ⊢
      rw [e]
      have hi2 := ih (s.drop (i + 1)) (by simp at h; omega)
      unfold wdN at hi2
      rw [show ([32] : List UInt8).length = 1 from rfl, hi2]
      simp
theorem wdN_gt : ∀ (k : Nat) (s : List UInt8), k + 1 < (wdL [] s).length → ∃ r, (32 : UInt8) ∈ r ∧ wdN k s = (wdL [] s).take k ++ [r] := by
  intro k
  induction k with
  | zero =>
    intro s h
    refine ⟨s, ?_, rfl⟩
    by_cases h1 : Lib.indexByte s 32 = -1
    · rw [wdL_miss s [] h1] at h; simp at h
    · have hge := Lib.indexByte_ge s 32
      obtain ⟨i, hi⟩ : ∃ i : Nat, Lib.indexByte s 32 = i := ⟨(Lib.indexByte s 32).toNat, by omega⟩
      have hI : ∀ (l : List UInt8), Lib.indexByte l 32 ≠ -1 → (32 : UInt8) ∈ l := by
        intro l
        induction l with
        | nil => intro h; exact absurd rfl h
        | cons a b ihl =>
          intro h
          unfold Lib.indexByte at h
          by_cases ha : a = 32
          · rw [ha]; exact List.mem_cons_self
          · have hb' : (a == 32) = false := beq_eq_false_iff_ne.2 ha
            rw [hb'] at h
            refine List.mem_cons_of_mem _ (ihl fun hh => ?_)
            rw [hh] at h
            exact h rfl
      exact hI s h1
  | succ k ih =>
    intro s h
    unfold wdN Lib.splitK
    by_cases h1 : Lib.index s [32] = -1
    · rw [wdL_miss s [] (by rw [← Lib.index_one]; exact h1)] at h
      simp at h
    · have hge := Lib.index_ge s [32]
      obtain ⟨i, hi⟩ : ∃ i : Nat, Lib.index s [32] = i := ⟨(Lib.index s [32]).toNat, by omega⟩
      rw [if_neg (fun e => h1 (beq_iff_eq.1 e)), hi]
      have e : ((i : Int)).toNat = i := by omega
      rw [wdL_hit s [] i (by rw [← Lib.index_one]; exact hi)] at h ⊢
      rw [e]
      obtain ⟨r, hr, hi2⟩ := ih (s.drop (i + 1)) (by simp at h; omega)
      unfold wdN at hi2
      rw [show ([32] : List UInt8).length = 1 from rfl, hi2]
      exact ⟨r, hr, by simp⟩
theorem wdN_ne (k : Nat) (s : List UInt8) : wdN k s ≠ [] := by
  unfold wdN
  cases k with
  | zero => intro h; cases h
  | succ k => unfold Lib.splitK; split <;> intro h <;> cases h

/-- A register. -/
def regF (s : List UInt8) : Option Nat := match s with
  | [c] => if 97 ≤ c.toNat ∧ c.toNat < 105 then some (c.toNat - 97) else none
  | _ => none
def digF (c : UInt8) : Bool := decide (48 ≤ c.toNat) && decide (c.toNat ≤ 57)
def valF (n : Nat) (s : List UInt8) : Nat := s.foldl (fun n c => 10 * n + (c.toNat - 48)) n
/-- A number. -/
def numF (s : List UInt8) : Option Nat :=
  if s.length = 0 ∨ 6 < s.length ∨ (1 < s.length ∧ s.head? = some 48) then none else if s.all digF = true then some (valF 0 s) else none

theorem regF_blank {s : List UInt8} (h : (32 : UInt8) ∈ s) : regF s = none := by
  unfold regF
  split
  · rename_i c
    obtain rfl := List.mem_singleton.1 h
    rfl
  · rfl
theorem numF_blank {s : List UInt8} (h : (32 : UInt8) ∈ s) : numF s = none := by
  unfold numF
  have h2 : s.all digF = false := by
    rw [List.all_eq_false]
    exact ⟨32, h, by decide⟩
  rw [h2]
  simp
theorem valF_le (s : List UInt8) : ∀ n, s.all digF = true → valF n s < (n + 1) * 10 ^ s.length := by
  induction s with
  | nil => intro n _; show n < _; simp
  | cons c l ih =>
    intro n h
    rw [List.all_cons, Bool.and_eq_true] at h
    have h1 := h.1
    unfold digF at h1
    simp only [Bool.and_eq_true, decide_eq_true_eq] at h1
    have := ih (10 * n + (c.toNat - 48)) h.2
    show valF (10 * n + (c.toNat - 48)) l < _
    have h3 : (10 * n + (c.toNat - 48) + 1) * 10 ^ l.length ≤ (10 * (n + 1)) * 10 ^ l.length := Nat.mul_le_mul_right _ (by omega)
    have h4 : (n + 1) * 10 ^ (l.length + 1) = 10 * (n + 1) * 10 ^ l.length := by rw [Nat.pow_succ, Nat.mul_comm (10 ^ l.length) 10, ← Nat.mul_assoc, Nat.mul_comm (n + 1) 10]
    rw [List.length_cons, h4]
    omega
theorem numF_le {s : List UInt8} {v : Nat} (h : numF s = some v) : v ≤ 999999 := by
  unfold numF at h
  split at h
  · cases h
  · split at h
    · rename_i h1 h2
      injection h with h
      have h3 := valF_le s 0 h2
      rw [h] at h3
      have h4 : s.length ≤ 6 := by omega
      have h5 : (10 : Nat) ^ s.length ≤ 10 ^ 6 := Nat.pow_le_pow_right (by decide) h4
      have h6 : (10 : Nat) ^ 6 = 1000000 := by decide
      omega
    · cases h
theorem regF_lt {s : List UInt8} {v : Nat} (h : regF s = some v) : v < 8 := by
  unfold regF at h
  split at h
  · split at h
    · injection h with h; omega
    · cases h
  · cases h

/-- A line that was taken apart. -/
structure Ln where
  wd : ByteArray
  r : Nat
  s : Nat
  pa : ByteArray
  tx : ByteArray
  n : Nat
  m : Nat
def Ln.none : Ln := ⟨⟨#[]⟩, 0, 0, ⟨#[]⟩, ⟨#[]⟩, 0, 0⟩
def bA (l : List UInt8) : ByteArray := ⟨l.toArray⟩
/-- A part: 0 register, 1 the other register, 2 number, 3 the other number, 4 a line's number, 5 an end, 6 a text, 7 a path, 8 a directory. -/
def takP (lines k : Nat) (l : Ln) (g : List UInt8) : Option Ln :=
  if k = 0 then (regF g).map fun v => { l with r := v }
  else if k = 1 then (regF g).map fun v => { l with s := v }
  else if k = 2 then (numF g).map fun v => { l with n := v }
  else if k = 3 then (numF g).map fun v => { l with m := v }
  else if k = 4 then (numF g).bind fun v => if v ≤ lines then some { l with n := v } else Option.none
  else if k = 5 then (numF g).bind fun v => if v ≤ 99 then some { l with n := v } else Option.none
  else if k = 6 then some { l with tx := bA g }
  else if k = 7 then (if pathOk (bA g) = true then some { l with pa := bA g } else Option.none)
  else (if pathOk (bA g) = true ∨ g = [46] then some { l with pa := bA g } else Option.none)
def okP (lines k : Nat) (g : List UInt8) : Bool :=
  if k = 0 then (regF g).isSome
  else if k = 1 then (regF g).isSome
  else if k = 2 then (numF g).isSome
  else if k = 3 then (numF g).isSome
  else if k = 4 then (numF g).any fun v => decide (v ≤ lines)
  else if k = 5 then (numF g).any fun v => decide (v ≤ 99)
  else if k = 6 then true
  else if k = 7 then pathOk (bA g)
  else pathOk (bA g) || decide (g = [46])
theorem takP_ok (lines k : Nat) (l : Ln) (g : List UInt8) : (takP lines k l g).isSome = okP lines k g := by
  unfold takP okP
  by_cases h0 : k = 0
  · simp [h0]
  by_cases h1 : k = 1
  · simp [h1]
  by_cases h2 : k = 2
  · simp [h2]
  by_cases h3 : k = 3
  · simp [h3]
  simp only [h0, h1, h2, h3, if_false]
  by_cases h4 : k = 4
  · simp only [h4, if_true]
    cases h : numF g with
    | none => rfl
    | some v => simp only [Option.bind_some, Option.any_some]; split <;> simp_all
  by_cases h5 : k = 5
  · simp only [h5]
    cases h : numF g with
    | none => rfl
    | some v => simp; split <;> simp_all
  simp only [h4, h5, if_false]
  by_cases h6 : k = 6
  · simp [h6]
  by_cases h7 : k = 7
  · simp only [h7]
    cases pathOk (bA g) <;> rfl
  simp only [h6, h7, if_false]
  by_cases h8 : pathOk (bA g) = true
  · simp [h8]
  · simp only [h8]
    by_cases h9 : g = [46]
    · rw [h9]; simp
    · simp [h9]
def foldP (lines : Nat) : List Nat → List (List UInt8) → Ln → Option Ln
  | k :: ks, g :: gs, l => (takP lines k l g).bind fun l' => foldP lines ks gs l'
  | _, _, l => some l
def allP (lines : Nat) : List Nat → List (List UInt8) → Bool
  | k :: ks, g :: gs => okP lines k g && allP lines ks gs
  | _, _ => true
theorem foldP_ok (lines : Nat) : ∀ (ks : List Nat) (gs : List (List UInt8)) (l : Ln), (foldP lines ks gs l).isSome = allP lines ks gs := by
  intro ks
  induction ks with
  | nil => intro gs l; rfl
  | cons k ks ih =>
    intro gs l
    cases gs with
    | nil => rfl
    | cons g gs =>
      show ((takP lines k l g).bind fun l' => foldP lines ks gs l').isSome = (okP lines k g && allP lines ks gs)
      rw [← takP_ok lines k l g]
      cases h : takP lines k l g with
      | none => rfl
      | some l' => simp [ih gs l']
/-- What stands behind each first word. -/
def frmL : List (List UInt8 × List Nat) := [([115, 101, 116], [0, 6]), ([114, 101, 97, 100], [0, 7]), ([108, 105, 115, 116], [0, 8]), ([106, 111, 105, 110], [0, 1]), ([99, 117, 116], [0, 2, 3]), ([115, 105, 122, 101], [0, 1]), ([115, 117, 109], [0]), ([109, 97, 107, 101], [7, 0]), ([114, 117, 110], [7, 0]), ([115, 97, 109, 101], [0, 1, 4]), ([108, 101, 115, 115], [0, 1, 4]), ([103, 111, 116, 111], [4]), ([101, 120, 105, 116], [5])]
def frmF (w : List UInt8) : Option (List Nat) := frmL.lookup w
/-- A line, taken apart. -/
def linF (lines : Nat) (s : List UInt8) : Option Ln := match frmF (Lib.cut s [32]).1 with
  | none => none
  | some f => if (wdN f.length s).length ≤ f.length then none else foldP lines f (wdN f.length s).tail { Ln.none with wd := bA (Lib.cut s [32]).1 }
/-- May a line stand there? -/
def rigF (lines : Nat) (s : List UInt8) : Bool := match frmF (Lib.cut s [32]).1 with
  | none => false
  | some f => if f = [0, 6] then decide (3 ≤ (wdL [] s).length) && allP lines [0] (wdL [] s).tail else decide ((wdL [] s).length = f.length + 1) && allP lines f (wdL [] s).tail

theorem nmOk_blank {s : List UInt8} (h : (32 : UInt8) ∈ s) : nameOk (bA s) = false := by
  unfold nameOk
  have : (bA s).toList.all (fun c => nmB c.toNat) = false := by
    rw [Lib.toList_data, List.all_eq_false]
    exact ⟨32, h, by decide⟩
  rw [this, Bool.and_false]
theorem parts_has (c : UInt8) (hc : c ≠ 47) (l : List UInt8) : ∀ cur, (c ∈ l ∨ c ∈ cur) → ∃ p ∈ parts cur l, c ∈ p := by
  induction l with
  | nil => intro cur h; exact ⟨cur, List.mem_singleton.2 rfl, h.resolve_left (by simp)⟩
  | cons b l ih =>
    intro cur h
    unfold parts
    by_cases hb : b = 47
    · rw [if_pos hb]
      rcases h with h | h
      · rcases List.mem_cons.1 h with h | h
        · exact absurd (h.trans hb) hc
        · obtain ⟨p, hp, hq⟩ := ih [] (.inl h)
          exact ⟨p, List.mem_cons_of_mem _ hp, hq⟩
      · exact ⟨cur, List.mem_cons_self, h⟩
    · rw [if_neg hb]
      refine ih _ ?_
      rcases h with h | h
      · rcases List.mem_cons.1 h with h | h
        · exact .inr (by rw [h]; simp)
        · exact .inl h
      · exact .inr (by simp [h])
theorem pathOk_blank {s : List UInt8} (h : (32 : UInt8) ∈ s) : pathOk (bA s) = false := by
  unfold pathOk
  obtain ⟨p, hp, hq⟩ := parts_has 32 (by decide) s [] (.inl h)
  have : (piecesB (bA s)).all nameOk = false := by
    rw [List.all_eq_false]
    refine ⟨bA p, ?_, by rw [nmOk_blank hq]; simp⟩
    unfold piecesB
    exact List.mem_map.2 ⟨p, hp, rfl⟩
  rw [this, Bool.and_false]
theorem okP_blank {lines k : Nat} {g : List UInt8} (hk : k ≠ 6) (h : (32 : UInt8) ∈ g) : okP lines k g = false := by
  have h1 := regF_blank h
  have h2 := numF_blank h
  have h3 := pathOk_blank h
  have h4 : g ≠ [46] := by intro e; rw [e] at h; simp at h
  unfold okP
  simp [h1, h2, h3, h4, hk]
theorem allP_app (lines : Nat) : ∀ (ks : List Nat) (gs : List (List UInt8)) (k : Nat) (g : List UInt8), ks.length = gs.length → allP lines (ks ++ [k]) (gs ++ [g]) = (allP lines ks gs && okP lines k g) := by
  intro ks
  induction ks with
  | nil =>
    intro gs k g h
    obtain rfl := List.length_eq_zero_iff.1 h.symm
    show (okP lines k g && true) = (true && okP lines k g)
    rw [Bool.and_true, Bool.true_and]
  | cons a ks ih =>
    intro gs k g h
    cases gs with
    | nil => cases h
    | cons b gs =>
      show (okP lines a b && allP lines (ks ++ [k]) (gs ++ [g])) = ((okP lines a b && allP lines ks gs) && okP lines k g)
      rw [ih gs k g (by simpa using h), Bool.and_assoc]
theorem lookup_mem {f : List Nat} (w : List UInt8) : ∀ (L : List (List UInt8 × List Nat)), L.lookup w = some f → (w, f) ∈ L := by
  intro L
  induction L with
  | nil => intro h; cases h
  | cons a L ih =>
    intro h
    obtain ⟨a1, a2⟩ := a
    rw [List.lookup_cons] at h
    split at h
    · rename_i he
      injection h with h
      rw [h, eq_of_beq he]
      exact List.mem_cons_self
    · exact List.mem_cons_of_mem _ (ih h)
theorem frmF_mem {w : List UInt8} {f : List Nat} (h : frmF w = some f) : f ∈ frmL.map (·.2) := List.mem_map.2 ⟨(w, f), lookup_mem w _ h, rfl⟩
theorem frm_last : ∀ f ∈ frmL.map (·.2), f ≠ [0, 6] → ∃ ks k, f = ks ++ [k] ∧ k ≠ 6 := by
  intro f hf hn
  simp only [frmL, List.map_cons, List.map_nil, List.mem_cons, List.not_mem_nil, or_false] at hf
  rcases hf with rfl | rfl | rfl | rfl | rfl | rfl | rfl | rfl | rfl | rfl | rfl | rfl | rfl
  · exact absurd rfl hn
  · exact ⟨[0], 7, rfl, by decide⟩
  · exact ⟨[0], 8, rfl, by decide⟩
  · exact ⟨[0], 1, rfl, by decide⟩
  · exact ⟨[0, 2], 3, rfl, by decide⟩
  · exact ⟨[0], 1, rfl, by decide⟩
  · exact ⟨[], 0, rfl, by decide⟩
  · exact ⟨[7], 0, rfl, by decide⟩
  · exact ⟨[7], 0, rfl, by decide⟩
  · exact ⟨[0, 1], 4, rfl, by decide⟩
  · exact ⟨[0, 1], 4, rfl, by decide⟩
  · exact ⟨[], 4, rfl, by decide⟩
  · exact ⟨[], 5, rfl, by decide⟩
/-- The program and the document take the same lines. -/
theorem linF_rig (lines : Nat) (s : List UInt8) : (linF lines s).isSome = rigF lines s := by
  unfold linF rigF
  cases hf : frmF (Lib.cut s [32]).1 with
  | none => rfl
  | some f =>
    have hm := frmF_mem hf
    simp only
    rcases Nat.lt_trichotomy (wdL [] s).length (f.length + 1) with h | h | h
    · rw [wdN_le f.length s (by omega), if_pos (by omega)]
      by_cases h6 : f = [0, 6]
      · rw [if_pos h6]
        subst h6
        rw [show decide (3 ≤ (wdL [] s).length) = false from by simp; simp at h; omega]
        rfl
      · rw [if_neg h6, show decide ((wdL [] s).length = f.length + 1) = false from by simp; omega]
        rfl
    · rw [wdN_le f.length s (by omega), if_neg (by omega), foldP_ok]
      by_cases h6 : f = [0, 6]
      · rw [if_pos h6]
        subst h6
        rw [show decide (3 ≤ (wdL [] s).length) = true from by simp; simp at h; omega]
        cases hw : wdL [] s with
        | nil => rw [hw] at h; cases h
        | cons a l =>
          cases l with
          | nil => rw [hw] at h; cases h
          | cons b l => cases l with
            | nil => rw [hw] at h; cases h
            | cons c l => simp [allP, okP]
      · rw [if_neg h6, decide_eq_true h, Bool.true_and]
    · obtain ⟨r, hr, he⟩ := wdN_gt f.length s h
      have hl : (wdN f.length s).length = f.length + 1 := by rw [he, List.length_append, List.length_take]; simp; omega
      rw [if_neg (by omega), foldP_ok, he]
      by_cases h6 : f = [0, 6]
      · rw [if_pos h6]
        subst h6
        rw [show decide (3 ≤ (wdL [] s).length) = true from by simp; simp at h; omega]
        cases hw : wdL [] s with
        | nil => rw [hw] at h; cases h
        | cons a l =>
          cases l with
          | nil => rw [hw] at h; simp at h
          | cons b l => simp [allP, okP]
      · rw [if_neg h6, show decide ((wdL [] s).length = f.length + 1) = false from by simp; omega, Bool.false_and]
        obtain ⟨ks, k, hfk, hk⟩ := frm_last f hm h6
        cases hw : wdL [] s with
        | nil => rw [hw] at h; cases h
        | cons a l =>
          have hfl : f.length = ks.length + 1 := by rw [hfk]; simp
          rw [hfl, List.take_succ_cons, List.cons_append, List.tail_cons, hfk, allP_app, okP_blank hk hr, Bool.and_false]
          rw [List.length_take]
          rw [hw] at h
          simp at h
          omega
end Go.Proofs.YtcpomkgfcpfedaaGreatDoor
