/- Parts between slashes: as the library splits a text, and as one reads byte by byte. -/
import Derived.Test.YtcpomkgfcpfedaaGreatDoorNames
import Derived.Shelf.Strings.Split
namespace Go.Proofs.YtcpomkgfcpfedaaGreatDoor
open Go.RowKit Go.Shelf

/-- The parts of a text between slashes, behind cur. -/
def parts : List UInt8 → List UInt8 → List (List UInt8)
  | cur, [] => [cur]
  | cur, c :: l => if c = 47 then cur :: parts [] l else parts (cur ++ [c]) l

theorem parts_ne (l : List UInt8) : ∀ cur, parts cur l ≠ [] := by
  induction l with
  | nil => intro cur h; cases h
  | cons c l ih =>
    intro cur
    unfold parts
    by_cases h : c = 47
    · rw [if_pos h]; intro h'; cases h'
    · rw [if_neg h]; exact ih _
theorem parts_slash (l : List UInt8) : ∀ cur, parts cur (l ++ [47]) = parts cur l ++ [[]] := by
  induction l with
  | nil => intro cur; rfl
  | cons c l ih =>
    intro cur
    rw [List.cons_append]
    unfold parts
    by_cases h : c = 47
    · rw [if_pos h, if_pos h, ih]; rfl
    · rw [if_neg h, if_neg h, ih]
theorem parts_snoc (l : List UInt8) (c : UInt8) (hc : c ≠ 47) : ∀ cur, ∃ ps p, parts cur l = ps ++ [p] ∧ parts cur (l ++ [c]) = ps ++ [p ++ [c]] := by
  induction l with
  | nil => intro cur; exact ⟨[], cur, rfl, by show (if c = 47 then _ else _) = _; rw [if_neg hc]; rfl⟩
  | cons b l ih =>
    intro cur
    rw [List.cons_append]
    unfold parts
    by_cases h : b = 47
    · rw [if_pos h, if_pos h]
      obtain ⟨ps, p, e1, e2⟩ := ih []
      exact ⟨cur :: ps, p, by rw [e1]; rfl, by rw [e2]; rfl⟩
    · rw [if_neg h, if_neg h]
      exact ih _
theorem parts_len (l : List UInt8) : ∀ cur, (parts cur l).length ≤ l.length + 1 := by
  induction l with
  | nil => intro cur; exact Nat.le_refl _
  | cons c l ih =>
    intro cur
    unfold parts
    by_cases h : c = 47
    · rw [if_pos h]; have := ih []; simp only [List.length_cons]; omega
    · rw [if_neg h]; have := ih (cur ++ [c]); simp only [List.length_cons]; omega
theorem parts_mem (l : List UInt8) : ∀ cur, ∀ p ∈ parts cur l, p.length ≤ cur.length + l.length := by
  induction l with
  | nil => intro cur p hp; obtain rfl := List.mem_singleton.1 hp; simp
  | cons c l ih =>
    intro cur p hp
    unfold parts at hp
    by_cases h : c = 47
    · rw [if_pos h] at hp
      rcases List.mem_cons.1 hp with rfl | hp
      · simp
      · have := ih [] p hp; simp only [List.length_cons, List.length_nil] at *; omega
    · rw [if_neg h] at hp
      have := ih _ p hp
      simp only [List.length_append, List.length_cons, List.length_nil] at *
      omega

theorem parts_miss (s : List UInt8) : ∀ cur, Lib.indexByte s 47 = -1 → parts cur s = [cur ++ s] := by
  induction s with
  | nil => intro cur _; simp [parts]
  | cons b l ih =>
    intro cur h
    unfold Lib.indexByte at h
    by_cases hb : b = 47
    · rw [hb] at h; simp at h
    · have hb' : (b == 47) = false := beq_eq_false_iff_ne.2 hb
      rw [hb'] at h
      unfold parts
      rw [if_neg hb]
      have hl : Lib.indexByte l 47 = -1 := by
        by_cases h1 : Lib.indexByte l 47 = -1
        · exact h1
        · have := Lib.indexByte_ge l 47
          simp [h1] at h
          omega
      rw [ih _ hl]
      simp
theorem parts_hit (s : List UInt8) : ∀ cur (i : Nat), Lib.indexByte s 47 = i → parts cur s = (cur ++ s.take i) :: parts [] (s.drop (i + 1)) := by
  induction s with
  | nil => intro cur i h; simp [Lib.indexByte] at h
  | cons b l ih =>
    intro cur i h
    unfold Lib.indexByte at h
    by_cases hb : b = 47
    · subst hb
      simp at h
      obtain rfl : i = 0 := by omega
      simp [parts]
    · have hb' : (b == 47) = false := beq_eq_false_iff_ne.2 hb
      rw [hb'] at h
      show (if b = 47 then cur :: parts [] l else parts (cur ++ [b]) l) = _
      rw [if_neg hb]
      have hge := Lib.indexByte_ge l 47
      by_cases h1 : Lib.indexByte l 47 = -1
      · simp [h1] at h
      · simp [h1] at h
        obtain ⟨k, rfl⟩ : ∃ k, i = k + 1 := ⟨i - 1, by omega⟩
        rw [ih (cur ++ [b]) k (by omega)]
        simp

theorem split_parts : ∀ (n : Nat) (s : List UInt8), s.length ≤ n → Lib.splitK [47] 0 (Lib.count s [47]) s = parts [] s := by
  intro n
  induction n with
  | zero =>
    intro s hs
    obtain rfl : s = [] := List.length_eq_zero_iff.1 (by omega)
    rfl
  | succ n ih =>
    intro s hs
    by_cases h : Lib.index s [47] = -1
    · rw [Lib.count_miss h, parts_miss s [] (by rw [← Lib.index_one]; exact h)]
      rfl
    · have hge := Lib.index_ge s [47]
      obtain ⟨i, hi⟩ : ∃ i : Nat, Lib.index s [47] = i := ⟨(Lib.index s [47]).toNat, by omega⟩
      have hm : ¬ (Lib.index s [47] == -1) = true := fun e => h (beq_iff_eq.1 e)
      have hr := Lib.index_room s [47] (by omega)
      rw [Lib.count_hit (by simp) hi, Nat.add_comm, Lib.splitK, if_neg hm, hi]
      have e : ((i : Int)).toNat = i := by omega
      rw [e, parts_hit s [] i (by rw [← Lib.index_one]; exact hi)]
      rw [hi] at hr
      have hd : (s.drop (i + 1)).length ≤ n := by rw [List.length_drop]; simp at hr; omega
      rw [show ([47] : List UInt8).length = 1 from rfl, ih _ hd]
      simp

abbrev slash : ByteArray := ⟨#[47]⟩
def piecesB (s : ByteArray) : List ByteArray := (parts [] s.data.toList).map fun p => ⟨p.toArray⟩
theorem splitB_pieces (s : ByteArray) : Lib.splitB slash 0 (Lib.countB s slash) s = piecesB s := by
  have h := Lib.splitB_data slash 0 (Lib.countB s slash) s
  have h2 : Lib.splitK slash.data.toList 0 (Lib.countB s slash) s.data.toList = parts [] s.data.toList := split_parts _ _ (Nat.le_refl _)
  rw [h2] at h
  unfold piecesB
  rw [← h, List.map_map]
  conv => lhs; rw [← List.map_id (Lib.splitB slash 0 (Lib.countB s slash) s)]
  exact List.map_congr_left fun x _ => rfl
def pathOk (s : ByteArray) : Bool := decide (s.size ≤ 100) && (piecesB s).all nameOk
end Go.Proofs.YtcpomkgfcpfedaaGreatDoor
