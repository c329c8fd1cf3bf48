/- What wire's packer does with a result, and Result. -/
import Derived.Test.YtligalcphlfmcadPackT
import Derived.Test.YtligalcphlfmcadDig
namespace Go.Proofs.Ytligalcphlfmcad
open Go.RowKit Go.Shelf

abbrev Rv (c : Int) (s : ByteArray) (d : Int) : Value := .agg #[.int .i64 c, .string s, .int .i64 d]
def noN (n : Int) : Bool := decide (n < 0) || decide (9007199254740991 < n)
theorem noN_false {n : Int} (h : noN n = false) : 0 ≤ n ∧ n ≤ 9007199254740991 := by simp [noN] at h; omega
theorem isNoNumber_noN (n : Int) (w : World) : Calls Try.prog 26 #[.int .i64 n] w fun e w' => e = .returned (.bool (noN n)) ∧ w' = w := isNoNumber_any n w
theorem bcell {W w1 : World} (hb : Below W.heap.size W w1) : (∀ b o, b < W.heap.size → w1.cell? ⟨b, o, none⟩ = W.cell? ⟨b, o, none⟩) ∧ (∀ b o, b < W.heap.size → w1.frozen? ⟨b, o, none⟩ = W.frozen? ⟨b, o, none⟩) :=
  ⟨fun b o h => hb.cell (p := ⟨b, o, none⟩) h, fun b o h => hb.frozen (p := ⟨b, o, none⟩) h⟩

set_option maxHeartbeats 1000000 in
theorem re_any (c d : Int) (s : ByteArray) (w : World) :
    Calls Try.prog 21 #[Rv c s d] w fun e w' => (noN c = true → e = .returned (.int .i64 3)) ∧ (noN c = false → noN d = true → e = .returned (.int .i64 3)) ∧ (noN c = false → noN d = false → digOk s = false → e = .returned (.int .i64 1)) ∧ (noN c = false → noN d = false → digOk s = true → e = .returned (.int .i64 0)) ∧ Below w.heap.size w w' := by
  by_cases h1 : noN c = true
  · go_enter Try.func21, Try.ntmps21
    go_wp2_with fail
    refine (isNoNumber_noN c _).mono ?_
    rintro e w1 ⟨rfl, rfl⟩
    rw [h1]
    go_wp2
    go_ret
    exact ⟨fun _ => rfl, by simp [h1], by simp [h1], by simp [h1], (Below.refl _ _).alloc (Nat.le_refl _) _⟩
  have h1' : noN c = false := by simpa using h1
  clear h1
  by_cases h2 : noN d = true
  · go_enter Try.func21, Try.ntmps21
    go_wp2_with fail
    refine (isNoNumber_noN c _).mono ?_
    rintro e w1 ⟨rfl, rfl⟩
    rw [h1']
    go_wp2_with fail
    refine (isNoNumber_noN d _).mono ?_
    rintro e w1 ⟨rfl, rfl⟩
    rw [h2]
    go_wp2
    go_ret
    exact ⟨by simp [h1'], fun _ _ => rfl, by simp [h2], by simp [h2], (Below.refl _ _).alloc (Nat.le_refl _) _⟩
  have h2' : noN d = false := by simpa using h2
  clear h2
  by_cases h3 : digOk s = true
  · go_enter Try.func21, Try.ntmps21
    go_wp2_with fail
    refine (isNoNumber_noN c _).mono ?_
    rintro e w1 ⟨rfl, rfl⟩
    rw [h1']
    go_wp2_with fail
    refine (isNoNumber_noN d _).mono ?_
    rintro e w1 ⟨rfl, rfl⟩
    rw [h2']
    go_wp2_with fail
    refine (Is_any s _).mono ?_
    rintro e w1 ⟨rfl, rfl⟩
    rw [h3]
    go_wp2
    go_ret
    exact ⟨by simp [h1'], by simp [h2'], by simp [h3], fun _ _ _ => rfl, (Below.refl _ _).alloc (Nat.le_refl _) _⟩
  have h3' : digOk s = false := by simpa using h3
  clear h3
  go_enter Try.func21, Try.ntmps21
  go_wp2_with fail
  refine (isNoNumber_noN c _).mono ?_
  rintro e w1 ⟨rfl, rfl⟩
  rw [h1']
  go_wp2_with fail
  refine (isNoNumber_noN d _).mono ?_
  rintro e w1 ⟨rfl, rfl⟩
  rw [h2']
  go_wp2_with fail
  refine (Is_any s _).mono ?_
  rintro e w1 ⟨rfl, rfl⟩
  rw [h3']
  go_wp2
  go_ret
  exact ⟨by simp [h1'], by simp [h2'], fun _ _ _ => rfl, by simp [h3'], (Below.refl _ _).alloc (Nat.le_refl _) _⟩

def pkR (c : Nat) (s : ByteArray) (d : Nat) : List UInt8 := pk c ++ (pkT s ++ pk d)

theorem pk_alloc {B b : Nat} {bs : List Value} {w : World} (h : PkIs B b bs w) (o : Obj) : PkIs B b bs (w.alloc o) := by
  rcases h with ⟨hB, v, hh, hown, hne⟩ | ⟨hB, v, hh, hown, hne⟩
  · exact Or.inl ⟨hB, v, (Lib.alloc_old w o b (Array.getElem?_eq_some_iff.1 hh).1).trans hh, hown.alloc o, hne⟩
  · exact Or.inr ⟨hB, v, (Lib.alloc_old w o b (Array.getElem?_eq_some_iff.1 hh).1).trans hh, hown.alloc o, hne⟩
theorem pk_lt {B b : Nat} {bs : List Value} {w : World} (h : PkIs B b bs w) : b < w.heap.size := by
  rcases h with h | h
  · exact h.lt
  · exact h.lt
theorem kp_cells {B b k : Nat} {w w' : World} {c : Array Value} {T : TypeId} (h : Kp B b w w') (hk : w.heap[k]? = some (.cells c T (0, 0))) (hb : k ≠ b) (hT : T ≠ 5) : w'.heap[k]? = some (.cells c T (0, 0)) :=
  h.2 k _ hk (fun e => hb (Option.some.inj e)) (fun c' fz e => hT (by injection e))

theorem digOk_size {s : ByteArray} (h : digOk s = true) : s.size = 64 := by
  unfold digOk at h
  rw [Bool.and_eq_true] at h
  simpa using h.1
theorem pkR_len (c d : Nat) (s : ByteArray) (hc : c ≤ 9007199254740991) (hd : d ≤ 9007199254740991) (hs : s.size ≤ 100000) : (pkR c s d).length ≤ 100024 := by
  have h1 := pk_len8 c hc
  have h2 := pk_len8 d hd
  have h3 := pk_len8 s.size (by omega)
  have h4 := size_of (s := s) rfl
  simp only [pkR, pkT, List.length_append]
  omega

def okR (c : Int) (s : ByteArray) (d : Int) : Prop := noN c = false ∧ noN d = false ∧ digOk s = true

def reC (c : Int) (s : ByteArray) (d : Int) : Int := if noN c = true then 3 else if noN d = true then 3 else if digOk s = true then 0 else 1
theorem re_code (c d : Int) (s : ByteArray) (w : World) :
    Calls Try.prog 21 #[Rv c s d] w fun e w' => e = .returned (.int .i64 (reC c s d)) ∧ Below w.heap.size w w' := by
  refine (re_any c d s w).mono ?_
  rintro e w' ⟨h1, h2, h3, h4, hb⟩
  refine ⟨?_, hb⟩
  unfold reC
  by_cases a1 : noN c = true
  · rw [if_pos a1]; exact h1 a1
  rw [if_neg a1]
  have a1' : noN c = false := by simpa using a1
  by_cases a2 : noN d = true
  · rw [if_pos a2]; exact h2 a1' a2
  rw [if_neg a2]
  have a2' : noN d = false := by simpa using a2
  by_cases a3 : digOk s = true
  · rw [if_pos a3]; exact h4 a1' a2' a3
  · rw [if_neg a3]; exact h3 a1' a2' (by simpa using a3)
theorem reC_ne (c d : Int) (s : ByteArray) (h : ¬ okR c s d) : (reC c s d != 0) = true := by
  unfold reC
  by_cases a1 : noN c = true
  · rw [if_pos a1]; rfl
  rw [if_neg a1]
  by_cases a2 : noN d = true
  · rw [if_pos a2]; rfl
  rw [if_neg a2]
  by_cases a3 : digOk s = true
  · exact absurd ⟨by simpa using a1, by simpa using a2, a3⟩ h
  · rw [if_neg a3]; rfl
theorem reC_ok (c d : Int) (s : ByteArray) (h : okR c s d) : reC c s d = 0 := by
  obtain ⟨h1, h2, h3⟩ := h
  simp [reC, h1, h2, h3]
end Go.Proofs.Ytligalcphlfmcad
