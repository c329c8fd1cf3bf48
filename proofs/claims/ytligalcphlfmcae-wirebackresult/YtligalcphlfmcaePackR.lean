/- What wire's packer does with a result, and Result. -/
import Derived.Test.YtligalcphlfmcaePackT
import Derived.Test.YtligalcphlfmcaeDig
namespace Go.Proofs.Ytligalcphlfmcae
open Go.RowKit Go.Shelf

abbrev Rv (c : Int) (s : ByteArray) (d : Int) : Value := .agg #[.int .i64 c, .string s, .int .i64 d]
def noN (n : Int) : Bool := decide (n < 0) || decide (9007199254740991 < n)
theorem noN_false {n : Int} (h : noN n = false) : 0 ≤ n ∧ n ≤ 9007199254740991 := by simp [noN] at h; omega
theorem isNoNumber_noN (n : Int) (w : World) : Calls Try.prog 16 #[.int .i64 n] w fun e w' => e = .returned (.bool (noN n)) ∧ w' = w := isNoNumber_any n w
theorem bcell {W w1 : World} (hb : Below W.heap.size W w1) : (∀ b o, b < W.heap.size → w1.cell? ⟨b, o, none⟩ = W.cell? ⟨b, o, none⟩) ∧ (∀ b o, b < W.heap.size → w1.frozen? ⟨b, o, none⟩ = W.frozen? ⟨b, o, none⟩) :=
  ⟨fun b o h => hb.cell (p := ⟨b, o, none⟩) h, fun b o h => hb.frozen (p := ⟨b, o, none⟩) h⟩

set_option maxHeartbeats 1000000 in
theorem re_any (c d : Int) (s : ByteArray) (w : World) :
    Calls Try.prog 11 #[Rv c s d] w fun e w' => (noN c = true → e = .returned (.int .i64 3)) ∧ (noN c = false → noN d = true → e = .returned (.int .i64 3)) ∧ (noN c = false → noN d = false → digOk s = false → e = .returned (.int .i64 1)) ∧ (noN c = false → noN d = false → digOk s = true → e = .returned (.int .i64 0)) ∧ Below w.heap.size w w' := by
  by_cases h1 : noN c = true
  · go_enter Try.func11, Try.ntmps11
    go_wp2_with fail
    refine (isNoNumber_noN c _).mono ?_
    rintro e w1 ⟨rfl, rfl⟩
    rw [h1]
    go_wp2
    go_ret
    exact ⟨fun _ => rfl, by simp [h1], by simp [h1], by simp [h1], (Below.refl _ _).alloc (Nat.le_refl _) _⟩
  have h1' : noN c = false := by simpa using h1
  clear h1
  by_cases h2 : noN d = true
  · go_enter Try.func11, Try.ntmps11
    go_wp2_with fail
    refine (isNoNumber_noN c _).mono ?_
    rintro e w1 ⟨rfl, rfl⟩
    rw [h1']
    go_wp2_with fail
    refine (isNoNumber_noN d _).mono ?_
    rintro e w1 ⟨rfl, rfl⟩
    rw [h2]
    go_wp2
    go_ret
    exact ⟨by simp [h1'], fun _ _ => rfl, by simp [h2], by simp [h2], (Below.refl _ _).alloc (Nat.le_refl _) _⟩
  have h2' : noN d = false := by simpa using h2
  clear h2
  by_cases h3 : digOk s = true
  · go_enter Try.func11, Try.ntmps11
    go_wp2_with fail
    refine (isNoNumber_noN c _).mono ?_
    rintro e w1 ⟨rfl, rfl⟩
    rw [h1']
    go_wp2_with fail
    refine (isNoNumber_noN d _).mono ?_
    rintro e w1 ⟨rfl, rfl⟩
    rw [h2']
    go_wp2_with fail
    refine (Is_any s _).mono ?_
    rintro e w1 ⟨rfl, rfl⟩
    rw [h3]
    go_wp2
    go_ret
    exact ⟨by simp [h1'], by simp [h2'], by simp [h3], fun _ _ _ => rfl, (Below.refl _ _).alloc (Nat.le_refl _) _⟩
  have h3' : digOk s = false := by simpa using h3
  clear h3
  go_enter Try.func11, Try.ntmps11
  go_wp2_with fail
  refine (isNoNumber_noN c _).mono ?_
  rintro e w1 ⟨rfl, rfl⟩
  rw [h1']
  go_wp2_with fail
  refine (isNoNumber_noN d _).mono ?_
  rintro e w1 ⟨rfl, rfl⟩
  rw [h2']
  go_wp2_with fail
  refine (Is_any s _).mono ?_
  rintro e w1 ⟨rfl, rfl⟩
  rw [h3']
  go_wp2
  go_ret
  exact ⟨by simp [h1'], by simp [h2'], fun _ _ _ => rfl, by simp [h3'], (Below.refl _ _).alloc (Nat.le_refl _) _⟩

def pkR (c : Nat) (s : ByteArray) (d : Nat) : List UInt8 := pk c ++ (pkT s ++ pk d)

theorem pk_alloc {B b : Nat} {bs : List Value} {w : World} (h : PkIs B b bs w) (o : Obj) : PkIs B b bs (w.alloc o) := by
  rcases h with ⟨hB, v, hh, hown, hne⟩ | ⟨hB, v, hh, hown, hne⟩
  · exact Or.inl ⟨hB, v, (Lib.alloc_old w o b (Array.getElem?_eq_some_iff.1 hh).1).trans hh, hown.alloc o, hne⟩
  · exact Or.inr ⟨hB, v, (Lib.alloc_old w o b (Array.getElem?_eq_some_iff.1 hh).1).trans hh, hown.alloc o, hne⟩
theorem pk_lt {B b : Nat} {bs : List Value} {w : World} (h : PkIs B b bs w) : b < w.heap.size := by
  rcases h with h | h
  · exact h.lt
  · exact h.lt
theorem kp_cells {B b k : Nat} {w w' : World} {c : Array Value} {T : TypeId} (h : Kp B b w w') (hk : w.heap[k]? = some (.cells c T (0, 0))) (hb : k ≠ b) (hT : T ≠ 5) : w'.heap[k]? = some (.cells c T (0, 0)) :=
  h.2 k _ hk (fun e => hb (Option.some.inj e)) (fun c' fz e => hT (by injection e))

set_option maxHeartbeats 2000000 in
set_option maxRecDepth 100000 in
theorem pk_result (B b c d : Nat) (s : ByteArray) (bs : List Value) (w : World) (h : PkIs B b bs w) (hc : c ≤ 9007199254740991) (hd : d ≤ 9007199254740991) (hs : s.size ≤ 100000) (hlen : bs.length + (pkR c s d).length ≤ 140737488355328) (hBw : B ≤ w.heap.size) :
    Calls Try.prog 13 #[.pointer (some ⟨b, 0, none⟩), Rv c s d] w fun e w' => e = .returned (.tuple #[]) ∧ (PkIs B b (bs ++ Lib.byteCells (pkR c s d)) w' ∧ Kp B b w w') := by
  have hbl := pk_lt h
  have k0 : Kp B b w (w.alloc (.cells #[.int .i64 c, .string s, .int .i64 d] 23)) := ⟨(Below.refl _ _).alloc hBw _, (Lib.OthersKept.refl _ _ _).alloc _⟩
  have hx0 : (w.alloc (.cells #[.int .i64 c, .string s, .int .i64 d] 23)).heap[w.heap.size]? = some (.cells #[.int .i64 c, .string s, .int .i64 d] 23 (0, 0)) := heap_alloc_new w _
  have p0 := pk_alloc h (.cells #[.int .i64 c, .string s, .int .i64 d] 23)
  have hl : (pkR c s d).length = (pk c).length + ((pkT s).length + (pk d).length) := by simp [pkR]
  have K0 : Hid (Kp B b w (w.alloc (.cells #[.int .i64 c, .string s, .int .i64 d] 23))) := k0
  have P0 : Hid (PkIs B b bs (w.alloc (.cells #[.int .i64 c, .string s, .int .i64 d] 23))) := p0
  have X0 : Hid _ := hx0
  have hbw : B ≤ (w.alloc (.cells #[.int .i64 c, .string s, .int .i64 d] 23)).heap.size := Nat.le_trans hBw k0.size
  clear k0 hx0 p0 h
  go_enter Try.func13, Try.ntmps13
  go_wp2_with fail
  refine (number_any B b c bs _ P0.out hc (by omega) hbw).mono ?_
  rintro e w1 ⟨rfl, h1, hk1⟩
  have x1 := kp_cells hk1 X0.out (by omega) (by decide)
  have q1 : w1.cell? ⟨w.heap.size, 1, none⟩ = some (.string s) := by rw [Lib.cell_of_heap x1]; rfl
  have K1 : Hid (Kp B b w w1) := K0.out.trans hk1
  have P1 : Hid (PkIs B b (bs ++ Lib.byteCells (pk c)) w1) := h1
  have X1 : Hid _ := x1
  clear h1 hk1 x1
  go_wp2_with fail
  refine (pk_text B b _ s w1 P1.out (by omega) (by simp [Lib.byteCells]; omega) (Nat.le_trans hBw K1.out.size)).mono ?_
  rintro e w2 ⟨rfl, h2, hk2⟩
  have x2 := kp_cells hk2 X1.out (by omega) (by decide)
  have q2 : w2.cell? ⟨w.heap.size, 2, none⟩ = some (.int .i64 d) := by rw [Lib.cell_of_heap x2]; rfl
  have K2 : Hid (Kp B b w w2) := K1.out.trans hk2
  have P2 : Hid (PkIs B b (bs ++ Lib.byteCells (pk c) ++ Lib.byteCells (pkT s)) w2) := h2
  clear h2 hk2 x2
  go_wp2_with fail
  refine (number_any B b d _ w2 P2.out hd (by simp [Lib.byteCells]; omega) (Nat.le_trans hBw K2.out.size)).mono ?_
  rintro e w3 ⟨rfl, h3, hk3⟩
  go_wp2
  go_end0
  refine ⟨rfl, ?_, K2.out.trans hk3⟩
  unfold pkR
  rw [byteCells_app, byteCells_app, ← List.append_assoc, ← List.append_assoc]
  exact h3

theorem digOk_size {s : ByteArray} (h : digOk s = true) : s.size = 64 := by
  unfold digOk at h
  rw [Bool.and_eq_true] at h
  simpa using h.1
theorem pkR_len (c d : Nat) (s : ByteArray) (hc : c ≤ 9007199254740991) (hd : d ≤ 9007199254740991) (hs : s.size ≤ 100000) : (pkR c s d).length ≤ 100024 := by
  have h1 := pk_len8 c hc
  have h2 := pk_len8 d hd
  have h3 := pk_len8 s.size (by omega)
  have h4 := size_of (s := s) rfl
  simp only [pkR, pkT, List.length_append]
  omega

set_option maxHeartbeats 1000000 in
set_option maxRecDepth 100000 in
theorem packed_result (c d : Nat) (s : ByteArray) (w : World) (hc : c ≤ 9007199254740991) (hd : d ≤ 9007199254740991) (hs : s.size ≤ 100000) :
    Calls Try.prog 12 #[Rv c s d, .func (.func 13) #[] #[]] w fun e w' => e = .returned (.string ⟨(pkR c s d).toArray⟩) ∧ Below w.heap.size w w' := by
  have hl := pkR_len c d s hc hd hs
  have hpos := pk_pos c
  go_enter Try.func12, Try.ntmps12
  have hf : PkIs (w.heap.size + 1) (w.heap.size + 1) [] ((w.alloc (.cells #[.int .i64 c, .string s, .int .i64 d] 23)).alloc (.cells #[.pointer none, .slice none 0 0] 63)) := by
    have := Lib.fresh_isBuilder 63 5 (w.alloc (.cells #[.int .i64 c, .string s, .int .i64 d] 23))
    simpa only [World.size_alloc] using this
  have HF : Hid (PkIs (w.heap.size + 1) (w.heap.size + 1) [] ((w.alloc (.cells #[.int .i64 c, .string s, .int .i64 d] 23)).alloc (.cells #[.pointer none, .slice none 0 0] 63))) := hf
  have HB : Hid (Below w.heap.size w ((w.alloc (.cells #[.int .i64 c, .string s, .int .i64 d] 23)).alloc (.cells #[.pointer none, .slice none 0 0] 63))) := ((Below.refl _ _).alloc (Nat.le_refl _) _).alloc (by simp) _
  clear hf
  go_wp2_with fail
  refine (pk_result (w.heap.size + 1) (w.heap.size + 1) c d s [] _ HF.out hc hd hs (by simp only [List.length_nil]; omega) (by simp)).mono ?_
  rintro e w1 ⟨rfl, h1, hk1⟩
  have H1 : Hid (PkIs (w.heap.size + 1) (w.heap.size + 1) (Lib.byteCells (pkR c s d)) w1) := by show PkIs _ _ _ _; simpa using h1
  have B1 : Hid (Below w.heap.size w w1) := HB.out.trans (hk1.bel.mono (by omega))
  clear h1 hk1
  go_wp2_with fail
  refine (st_any (w.heap.size + 1) (w.heap.size + 1) (pkR c s d) w1 H1.out (by intro h; unfold pkR at h; rw [List.append_eq_nil_iff] at h; rw [h.1] at hpos; simp at hpos)).mono ?_
  rintro e w2 ⟨rfl, hb2⟩
  go_wp2
  go_ret
  exact ⟨rfl, B1.out.trans (hb2.mono (by omega))⟩

def okR (c : Int) (s : ByteArray) (d : Int) : Prop := noN c = false ∧ noN d = false ∧ digOk s = true

set_option maxHeartbeats 1000000 in
set_option maxRecDepth 100000 in
theorem Result_yes (c d : Nat) (s : ByteArray) (w : World) (h : okR c s d) :
    Calls Try.prog 5 #[Rv c s d] w fun e w' => e = .returned (.tuple #[.string ⟨(pkR c s d).toArray⟩, .int .i64 0]) ∧ Below w.heap.size w w' := by
  obtain ⟨h1, h2, h3⟩ := h
  have g1 := noN_false h1
  have g2 := noN_false h2
  have g3 := digOk_size h3
  have H1 : Hid _ := h1
  have H2 : Hid _ := h2
  have H3 : Hid _ := h3
  have G1 : Hid _ := g1
  have G2 : Hid _ := g2
  have G3 : Hid _ := g3
  have hb0 : Below w.heap.size w (w.alloc (.cells #[.int .i64 c, .string s, .int .i64 d] 23)) := (Below.refl _ _).alloc (Nat.le_refl _) _
  have HB0 : Hid _ := hb0
  clear h1 h2 h3 g1 g2 g3 hb0
  go_enter Try.func5, Try.ntmps5
  go_wp2_with fail
  refine (re_any c d s _).mono ?_
  rintro e w1 ⟨_, _, _, h4, hb1⟩
  obtain rfl := h4 H1.out H2.out H3.out
  obtain ⟨hcl, hfr⟩ := bcell hb1
  have HB1 : Hid (Below w.heap.size w w1) := HB0.out.trans (hb1.mono (by simp))
  clear hb1 h4
  go_wp2_with fail
  refine (packed_result c d s w1 (by have := G1.out; omega) (by have := G2.out; omega) (by have := G3.out; omega)).mono ?_
  rintro e w2 ⟨rfl, hb2⟩
  go_wp2
  go_ret2
  exact ⟨rfl, HB1.out.trans (hb2.mono HB1.out.size)⟩

def reC (c : Int) (s : ByteArray) (d : Int) : Int := if noN c = true then 3 else if noN d = true then 3 else if digOk s = true then 0 else 1
theorem re_code (c d : Int) (s : ByteArray) (w : World) :
    Calls Try.prog 11 #[Rv c s d] w fun e w' => e = .returned (.int .i64 (reC c s d)) ∧ Below w.heap.size w w' := by
  refine (re_any c d s w).mono ?_
  rintro e w' ⟨h1, h2, h3, h4, hb⟩
  refine ⟨?_, hb⟩
  unfold reC
  by_cases a1 : noN c = true
  · rw [if_pos a1]; exact h1 a1
  rw [if_neg a1]
  have a1' : noN c = false := by simpa using a1
  by_cases a2 : noN d = true
  · rw [if_pos a2]; exact h2 a1' a2
  rw [if_neg a2]
  have a2' : noN d = false := by simpa using a2
  by_cases a3 : digOk s = true
  · rw [if_pos a3]; exact h4 a1' a2' a3
  · rw [if_neg a3]; exact h3 a1' a2' (by simpa using a3)
theorem reC_ne (c d : Int) (s : ByteArray) (h : ¬ okR c s d) : (reC c s d != 0) = true := by
  unfold reC
  by_cases a1 : noN c = true
  · rw [if_pos a1]; rfl
  rw [if_neg a1]
  by_cases a2 : noN d = true
  · rw [if_pos a2]; rfl
  rw [if_neg a2]
  by_cases a3 : digOk s = true
  · exact absurd ⟨by simpa using a1, by simpa using a2, a3⟩ h
  · rw [if_neg a3]; rfl
theorem reC_ok (c d : Int) (s : ByteArray) (h : okR c s d) : reC c s d = 0 := by
  obtain ⟨h1, h2, h3⟩ := h
  simp [reC, h1, h2, h3]

set_option maxHeartbeats 1000000 in
theorem Result_no (c d : Int) (s : ByteArray) (w : World) (h : ¬ okR c s d) :
    Calls Try.prog 5 #[Rv c s d] w fun e w' => e = .returned (.tuple #[.string ⟨#[]⟩, .int .i64 (reC c s d)]) ∧ Below w.heap.size w w' := by
  have hb0 : Below w.heap.size w (w.alloc (.cells #[.int .i64 c, .string s, .int .i64 d] 23)) := (Below.refl _ _).alloc (Nat.le_refl _) _
  have HB0 : Hid _ := hb0
  have hne := reC_ne c d s h
  clear hb0 h
  go_enter Try.func5, Try.ntmps5
  go_wp2_with fail
  refine (re_code c d s _).mono ?_
  rintro e w1 ⟨rfl, hb1⟩
  have HB1 : Hid (Below w.heap.size w w1) := HB0.out.trans (hb1.mono (by simp))
  clear hb1
  generalize hr : reC c s d = r at hne ⊢
  have HR : Hid (reC c s d = r) := hr
  clear hr
  go_wp2
  go_ret2
  exact ⟨by rw [HR.out]; rfl, HB1.out⟩
end Go.Proofs.Ytligalcphlfmcae
