/- What wire's packer does with a result, and Result. -/
import Derived.Test.YtmjemnmcndajpaaDoorPackT
import Derived.Test.YtmjemnmcndajpaaDoorDig
namespace Go.Proofs.YtmjemnmcndajpaaDoor
open Go.RowKit Go.Shelf

abbrev Rv (c : Int) (s : ByteArray) (d : Int) : Value := .agg #[.int .i64 c, .string s, .int .i64 d]
def noN (n : Int) : Bool := decide (n < 0) || decide (9007199254740991 < n)
theorem noN_false {n : Int} (h : noN n = false) : 0 ≤ n ∧ n ≤ 9007199254740991 := by simp [noN] at h; omega
theorem isNoNumber_noN (n : Int) (w : World) : Calls Tryd.prog 36 #[.int .i64 n] w fun e w' => e = .returned (.bool (noN n)) ∧ w' = w := isNoNumber_any n w
theorem bcell {W w1 : World} (hb : Below W.heap.size W w1) : (∀ b o, b < W.heap.size → w1.cell? ⟨b, o, none⟩ = W.cell? ⟨b, o, none⟩) ∧ (∀ b o, b < W.heap.size → w1.frozen? ⟨b, o, none⟩ = W.frozen? ⟨b, o, none⟩) :=
  ⟨fun b o h => hb.cell (p := ⟨b, o, none⟩) h, fun b o h => hb.frozen (p := ⟨b, o, none⟩) h⟩

def pkR (c : Nat) (s : ByteArray) (d : Nat) : List UInt8 := pk c ++ (pkT s ++ pk d)

theorem pk_alloc {B b : Nat} {bs : List Value} {w : World} (h : PkIs B b bs w) (o : Obj) : PkIs B b bs (w.alloc o) := by
  rcases h with ⟨hB, v, hh, hown, hne⟩ | ⟨hB, v, hh, hown, hne⟩
  · exact Or.inl ⟨hB, v, (Lib.alloc_old w o b (Array.getElem?_eq_some_iff.1 hh).1).trans hh, hown.alloc o, hne⟩
  · exact Or.inr ⟨hB, v, (Lib.alloc_old w o b (Array.getElem?_eq_some_iff.1 hh).1).trans hh, hown.alloc o, hne⟩
theorem pk_lt {B b : Nat} {bs : List Value} {w : World} (h : PkIs B b bs w) : b < w.heap.size := by
  rcases h with h | h
  · exact h.lt
  · exact h.lt
theorem kp_cells {B b k : Nat} {w w' : World} {c : Array Value} {T : TypeId} (h : Kp B b w w') (hk : w.heap[k]? = some (.cells c T (0, 0))) (hb : k ≠ b) (hT : T ≠ 5) : w'.heap[k]? = some (.cells c T (0, 0)) :=
  h.2 k _ hk (fun e => hb (Option.some.inj e)) (fun c' fz e => hT (by injection e))

theorem digOk_size {s : ByteArray} (h : digOk s = true) : s.size = 64 := by
  unfold digOk at h
  rw [Bool.and_eq_true] at h
  simpa using h.1
theorem pkR_len (c d : Nat) (s : ByteArray) (hc : c ≤ 9007199254740991) (hd : d ≤ 9007199254740991) (hs : s.size ≤ 100000) : (pkR c s d).length ≤ 100024 := by
  have h1 := pk_len8 c hc
  have h2 := pk_len8 d hd
  have h3 := pk_len8 s.size (by omega)
  have h4 := size_of (s := s) rfl
  simp only [pkR, pkT, List.length_append]
  omega

def okR (c : Int) (s : ByteArray) (d : Int) : Prop := noN c = false ∧ noN d = false ∧ digOk s = true
end Go.Proofs.YtmjemnmcndajpaaDoor
