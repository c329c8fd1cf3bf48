/- What wire's packer does with an action, and Action. -/
import Derived.Test.YtmjemnmcndajpaaDoorAct
namespace Go.Proofs.YtmjemnmcndajpaaDoor
open Go.RowKit Go.Shelf

def pkL (ss : List ByteArray) : List UInt8 := pk ss.length ++ pkSS ss
def pkA (cs : List ByteArray) (i : ByteArray) (os : List ByteArray) (f : Nat) : List UInt8 := pkL cs ++ (pkT i ++ (pkL os ++ pk f))

set_option maxHeartbeats 2000000 in
set_option maxRecDepth 100000 in
theorem pk_action (B b f : Nat) (c o : Value) (cs os : List ByteArray) (i : ByteArray) (bs : List Value) (w : World) (h : PkIs B b bs w) (hc : OldTexts B w c cs) (ho : OldTexts B w o os) (kc : okTexts cs) (ko : okTexts os) (hi : i.size ≤ 100000) (hf : f ≤ 9007199254740991) (hlen : bs.length + (pkA cs i os f).length ≤ 140737488355328) (hBw : B ≤ w.heap.size) :
    Calls Tryd.prog 26 #[.pointer (some ⟨b, 0, none⟩), Av c i o f] w fun e w' => e = .returned (.tuple #[]) ∧ (PkIs B b (bs ++ Lib.byteCells (pkA cs i os f)) w' ∧ Kp B b w w') := by
  have hbl := pk_lt h
  have k0 : Kp B b w (w.alloc (.cells #[c, .string i, o, .int .i64 f] 26)) := ⟨(Below.refl _ _).alloc hBw _, (Lib.OthersKept.refl _ _ _).alloc _⟩
  have hx0 : (w.alloc (.cells #[c, .string i, o, .int .i64 f] 26)).heap[w.heap.size]? = some (.cells #[c, .string i, o, .int .i64 f] 26 (0, 0)) := heap_alloc_new w _
  have p0 := pk_alloc h (.cells #[c, .string i, o, .int .i64 f] 26)
  have hl : (pkA cs i os f).length = (pk cs.length ++ pkSS cs).length + ((pkT i).length + ((pk os.length ++ pkSS os).length + (pk f).length)) := by simp only [pkA, pkL, List.length_append]
  have K0 : Hid (Kp B b w (w.alloc (.cells #[c, .string i, o, .int .i64 f] 26))) := k0
  have P0 : Hid (PkIs B b bs (w.alloc (.cells #[c, .string i, o, .int .i64 f] 26))) := p0
  have X0 : Hid _ := hx0
  have hbw : B ≤ (w.alloc (.cells #[c, .string i, o, .int .i64 f] 26)).heap.size := Nat.le_trans hBw k0.size
  have C0 : Hid (OldTexts B w c cs) := hc
  have O0 : Hid (OldTexts B w o os) := ho
  have KC : Hid _ := kc
  have KO : Hid _ := ko
  obtain ⟨ac, cc, rfl, _⟩ := hc
  obtain ⟨ao, co, rfl, _⟩ := ho
  clear k0 hx0 p0 h kc ko
  go_enter Tryd.func26, Tryd.ntmps26
  go_wp2_with fail
  refine (pk_texts B b _ bs cs _ P0.out KC.out (texts_below C0.out K0.out.bel) (by omega) hbw).mono ?_
  rintro e w1 ⟨rfl, h1, hk1⟩
  have x1 := kp_cells hk1 X0.out (by omega) (by decide)
  have q1 : w1.cell? ⟨w.heap.size, 1, none⟩ = some (.string i) := by rw [Lib.cell_of_heap x1]; rfl
  have K1 : Hid (Kp B b w w1) := K0.out.trans hk1
  have P1 : Hid (PkIs B b (bs ++ Lib.byteCells (pk cs.length ++ pkSS cs)) w1) := h1
  have X1 : Hid _ := x1
  clear h1 hk1 x1
  go_wp2_with fail
  refine (pk_text B b _ i w1 P1.out (by omega) (by simp only [Lib.byteCells, List.length_append, List.length_map] at *; omega) (Nat.le_trans hBw K1.out.size)).mono ?_
  rintro e w2 ⟨rfl, h2, hk2⟩
  have x2 := kp_cells hk2 X1.out (by omega) (by decide)
  have q2 : w2.cell? ⟨w.heap.size, 2, none⟩ = some (.slice ao os.length co) := by rw [Lib.cell_of_heap x2]; rfl
  have K2 : Hid (Kp B b w w2) := K1.out.trans hk2
  have P2 : Hid (PkIs B b (bs ++ Lib.byteCells (pk cs.length ++ pkSS cs) ++ Lib.byteCells (pkT i)) w2) := h2
  have X2 : Hid _ := x2
  clear h2 hk2 x2
  go_wp2_with fail
  refine (pk_texts B b _ _ os w2 P2.out KO.out (texts_below O0.out K2.out.bel) (by simp only [Lib.byteCells, List.length_append, List.length_map] at *; omega) (Nat.le_trans hBw K2.out.size)).mono ?_
  rintro e w3 ⟨rfl, h3, hk3⟩
  have x3 := kp_cells hk3 X2.out (by omega) (by decide)
  have q3 : w3.cell? ⟨w.heap.size, 3, none⟩ = some (.int .i64 f) := by rw [Lib.cell_of_heap x3]; rfl
  have K3 : Hid (Kp B b w w3) := K2.out.trans hk3
  have P3 : Hid (PkIs B b (bs ++ Lib.byteCells (pk cs.length ++ pkSS cs) ++ Lib.byteCells (pkT i) ++ Lib.byteCells (pk os.length ++ pkSS os)) w3) := h3
  clear h3 hk3 x3
  go_wp2_with fail
  refine (number_any B b f _ w3 P3.out hf (by simp only [Lib.byteCells, List.length_append, List.length_map] at *; omega) (Nat.le_trans hBw K3.out.size)).mono ?_
  rintro e w4 ⟨rfl, h4, hk4⟩
  go_wp2
  go_end0
  refine ⟨rfl, ?_, K3.out.trans hk4⟩
  unfold pkA
  rw [byteCells_app, byteCells_app, byteCells_app, ← List.append_assoc, ← List.append_assoc, ← List.append_assoc]
  exact h4

theorem pkA_len (cs os : List ByteArray) (i : ByteArray) (f : Nat) (kc : okTexts cs) (ko : okTexts os) (hi : i.size ≤ 100000) (hf : f ≤ 9007199254740991) : (pkA cs i os f).length ≤ 400132032 := by
  have h1 := pkTexts_len cs kc
  have h2 := pkTexts_len os ko
  have h3 := pk_len8 i.size (by omega)
  have h4 := size_of (s := i) rfl
  have h5 := pk_len8 f hf
  simp only [pkA, pkL, pkT, List.length_append] at *
  omega
theorem pkA_ne (cs os : List ByteArray) (i : ByteArray) (f : Nat) : pkA cs i os f ≠ [] := by
  intro h
  have hpos := pk_pos cs.length
  unfold pkA pkL at h
  rw [List.append_eq_nil_iff, List.append_eq_nil_iff] at h
  rw [h.1.1] at hpos
  simp at hpos

theorem OldTexts.up {B B' : Nat} {w : World} {v : Value} {ss : List ByteArray} (h : OldTexts B w v ss) (hb : B ≤ B') : OldTexts B' w v ss := by
  obtain ⟨a, cap, e, hs⟩ := h
  refine ⟨a, cap, e, ?_⟩
  rcases hs with h | ⟨g, o, h1, h2, h3⟩
  · exact Or.inl h
  · exact Or.inr ⟨g, o, h1, Nat.lt_of_lt_of_le h2 hb, h3⟩

set_option maxHeartbeats 1000000 in
set_option maxRecDepth 100000 in
theorem packed_action (f : Nat) (c o : Value) (cs os : List ByteArray) (i : ByteArray) (w : World) (hc : IsTexts w c cs) (ho : IsTexts w o os) (kc : okTexts cs) (ko : okTexts os) (hi : i.size ≤ 100000) (hf : f ≤ 9007199254740991) :
    Calls Tryd.prog 25 #[Av c i o f, .func (.func 26) #[] #[]] w fun e w' => e = .returned (.string ⟨(pkA cs i os f).toArray⟩) ∧ Below w.heap.size w w' := by
  have hl := pkA_len cs os i f kc ko hi hf
  have HK : Hid (okTexts cs ∧ okTexts os) := ⟨kc, ko⟩
  have C0 : Hid (OldTexts w.heap.size w c cs) := old_of w c cs hc
  have O0 : Hid (OldTexts w.heap.size w o os) := old_of w o os ho
  obtain ⟨_, ac, cc, rfl, _⟩ := hc
  obtain ⟨_, ao, co, rfl, _⟩ := ho
  clear kc ko
  go_enter Tryd.func25, Tryd.ntmps25
  have hf0 : PkIs (w.heap.size + 1) (w.heap.size + 1) [] ((w.alloc (.cells #[.slice ac cs.length cc, .string i, .slice ao os.length co, .int .i64 f] 26)).alloc (.cells #[.pointer none, .slice none 0 0] 78)) := by
    have := Lib.fresh_isBuilder 78 5 (w.alloc (.cells #[.slice ac cs.length cc, .string i, .slice ao os.length co, .int .i64 f] 26))
    simpa only [World.size_alloc] using this
  have HF : Hid (PkIs (w.heap.size + 1) (w.heap.size + 1) [] ((w.alloc (.cells #[.slice ac cs.length cc, .string i, .slice ao os.length co, .int .i64 f] 26)).alloc (.cells #[.pointer none, .slice none 0 0] 78))) := hf0
  have HB : Hid (Below w.heap.size w ((w.alloc (.cells #[.slice ac cs.length cc, .string i, .slice ao os.length co, .int .i64 f] 26)).alloc (.cells #[.pointer none, .slice none 0 0] 78))) := ((Below.refl _ _).alloc (Nat.le_refl _) _).alloc (by simp) _
  clear hf0
  go_wp2_with fail
  refine (pk_action (w.heap.size + 1) (w.heap.size + 1) f _ _ cs os i [] _ HF.out ((texts_below C0.out HB.out).up (by omega)) ((texts_below O0.out HB.out).up (by omega)) HK.out.1 HK.out.2 hi hf (by simp only [List.length_nil]; omega) (by simp)).mono ?_
  rintro e w1 ⟨rfl, h1, hk1⟩
  have H1 : Hid (PkIs (w.heap.size + 1) (w.heap.size + 1) (Lib.byteCells (pkA cs i os f)) w1) := by show PkIs _ _ _ _; simpa using h1
  have B1 : Hid (Below w.heap.size w w1) := HB.out.trans (hk1.bel.mono (by omega))
  clear h1 hk1
  go_wp2_with fail
  refine (st_any (w.heap.size + 1) (w.heap.size + 1) (pkA cs i os f) w1 H1.out (pkA_ne cs os i f)).mono ?_
  rintro e w2 ⟨rfl, hb2⟩
  go_wp2
  go_ret
  exact ⟨rfl, B1.out.trans (hb2.mono (by omega))⟩

theorem aeC_ok {cs os : List ByteArray} {i : ByteArray} {f : Int} (h : aeC cs i os f = 0) : cs.length ≤ 60 ∧ os.length ≤ 60 ∧ (∀ s ∈ cs, s.size ≤ 100000) ∧ digOk i = true ∧ os.all pathOk = true ∧ riseB os = true ∧ noN f = false := by
  unfold aeC at h
  by_cases g0 : 60 < cs.length
  · rw [if_pos g0] at h; cases h
  rw [if_neg g0] at h
  by_cases g1 : 60 < os.length
  · rw [if_pos g1] at h; cases h
  rw [if_neg g1] at h
  by_cases g2 : longB cs = true
  · rw [if_pos g2] at h; cases h
  rw [if_neg g2] at h
  by_cases g3 : digOk i = false
  · rw [if_pos g3] at h; cases h
  rw [if_neg g3] at h
  by_cases g4 : os.all pathOk = false
  · rw [if_pos g4] at h; cases h
  rw [if_neg g4] at h
  by_cases g5 : riseB os = false
  · rw [if_pos g5] at h; cases h
  rw [if_neg g5] at h
  by_cases g6 : noN f = true
  · rw [if_pos g6] at h; cases h
  exact ⟨by omega, by omega, longB_no (by simpa using g2), by simpa using g3, by simpa using g4, by simpa using g5, by simpa using g6⟩
theorem pathOk_size {s : ByteArray} (h : pathOk s = true) : s.size ≤ 100 := by
  unfold pathOk at h
  rw [Bool.and_eq_true] at h
  simpa using h.1
theorem aeC_fit {cs os : List ByteArray} {i : ByteArray} {f : Int} (h : aeC cs i os f = 0) : okTexts cs ∧ okTexts os ∧ i.size ≤ 100000 ∧ 0 ≤ f ∧ f ≤ 9007199254740991 := by
  obtain ⟨h1, h2, h3, h4, h5, _, h7⟩ := aeC_ok h
  have h8 := noN_false h7
  have h9 := digOk_size h4
  refine ⟨⟨by omega, h3⟩, ⟨by omega, fun s hs => ?_⟩, by omega, h8.1, h8.2⟩
  have := pathOk_size (List.all_eq_true.1 h5 s hs)
  omega

set_option maxHeartbeats 1000000 in
set_option maxRecDepth 100000 in
theorem Action_yes (f : Nat) (c o : Value) (cs os : List ByteArray) (i : ByteArray) (w : World) (hc : IsTexts w c cs) (ho : IsTexts w o os) (hm : MaxIs w) (hok : aeC cs i os f = 0) :
    Calls Tryd.prog 10 #[Av c i o f] w fun e w' => e = .returned (.tuple #[.string ⟨(pkA cs i os f).toArray⟩, .int .i64 0]) ∧ Below w.heap.size w w' := by
  have hb0 : Below w.heap.size w (w.alloc (.cells #[c, .string i, o, .int .i64 f] 26)) := (Below.refl _ _).alloc (Nat.le_refl _) _
  have C1 : Hid (IsTexts (w.alloc (.cells #[c, .string i, o, .int .i64 f] 26)) c cs) := hc.up hb0
  have O1 : Hid (IsTexts (w.alloc (.cells #[c, .string i, o, .int .i64 f] 26)) o os) := ho.up hb0
  have M1 : Hid (MaxIs (w.alloc (.cells #[c, .string i, o, .int .i64 f] 26))) := hm.up hb0
  have HB0 : Hid (Below w.heap.size w (w.alloc (.cells #[c, .string i, o, .int .i64 f] 26))) := hb0
  have HK : Hid _ := hok
  obtain ⟨k1, k2, k3, _, k5⟩ := aeC_fit hok
  have F1 : Hid (okTexts cs ∧ okTexts os) := ⟨k1, k2⟩
  have k6 : f ≤ 9007199254740991 := by omega
  obtain ⟨_, ac, cc, rfl, _⟩ := hc
  obtain ⟨_, ao, co, rfl, _⟩ := ho
  clear hb0 hm k1 k2 k5 hok
  go_enter Tryd.func10, Tryd.ntmps10
  go_wp2_with fail
  refine (ae_any _ _ cs os i f _ C1.out O1.out M1.out).mono ?_
  rintro e w1 ⟨rfl, hb1⟩
  rw [HK.out]
  obtain ⟨hcl, hfr⟩ := bcell hb1
  have HB1 : Hid (Below w.heap.size w w1) := HB0.out.trans (hb1.mono (by simp))
  have C2 : Hid (IsTexts w1 (.slice ac cs.length cc) cs) := C1.out.up hb1
  have O2 : Hid (IsTexts w1 (.slice ao os.length co) os) := O1.out.up hb1
  clear hb1
  go_wp2_with fail
  refine (packed_action f _ _ cs os i w1 C2.out O2.out F1.out.1 F1.out.2 k3 k6).mono ?_
  rintro e w2 ⟨rfl, hb2⟩
  go_wp2
  go_ret2
  exact ⟨rfl, HB1.out.trans (hb2.mono HB1.out.size)⟩

set_option maxHeartbeats 1000000 in
theorem Action_no (f : Int) (c o : Value) (cs os : List ByteArray) (i : ByteArray) (w : World) (hc : IsTexts w c cs) (ho : IsTexts w o os) (hm : MaxIs w) (hno : aeC cs i os f ≠ 0) :
    Calls Tryd.prog 10 #[Av c i o f] w fun e w' => e = .returned (.tuple #[.string ⟨#[]⟩, .int .i64 (aeC cs i os f)]) ∧ Below w.heap.size w w' := by
  have hb0 : Below w.heap.size w (w.alloc (.cells #[c, .string i, o, .int .i64 f] 26)) := (Below.refl _ _).alloc (Nat.le_refl _) _
  have C1 : Hid (IsTexts (w.alloc (.cells #[c, .string i, o, .int .i64 f] 26)) c cs) := hc.up hb0
  have O1 : Hid (IsTexts (w.alloc (.cells #[c, .string i, o, .int .i64 f] 26)) o os) := ho.up hb0
  have M1 : Hid (MaxIs (w.alloc (.cells #[c, .string i, o, .int .i64 f] 26))) := hm.up hb0
  have HB0 : Hid (Below w.heap.size w (w.alloc (.cells #[c, .string i, o, .int .i64 f] 26))) := hb0
  have hne : (aeC cs i os f != 0) = true := by rw [bne_iff_ne]; exact hno
  obtain ⟨_, ac, cc, rfl, _⟩ := hc
  obtain ⟨_, ao, co, rfl, _⟩ := ho
  clear hb0 hm hno
  go_enter Tryd.func10, Tryd.ntmps10
  go_wp2_with fail
  refine (ae_any _ _ cs os i f _ C1.out O1.out M1.out).mono ?_
  rintro e w1 ⟨rfl, hb1⟩
  have HB1 : Hid (Below w.heap.size w w1) := HB0.out.trans (hb1.mono (by simp))
  clear hb1
  generalize hr : aeC cs i os f = r at hne ⊢
  have HR : Hid (aeC cs i os f = r) := hr
  clear hr
  go_wp2
  go_ret2
  exact ⟨by rw [HR.out]; rfl, HB1.out⟩
end Go.Proofs.YtmjemnmcndajpaaDoor
