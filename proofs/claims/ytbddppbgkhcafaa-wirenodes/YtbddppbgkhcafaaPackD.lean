/- What wire's packer does with nodes, and Nodes. -/
import Derived.Test.YtbddppbgkhcafaaNd
namespace Go.Proofs.Ytbddppbgkhcafaa
open Go.RowKit Go.Shelf

def pkD (n : Nd) : List UInt8 := pkT n.1 ++ (pk n.2.1.toNat ++ pkT n.2.2)
def pkDD : List Nd → List UInt8
  | [] => []
  | n :: l => pkD n ++ pkDD l
theorem pkDD_append (l m : List Nd) : pkDD (l ++ m) = pkDD l ++ pkDD m := by
  induction l with
  | nil => rfl
  | cons s l ih => simp only [List.cons_append, pkDD, ih, List.append_assoc]

set_option maxHeartbeats 2000000 in
set_option maxRecDepth 100000 in
theorem pk_node (B b k : Nat) (a d : ByteArray) (bs : List Value) (w : World) (h : PkIs B b bs w) (hk : k ≤ 9007199254740991) (ha : a.size ≤ 100000) (hd : d.size ≤ 100000) (hlen : bs.length + (pkD (a, (k : Int), d)).length ≤ 140737488355328) (hBw : B ≤ w.heap.size) :
    Calls Try.prog 30 #[.pointer (some ⟨b, 0, none⟩), .agg #[.string a, .int .i64 k, .string d]] w fun e w' => e = .returned (.tuple #[]) ∧ (PkIs B b (bs ++ Lib.byteCells (pkD (a, (k : Int), d))) w' ∧ Kp B b w w') := by
  have hbl := pk_lt h
  have k0 : Kp B b w (w.alloc (.cells #[.string a, .int .i64 k, .string d] 41)) := ⟨(Below.refl _ _).alloc hBw _, (Lib.OthersKept.refl _ _ _).alloc _⟩
  have hx0 : (w.alloc (.cells #[.string a, .int .i64 k, .string d] 41)).heap[w.heap.size]? = some (.cells #[.string a, .int .i64 k, .string d] 41 (0, 0)) := heap_alloc_new w _
  have p0 := pk_alloc h (.cells #[.string a, .int .i64 k, .string d] 41)
  have hl : (pkD (a, (k : Int), d)).length = (pkT a).length + ((pk k).length + (pkT d).length) := by simp [pkD]
  have K0 : Hid (Kp B b w (w.alloc (.cells #[.string a, .int .i64 k, .string d] 41))) := k0
  have P0 : Hid (PkIs B b bs (w.alloc (.cells #[.string a, .int .i64 k, .string d] 41))) := p0
  have X0 : Hid _ := hx0
  have hbw : B ≤ (w.alloc (.cells #[.string a, .int .i64 k, .string d] 41)).heap.size := Nat.le_trans hBw k0.size
  clear k0 hx0 p0 h
  go_enter Try.func30, Try.ntmps30
  go_wp2_with fail
  refine (pk_text B b bs a _ P0.out (by omega) (by omega) hbw).mono ?_
  rintro e w1 ⟨rfl, h1, hk1⟩
  have x1 := kp_cells hk1 X0.out (by omega) (by decide)
  have q1 : w1.cell? ⟨w.heap.size, 1, none⟩ = some (.int .i64 k) := by rw [Lib.cell_of_heap x1]; rfl
  have K1 : Hid (Kp B b w w1) := K0.out.trans hk1
  have P1 : Hid (PkIs B b (bs ++ Lib.byteCells (pkT a)) w1) := h1
  have X1 : Hid _ := x1
  clear h1 hk1 x1
  go_wp2_with fail
  refine (number_any B b k _ w1 P1.out hk (by simp [Lib.byteCells]; omega) (Nat.le_trans hBw K1.out.size)).mono ?_
  rintro e w2 ⟨rfl, h2, hk2⟩
  have x2 := kp_cells hk2 X1.out (by omega) (by decide)
  have q2 : w2.cell? ⟨w.heap.size, 2, none⟩ = some (.string d) := by rw [Lib.cell_of_heap x2]; rfl
  have K2 : Hid (Kp B b w w2) := K1.out.trans hk2
  have P2 : Hid (PkIs B b (bs ++ Lib.byteCells (pkT a) ++ Lib.byteCells (pk k)) w2) := h2
  clear h2 hk2 x2
  go_wp2_with fail
  refine (pk_text B b _ d w2 P2.out (by omega) (by simp [Lib.byteCells]; omega) (Nat.le_trans hBw K2.out.size)).mono ?_
  rintro e w3 ⟨rfl, h3, hk3⟩
  go_wp2
  go_end0
  refine ⟨rfl, ?_, K2.out.trans hk3⟩
  unfold pkD
  rw [byteCells_app, byteCells_app, ← List.append_assoc, ← List.append_assoc]
  exact h3

/-- Each node can be packed. -/
def okD (n : Nd) : Prop := n.1.size ≤ 100000 ∧ 0 ≤ n.2.1 ∧ n.2.1 ≤ 3 ∧ n.2.2.size ≤ 100000

theorem NdAt.kept {B b g o : Nat} {ns : List Nd} {w w' : World} (h : NdAt g o ns w) (hb : Kp B b w w') (hg : g < B) : NdAt g o ns w' := h.below hb.bel hg

set_option maxHeartbeats 2000000 in
set_option maxRecDepth 100000 in
theorem pk_dlist (B b g o cap : Nat) (bs : List Value) (ns : List Nd) (w : World) (h : PkIs B b bs w) (hn : ns.length ≤ 60) (hs : ∀ n ∈ ns, okD n) (hg : g < B) (hc : NdAt g o ns w)
    (hlen : bs.length + (pk ns.length ++ pkDD ns).length ≤ 140737488355328) (hBw : B ≤ w.heap.size) :
    Calls Try.prog 29 #[.pointer (some ⟨b, 0, none⟩), .slice (some ⟨g, o, none⟩) ns.length cap, .func (.func 30) #[] #[]] w fun e w' => e = .returned (.tuple #[]) ∧ (PkIs B b (bs ++ Lib.byteCells (pk ns.length ++ pkDD ns)) w' ∧ Kp B b w w') := by
  have HC : Hid (NdAt g o ns w) := hc
  have HS : Hid _ := hs
  have HL : Hid (bs.length + ((pk ns.length).length + (pkDD ns).length) ≤ 140737488355328) := by show _ ≤ _; simpa using hlen
  have hn1 : (ns.length : Int) ≤ 60 := by omega
  clear hc hs hlen
  go_enter Try.func29, Try.ntmps29
  go_wp2_with fail
  refine (number_any B b ns.length bs w h (by omega) (by have := HL.out; omega) hBw).mono ?_
  rintro e w1 ⟨rfl, h1, hb1⟩
  clear h
  go_wp2_with fail
  go_loopw [14] (fun i wr => ∃ k : Nat, k ≤ ns.length ∧ i = .int .i64 k ∧ PkIs B b (bs ++ Lib.byteCells (pk ns.length ++ pkDD (ns.take k))) wr ∧ Kp B b w wr) (fun i _ => ns.length - (intOf i).toNat)
  case atStart => exact ⟨0, Nat.zero_le _, rfl, by simpa [pkDD] using h1, hb1⟩
  case round =>
    obtain ⟨k, hk, rfl, hp, hb⟩ := hrel
    clear h1 hb1
    have hsz := hb.size
    by_cases hlt : k < ns.length
    · obtain ⟨a0, a1, a2⟩ := HC.out.kept hb hg k hlt
      have hsp : pkDD (ns.take (k + 1)) = pkDD (ns.take k) ++ pkD ns[k] := by rw [List.take_succ_eq_append_getElem hlt, pkDD_append]; simp [pkDD]
      have hle : (pkDD (ns.take (k + 1))).length ≤ (pkDD ns).length := by
        have e1 : pkDD ns = pkDD (ns.take (k + 1)) ++ pkDD (ns.drop (k + 1)) := by rw [← pkDD_append, List.take_append_drop]
        rw [e1, List.length_append]
        omega
      have hok := HS.out _ (List.getElem_mem hlt)
      have hlen1 : (bs ++ Lib.byteCells (pk ns.length ++ pkDD (ns.take k))).length + (pkD ns[k]).length ≤ 140737488355328 := by
        have := HL.out
        rw [hsp, List.length_append] at hle
        simp [Lib.byteCells]
        omega
      generalize hx : ns[k] = x at a0 a1 a2 hok hlen1 hsp
      obtain ⟨xa, xk, xd⟩ := x
      obtain ⟨o1, o2, o3, o4⟩ := hok
      simp only at a0 a1 a2 o1 o2 o3 o4
      obtain ⟨xn, rfl⟩ : ∃ n : Nat, xk = n := ⟨xk.toNat, by omega⟩
      have H1 : Hid _ := hlen1
      have H2 : Hid _ := hsp
      have H3 : Hid (Kp B b w wr) := hb
      have H4 : Hid (PkIs B b (bs ++ Lib.byteCells (pk ns.length ++ pkDD (ns.take k))) wr) := hp
      have O1 : Hid _ := o1
      have O3 : Hid (xn ≤ 9007199254740991) := by show _ ≤ _; omega
      have O4 : Hid _ := o4
      have i2 : (k : Int) < ns.length := by omega
      clear hlen1 hsp hb hp hle hx o1 o2 o3 o4
      have kA : Kp B b wr (wr.alloc (.cells #[.string xa, .int .i64 xn, .string xd] 41)) := ⟨(Below.refl _ _).alloc (Nat.le_trans hBw hsz) _, (Lib.OthersKept.refl _ _ _).alloc _⟩
      have KA : Hid (Kp B b wr (wr.alloc (.cells #[.string xa, .int .i64 xn, .string xd] 41))) := kA
      clear kA
      go_wp2_with fail
      refine (pk_node B b xn xa xd _ _ (pk_alloc H4.out _) O3.out O1.out O4.out H1.out (Nat.le_trans (Nat.le_trans hBw hsz) KA.out.size)).mono ?_
      rintro e w2 ⟨rfl, h2, hb2⟩
      have H6 : Hid (Kp B b wr w2) := KA.out.trans hb2
      have H7 : Hid (PkIs B b (bs ++ Lib.byteCells (pk ns.length ++ pkDD (ns.take k)) ++ Lib.byteCells (pkD (xa, (xn : Int), xd))) w2) := h2
      clear hb2 h2
      go_wp2
      refine ⟨⟨k + 1, by omega, by go_num, ?_, H3.out.trans H6.out⟩, by simp [intOf]; omega⟩
      rw [H2.out, ← List.append_assoc, byteCells_app, ← List.append_assoc]
      exact H7.out
    · obtain rfl : k = ns.length := by omega
      go_wp2
      go_end0
      refine ⟨rfl, ?_, hb⟩
      rw [List.take_length] at hp
      exact hp

set_option maxHeartbeats 1000000 in
set_option maxRecDepth 100000 in
theorem pk_dlist0 (B b cap : Nat) (a : Option Addr) (bs : List Value) (w : World) (h : PkIs B b bs w) (hlen : bs.length + 1 ≤ 140737488355328) (hBw : B ≤ w.heap.size) :
    Calls Try.prog 29 #[.pointer (some ⟨b, 0, none⟩), .slice a 0 cap, .func (.func 30) #[] #[]] w fun e w' => e = .returned (.tuple #[]) ∧ (PkIs B b (bs ++ Lib.byteCells (pk 0 ++ pkDD [])) w' ∧ Kp B b w w') := by
  go_enter Try.func29, Try.ntmps29
  go_wp2_with fail
  refine (number_any B b 0 bs w h (by omega) (by rw [show (pk 0).length = 1 from rfl]; omega) hBw).mono ?_
  rintro e w1 ⟨rfl, h1, hb1⟩
  go_wp2_with fail
  refine wp_loop_rounds 1 ?_
  rw [rounds_succ]
  go_wp2
  go_end0
  exact ⟨rfl, by simpa [pkDD] using h1, hb1⟩

/-- A slice of these nodes that lies in old memory, below block B. -/
def OldNodes (B : Nat) (w : World) (v : Value) (ns : List Nd) : Prop :=
  ∃ a cap, v = .slice a ns.length cap ∧ (ns = [] ∨ ∃ g o, a = some ⟨g, o, none⟩ ∧ g < B ∧ NdAt g o ns w)
theorem oldN_of (w : World) (v : Value) (ns : List Nd) (h : IsNodes w v ns) : OldNodes w.heap.size w v ns := h.2.2
theorem nodes_below {B : Nat} {w w' : World} {v : Value} {ns : List Nd} (h : OldNodes B w v ns) (hb : Below B w w') : OldNodes B w' v ns := by
  obtain ⟨a, cap, rfl, hs⟩ := h
  refine ⟨a, cap, rfl, ?_⟩
  rcases hs with rfl | ⟨g, o, rfl, hg, hc⟩
  · exact Or.inl rfl
  · exact Or.inr ⟨g, o, rfl, hg, hc.below hb hg⟩
theorem nodes_of {B : Nat} {w : World} {v : Value} {ns : List Nd} (h : OldNodes B w v ns) (hB : B ≤ w.heap.size) (hn : ns.length ≤ 4611686018427387904) (hm : ∀ n ∈ ns, n.1.size ≤ maxLen ∧ n.2.2.size ≤ maxLen) : IsNodes w v ns := by
  obtain ⟨a, cap, rfl, hs⟩ := h
  refine ⟨hn, hm, a, cap, rfl, ?_⟩
  rcases hs with rfl | ⟨g, o, rfl, hg, hc⟩
  · exact Or.inl rfl
  · exact Or.inr ⟨g, o, rfl, by omega, hc⟩

def okDs (ns : List Nd) : Prop := ns.length ≤ 60 ∧ ∀ n ∈ ns, okD n

theorem pk_dlist_any (B b : Nat) (v : Value) (bs : List Value) (ns : List Nd) (w : World) (h : PkIs B b bs w) (hok : okDs ns) (ho : OldNodes B w v ns) (hlen : bs.length + (pk ns.length ++ pkDD ns).length ≤ 140737488355328) (hBw : B ≤ w.heap.size) :
    Calls Try.prog 29 #[.pointer (some ⟨b, 0, none⟩), v, .func (.func 30) #[] #[]] w fun e w' => e = .returned (.tuple #[]) ∧ (PkIs B b (bs ++ Lib.byteCells (pk ns.length ++ pkDD ns)) w' ∧ Kp B b w w') := by
  obtain ⟨a, cap, rfl, hs⟩ := ho
  rcases hs with rfl | ⟨g, o, rfl, hg, hc⟩
  · exact pk_dlist0 B b cap a bs w h (by have : (pk ([] : List Nd).length ++ pkDD []).length = 1 := rfl; omega) hBw
  · exact pk_dlist B b g o cap bs ns w h hok.1 hok.2 hg hc hlen hBw

set_option maxHeartbeats 1000000 in
theorem pk_nodes (B b : Nat) (v : Value) (bs : List Value) (ns : List Nd) (w : World) (h : PkIs B b bs w) (hok : okDs ns) (ho : OldNodes B w v ns) (hlen : bs.length + (pk ns.length ++ pkDD ns).length ≤ 140737488355328) (hBw : B ≤ w.heap.size) :
    Calls Try.prog 13 #[.pointer (some ⟨b, 0, none⟩), v] w fun e w' => e = .returned (.tuple #[]) ∧ (PkIs B b (bs ++ Lib.byteCells (pk ns.length ++ pkDD ns)) w' ∧ Kp B b w w') := by
  go_enter Try.func13, Try.ntmps13
  go_wp2_with fail
  refine (pk_dlist_any B b v bs ns w h hok ho hlen hBw).mono ?_
  rintro e w1 ⟨rfl, h1, hb1⟩
  go_wp2
  go_end0
  exact ⟨rfl, h1, hb1⟩

theorem pkT_len (s : ByteArray) (h : s.size ≤ 100000) : (pkT s).length ≤ 100008 := by
  have h3 := pk_len8 s.size (by omega)
  have h4 := size_of (s := s) rfl
  simp only [pkT, List.length_append]
  omega
theorem pkDD_len (ns : List Nd) (hs : ∀ n ∈ ns, okD n) : (pkDD ns).length ≤ ns.length * 200024 := by
  induction ns with
  | nil => simp [pkDD]
  | cons n l ih =>
    have h1 := ih (fun t ht => hs t (List.mem_cons_of_mem _ ht))
    obtain ⟨o1, o2, o3, o4⟩ := hs n (List.mem_cons_self ..)
    have h2 := pkT_len n.1 o1
    have h3 := pk_len8 n.2.1.toNat (by omega)
    have h4 := pkT_len n.2.2 o4
    simp only [pkDD, pkD, List.length_append, List.length_cons]
    omega
theorem pkDs_len (ns : List Nd) (h : okDs ns) : (pk ns.length ++ pkDD ns).length ≤ 200016008 := by
  have h1 := pkDD_len ns h.2
  have h2 := pk_len8 ns.length (by have := h.1; omega)
  have h3 := h.1
  rw [List.length_append]
  omega

set_option maxHeartbeats 1000000 in
set_option maxRecDepth 100000 in
theorem packed_nodes (v : Value) (ns : List Nd) (w : World) (hok : okDs ns) (ht : OldNodes w.heap.size w v ns) :
    Calls Try.prog 12 #[v, .func (.func 13) #[] #[]] w fun e w' => e = .returned (.string ⟨(pk ns.length ++ pkDD ns).toArray⟩) ∧ Below w.heap.size w w' := by
  have hl := pkDs_len ns hok
  have hpos := pk_pos ns.length
  have b0 : Below w.heap.size w (w.alloc (.cells #[.pointer none, .slice none 0 0] 63)) := (Below.refl _ _).alloc (Nat.le_refl _) _
  have HO : Hid (OldNodes w.heap.size (w.alloc (.cells #[.pointer none, .slice none 0 0] 63)) v ns) := nodes_below ht b0
  have H0 : Hid _ := b0
  have HK : Hid _ := hok
  obtain ⟨a, cap, rfl, _⟩ := ht
  clear b0 hok
  go_enter Try.func12, Try.ntmps12
  go_wp2_with fail
  refine (pk_nodes w.heap.size w.heap.size _ [] ns _ (Lib.fresh_isBuilder _ _ w) HK.out HO.out (by simp only [List.length_nil]; omega) (by simp)).mono ?_
  rintro e w1 ⟨rfl, h1, hb1⟩
  go_wp2_with fail
  refine (st_any w.heap.size w.heap.size (pk ns.length ++ pkDD ns) w1 (by simpa using h1) (by intro h; rw [List.append_eq_nil_iff] at h; rw [h.1] at hpos; simp at hpos)).mono ?_
  rintro e w2 ⟨rfl, hb2⟩
  go_wp2
  go_ret
  exact ⟨rfl, (H0.out.trans hb1.bel).trans hb2⟩

theorem nameOk_size {s : ByteArray} (h : nameOk s = true) : s.size ≤ 100000 := by
  unfold nameOk at h
  simp at h
  omega
theorem kindNo_le {k : Int} (h : kindNo k = false) : 0 ≤ k ∧ k ≤ 3 := by
  simp [kindNo] at h
  omega
theorem ndE_ok {n : Nd} (h : ndE n = 0) : nameOk n.1 = true ∧ digOk n.2.2 = true ∧ kindNo n.2.1 = false := by
  unfold ndE at h
  by_cases h1 : nameOk n.1 = false
  · rw [if_pos h1] at h; cases h
  rw [if_neg h1] at h
  by_cases h2 : digOk n.2.2 = false
  · rw [if_pos h2] at h; cases h
  rw [if_neg h2] at h
  by_cases h3 : kindNo n.2.1 = true
  · rw [if_pos h3] at h; cases h
  exact ⟨by simpa using h1, by simpa using h2, by simpa using h3⟩
theorem ndEs_all (ns : List Nd) (h : ndEs ns = 0) : ∀ n ∈ ns, ndE n = 0 := by
  induction ns with
  | nil => intro n hn; cases hn
  | cons m l ih =>
    have h' : (if ndE m = 0 then ndEs l else ndE m) = 0 := h
    by_cases h0 : ndE m = 0
    · rw [if_pos h0] at h'
      intro n hn
      rcases List.mem_cons.1 hn with rfl | hn
      · exact h0
      · exact ih h' n hn
    · rw [if_neg h0] at h'; exact absurd h' h0
theorem neC_ok {ns : List Nd} (h : neC ns = 0) : okDs ns ∧ ndEs ns = 0 ∧ riseB (ns.map (·.1)) = true := by
  unfold neC at h
  by_cases h1 : 60 < ns.length
  · rw [if_pos h1] at h; cases h
  rw [if_neg h1] at h
  by_cases h2 : ndEs ns = 0
  · rw [if_pos h2] at h
    by_cases h3 : riseB (ns.map (·.1)) = true
    · refine ⟨⟨by omega, fun n hn => ?_⟩, h2, h3⟩
      obtain ⟨e1, e2, e3⟩ := ndE_ok (ndEs_all ns h2 n hn)
      have e4 := kindNo_le e3
      have e5 := digOk_size e2
      exact ⟨nameOk_size e1, e4.1, e4.2, by omega⟩
    · rw [if_neg h3] at h; cases h
  · rw [if_neg h2] at h; exact absurd h h2

set_option maxHeartbeats 1000000 in
set_option maxRecDepth 100000 in
theorem Nodes_yes (v : Value) (ns : List Nd) (w : World) (hok : neC ns = 0) (ht : IsNodes w v ns) :
    Calls Try.prog 5 #[v] w fun e w' => e = .returned (.tuple #[.string ⟨(pk ns.length ++ pkDD ns).toArray⟩, .int .i64 0]) ∧ Below w.heap.size w w' := by
  have HI : Hid _ := ht
  have H2 : Hid _ := oldN_of w v ns ht
  have HK : Hid _ := hok
  obtain ⟨_, _, a, cap, rfl, _⟩ := ht
  clear hok
  go_enter Try.func5, Try.ntmps5
  go_wp2_with fail
  refine (ne_any _ ns w HI.out).mono ?_
  rintro e w1 ⟨rfl, hb1⟩
  rw [HK.out]
  have B1 : Hid _ := hb1
  clear hb1
  go_wp2_with fail
  refine (packed_nodes _ ns w1 (neC_ok HK.out).1 (by
    obtain ⟨a', cap', e, hs⟩ := nodes_below H2.out B1.out
    refine ⟨a', cap', e, ?_⟩
    rcases hs with h | ⟨g, o, h1, h2, h3⟩
    · exact Or.inl h
    · exact Or.inr ⟨g, o, h1, Nat.lt_of_lt_of_le h2 B1.out.size, h3⟩)).mono ?_
  rintro e w2 ⟨rfl, hb2⟩
  go_wp2
  go_ret2
  exact ⟨rfl, B1.out.trans (hb2.mono B1.out.size)⟩

set_option maxHeartbeats 1000000 in
theorem Nodes_no (v : Value) (ns : List Nd) (w : World) (hno : neC ns ≠ 0) (ht : IsNodes w v ns) :
    Calls Try.prog 5 #[v] w fun e w' => e = .returned (.tuple #[.string ⟨#[]⟩, .int .i64 (neC ns)]) ∧ Below w.heap.size w w' := by
  have HI : Hid _ := ht
  obtain ⟨_, _, a, cap, rfl, _⟩ := ht
  go_enter Try.func5, Try.ntmps5
  go_wp2_with fail
  refine (ne_any _ ns w HI.out).mono ?_
  rintro e w1 ⟨rfl, hb1⟩
  have B1 : Hid _ := hb1
  clear hb1
  have hne : (neC ns != 0) = true := by rw [bne_iff_ne]; exact hno
  generalize hr : neC ns = r at hne hno ⊢
  have HR : Hid (neC ns = r) := hr
  clear hr hno
  go_wp2
  go_ret2
  exact ⟨by rw [HR.out]; rfl, B1.out⟩
end Go.Proofs.Ytbddppbgkhcafaa
