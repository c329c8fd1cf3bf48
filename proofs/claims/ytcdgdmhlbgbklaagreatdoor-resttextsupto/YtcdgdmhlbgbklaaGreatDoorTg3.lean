/- What wire's packer does with nodes, and Nodes. -/
import Derived.Lib.IndexBytes
import Derived.Lib.IndexMore
import Derived.Defers
import Derived.Recover
import Derived.Laws.Pointers
import Derived.Deep.AppendLies
import Derived.Sort.KeysCollected
import Derived.Test.YtcdgdmhlbgbklaaGreatDoorChecked
import Derived.ProofKit
import Derived.WalkLawsBesides
import Derived.Below
import Derived.Deep.RegionHeld3
import Derived.Deep.MidRow
import Derived.Lib.Builder
import Derived.Test.YtcdgdmhlbgbklaaGreatDoorTg2
namespace Go.Proofs.YtcdgdmhlbgbklaaGreatDoor
open Go.RowKit Go.Shelf

def pkD (n : Nd) : List UInt8 := pkT n.1 ++ (pk n.2.1.toNat ++ pkT n.2.2)
def pkDD : List Nd → List UInt8
  | [] => []
  | n :: l => pkD n ++ pkDD l
theorem pkDD_append (l m : List Nd) : pkDD (l ++ m) = pkDD l ++ pkDD m := by
  induction l with
  | nil => rfl
  | cons s l ih => simp only [List.cons_append, pkDD, ih, List.append_assoc]

set_option maxHeartbeats 2000000 in
set_option maxRecDepth 100000 in
theorem pk_node (B b k : Nat) (a d : ByteArray) (bs : List Value) (w : World) (h : PkIs B b bs w) (hk : k ≤ 9007199254740991) (ha : a.size ≤ 100000) (hd : d.size ≤ 100000) (hlen : bs.length + (pkD (a, (k : Int), d)).length ≤ 140737488355328) (hBw : B ≤ w.heap.size) :
    Calls Tryz.prog 170 #[.pointer (some ⟨b, 0, none⟩), .agg #[.string a, .int .i64 k, .string d]] w fun e w' => e = .returned (.tuple #[]) ∧ (PkIs B b (bs ++ Lib.byteCells (pkD (a, (k : Int), d))) w' ∧ Kp B b w w') := by
  have hbl := pk_lt h
  have k0 : Kp B b w (w.alloc (.cells #[.string a, .int .i64 k, .string d] 108)) := ⟨(Below.refl _ _).alloc hBw _, (Lib.OthersKept.refl _ _ _).alloc _⟩
  have hx0 : (w.alloc (.cells #[.string a, .int .i64 k, .string d] 108)).heap[w.heap.size]? = some (.cells #[.string a, .int .i64 k, .string d] 108 (0, 0)) := heap_alloc_new w _
  have p0 := pk_alloc h (.cells #[.string a, .int .i64 k, .string d] 108)
  have hl : (pkD (a, (k : Int), d)).length = (pkT a).length + ((pk k).length + (pkT d).length) := by simp [pkD]
  have K0 : Hid (Kp B b w (w.alloc (.cells #[.string a, .int .i64 k, .string d] 108))) := k0
  have P0 : Hid (PkIs B b bs (w.alloc (.cells #[.string a, .int .i64 k, .string d] 108))) := p0
  have X0 : Hid _ := hx0
  have hbw : B ≤ (w.alloc (.cells #[.string a, .int .i64 k, .string d] 108)).heap.size := Nat.le_trans hBw k0.size
  clear k0 hx0 p0 h
  go_enter Tryz.func170, Tryz.ntmps170
  go_wp2_with fail
  refine (pk_text B b bs a _ P0.out (by omega) (by omega) hbw).mono ?_
  rintro e w1 ⟨rfl, h1, hk1⟩
  have x1 := kp_cells hk1 X0.out (by omega) (by decide)
  have q1 : w1.cell? ⟨w.heap.size, 1, none⟩ = some (.int .i64 k) := by rw [Lib.cell_of_heap x1]; rfl
  have K1 : Hid (Kp B b w w1) := K0.out.trans hk1
  have P1 : Hid (PkIs B b (bs ++ Lib.byteCells (pkT a)) w1) := h1
  have X1 : Hid _ := x1
  clear h1 hk1 x1
  go_wp2_with fail
  refine (number_any B b k _ w1 P1.out hk (by simp [Lib.byteCells]; omega) (Nat.le_trans hBw K1.out.size)).mono ?_
  rintro e w2 ⟨rfl, h2, hk2⟩
  have x2 := kp_cells hk2 X1.out (by omega) (by decide)
  have q2 : w2.cell? ⟨w.heap.size, 2, none⟩ = some (.string d) := by rw [Lib.cell_of_heap x2]; rfl
  have K2 : Hid (Kp B b w w2) := K1.out.trans hk2
  have P2 : Hid (PkIs B b (bs ++ Lib.byteCells (pkT a) ++ Lib.byteCells (pk k)) w2) := h2
  clear h2 hk2 x2
  go_wp2_with fail
  refine (pk_text B b _ d w2 P2.out (by omega) (by simp [Lib.byteCells]; omega) (Nat.le_trans hBw K2.out.size)).mono ?_
  rintro e w3 ⟨rfl, h3, hk3⟩
  go_wp2
  go_end0
  refine ⟨rfl, ?_, K2.out.trans hk3⟩
  unfold pkD
  rw [byteCells_app, byteCells_app, ← List.append_assoc, ← List.append_assoc]
  exact h3

/-- Each node can be packed. -/
def okD (n : Nd) : Prop := n.1.size ≤ 100000 ∧ 0 ≤ n.2.1 ∧ n.2.1 ≤ 3 ∧ n.2.2.size ≤ 100000

theorem NdAt.kept {B b g o : Nat} {ns : List Nd} {w w' : World} (h : NdAt g o ns w) (hb : Kp B b w w') (hg : g < B) : NdAt g o ns w' := h.below hb.bel hg

set_option maxHeartbeats 2000000 in
set_option maxRecDepth 100000 in
theorem pk_dlist (B b g o cap : Nat) (bs : List Value) (ns : List Nd) (w : World) (h : PkIs B b bs w) (hn : ns.length ≤ 60) (hs : ∀ n ∈ ns, okD n) (hg : g < B) (hc : NdAt g o ns w)
    (hlen : bs.length + (pk ns.length ++ pkDD ns).length ≤ 140737488355328) (hBw : B ≤ w.heap.size) :
    Calls Tryz.prog 169 #[.pointer (some ⟨b, 0, none⟩), .slice (some ⟨g, o, none⟩) ns.length cap, .func (.func 170) #[] #[]] w fun e w' => e = .returned (.tuple #[]) ∧ (PkIs B b (bs ++ Lib.byteCells (pk ns.length ++ pkDD ns)) w' ∧ Kp B b w w') := by
  have HC : Hid (NdAt g o ns w) := hc
  have HS : Hid _ := hs
  have HL : Hid (bs.length + ((pk ns.length).length + (pkDD ns).length) ≤ 140737488355328) := by show _ ≤ _; simpa using hlen
  have hn1 : (ns.length : Int) ≤ 60 := by omega
  clear hc hs hlen
  go_enter Tryz.func169, Tryz.ntmps169
  go_wp2_with fail
  refine (number_any B b ns.length bs w h (by omega) (by have := HL.out; omega) hBw).mono ?_
  rintro e w1 ⟨rfl, h1, hb1⟩
  clear h
  go_wp2_with fail
  go_loopw [14] (fun i wr => ∃ k : Nat, k ≤ ns.length ∧ i = .int .i64 k ∧ PkIs B b (bs ++ Lib.byteCells (pk ns.length ++ pkDD (ns.take k))) wr ∧ Kp B b w wr) (fun i _ => ns.length - (intOf i).toNat)
  case atStart => exact ⟨0, Nat.zero_le _, rfl, by simpa [pkDD] using h1, hb1⟩
  case round =>
    obtain ⟨k, hk, rfl, hp, hb⟩ := hrel
    clear h1 hb1
    have hsz := hb.size
    by_cases hlt : k < ns.length
    · obtain ⟨a0, a1, a2⟩ := HC.out.kept hb hg k hlt
      have hsp : pkDD (ns.take (k + 1)) = pkDD (ns.take k) ++ pkD ns[k] := by rw [List.take_succ_eq_append_getElem hlt, pkDD_append]; simp [pkDD]
      have hle : (pkDD (ns.take (k + 1))).length ≤ (pkDD ns).length := by
        have e1 : pkDD ns = pkDD (ns.take (k + 1)) ++ pkDD (ns.drop (k + 1)) := by rw [← pkDD_append, List.take_append_drop]
        rw [e1, List.length_append]
        omega
      have hok := HS.out _ (List.getElem_mem hlt)
      have hlen1 : (bs ++ Lib.byteCells (pk ns.length ++ pkDD (ns.take k))).length + (pkD ns[k]).length ≤ 140737488355328 := by
        have := HL.out
        rw [hsp, List.length_append] at hle
        simp [Lib.byteCells]
        omega
      generalize hx : ns[k] = x at a0 a1 a2 hok hlen1 hsp
      obtain ⟨xa, xk, xd⟩ := x
      obtain ⟨o1, o2, o3, o4⟩ := hok
      simp only at a0 a1 a2 o1 o2 o3 o4
      obtain ⟨xn, rfl⟩ : ∃ n : Nat, xk = n := ⟨xk.toNat, by omega⟩
      have H1 : Hid _ := hlen1
      have H2 : Hid _ := hsp
      have H3 : Hid (Kp B b w wr) := hb
      have H4 : Hid (PkIs B b (bs ++ Lib.byteCells (pk ns.length ++ pkDD (ns.take k))) wr) := hp
      have O1 : Hid _ := o1
      have O3 : Hid (xn ≤ 9007199254740991) := by show _ ≤ _; omega
      have O4 : Hid _ := o4
      have i2 : (k : Int) < ns.length := by omega
      clear hlen1 hsp hb hp hle hx o1 o2 o3 o4
      have kA : Kp B b wr (wr.alloc (.cells #[.string xa, .int .i64 xn, .string xd] 108)) := ⟨(Below.refl _ _).alloc (Nat.le_trans hBw hsz) _, (Lib.OthersKept.refl _ _ _).alloc _⟩
      have KA : Hid (Kp B b wr (wr.alloc (.cells #[.string xa, .int .i64 xn, .string xd] 108))) := kA
      clear kA
      go_wp2_with fail
      refine (pk_node B b xn xa xd _ _ (pk_alloc H4.out _) O3.out O1.out O4.out H1.out (Nat.le_trans (Nat.le_trans hBw hsz) KA.out.size)).mono ?_
      rintro e w2 ⟨rfl, h2, hb2⟩
      have H6 : Hid (Kp B b wr w2) := KA.out.trans hb2
      have H7 : Hid (PkIs B b (bs ++ Lib.byteCells (pk ns.length ++ pkDD (ns.take k)) ++ Lib.byteCells (pkD (xa, (xn : Int), xd))) w2) := h2
      clear hb2 h2
      go_wp2
      refine ⟨⟨k + 1, by omega, by go_num, ?_, H3.out.trans H6.out⟩, by simp [intOf]; omega⟩
      rw [H2.out, ← List.append_assoc, byteCells_app, ← List.append_assoc]
      exact H7.out
    · obtain rfl : k = ns.length := by omega
      go_wp2
      go_end0
      refine ⟨rfl, ?_, hb⟩
      rw [List.take_length] at hp
      exact hp

set_option maxHeartbeats 1000000 in
set_option maxRecDepth 100000 in
theorem pk_dlist0 (B b cap : Nat) (a : Option Addr) (bs : List Value) (w : World) (h : PkIs B b bs w) (hlen : bs.length + 1 ≤ 140737488355328) (hBw : B ≤ w.heap.size) :
    Calls Tryz.prog 169 #[.pointer (some ⟨b, 0, none⟩), .slice a 0 cap, .func (.func 170) #[] #[]] w fun e w' => e = .returned (.tuple #[]) ∧ (PkIs B b (bs ++ Lib.byteCells (pk 0 ++ pkDD [])) w' ∧ Kp B b w w') := by
  go_enter Tryz.func169, Tryz.ntmps169
  go_wp2_with fail
  refine (number_any B b 0 bs w h (by omega) (by rw [show (pk 0).length = 1 from rfl]; omega) hBw).mono ?_
  rintro e w1 ⟨rfl, h1, hb1⟩
  go_wp2_with fail
  refine wp_loop_rounds 1 ?_
  rw [rounds_succ]
  go_wp2
  go_end0
  exact ⟨rfl, by simpa [pkDD] using h1, hb1⟩

/-- A slice of these nodes that lies in old memory, below block B. -/
def OldNodes (B : Nat) (w : World) (v : Value) (ns : List Nd) : Prop :=
  ∃ a cap, v = .slice a ns.length cap ∧ (ns = [] ∨ ∃ g o, a = some ⟨g, o, none⟩ ∧ g < B ∧ NdAt g o ns w)
theorem oldN_of (w : World) (v : Value) (ns : List Nd) (h : IsNodes w v ns) : OldNodes w.heap.size w v ns := h.2.2
theorem nodes_below {B : Nat} {w w' : World} {v : Value} {ns : List Nd} (h : OldNodes B w v ns) (hb : Below B w w') : OldNodes B w' v ns := by
  obtain ⟨a, cap, rfl, hs⟩ := h
  refine ⟨a, cap, rfl, ?_⟩
  rcases hs with rfl | ⟨g, o, rfl, hg, hc⟩
  · exact Or.inl rfl
  · exact Or.inr ⟨g, o, rfl, hg, hc.below hb hg⟩
theorem nodes_of {B : Nat} {w : World} {v : Value} {ns : List Nd} (h : OldNodes B w v ns) (hB : B ≤ w.heap.size) (hn : ns.length ≤ 4611686018427387904) (hm : ∀ n ∈ ns, n.1.size ≤ maxLen ∧ n.2.2.size ≤ maxLen) : IsNodes w v ns := by
  obtain ⟨a, cap, rfl, hs⟩ := h
  refine ⟨hn, hm, a, cap, rfl, ?_⟩
  rcases hs with rfl | ⟨g, o, rfl, hg, hc⟩
  · exact Or.inl rfl
  · exact Or.inr ⟨g, o, rfl, by omega, hc⟩

def okDs (ns : List Nd) : Prop := ns.length ≤ 60 ∧ ∀ n ∈ ns, okD n

theorem pk_dlist_any (B b : Nat) (v : Value) (bs : List Value) (ns : List Nd) (w : World) (h : PkIs B b bs w) (hok : okDs ns) (ho : OldNodes B w v ns) (hlen : bs.length + (pk ns.length ++ pkDD ns).length ≤ 140737488355328) (hBw : B ≤ w.heap.size) :
    Calls Tryz.prog 169 #[.pointer (some ⟨b, 0, none⟩), v, .func (.func 170) #[] #[]] w fun e w' => e = .returned (.tuple #[]) ∧ (PkIs B b (bs ++ Lib.byteCells (pk ns.length ++ pkDD ns)) w' ∧ Kp B b w w') := by
  obtain ⟨a, cap, rfl, hs⟩ := ho
  rcases hs with rfl | ⟨g, o, rfl, hg, hc⟩
  · exact pk_dlist0 B b cap a bs w h (by have : (pk ([] : List Nd).length ++ pkDD []).length = 1 := rfl; omega) hBw
  · exact pk_dlist B b g o cap bs ns w h hok.1 hok.2 hg hc hlen hBw

set_option maxHeartbeats 1000000 in
theorem pk_nodes (B b : Nat) (v : Value) (bs : List Value) (ns : List Nd) (w : World) (h : PkIs B b bs w) (hok : okDs ns) (ho : OldNodes B w v ns) (hlen : bs.length + (pk ns.length ++ pkDD ns).length ≤ 140737488355328) (hBw : B ≤ w.heap.size) :
    Calls Tryz.prog 111 #[.pointer (some ⟨b, 0, none⟩), v] w fun e w' => e = .returned (.tuple #[]) ∧ (PkIs B b (bs ++ Lib.byteCells (pk ns.length ++ pkDD ns)) w' ∧ Kp B b w w') := by
  go_enter Tryz.func111, Tryz.ntmps111
  go_wp2_with fail
  refine (pk_dlist_any B b v bs ns w h hok ho hlen hBw).mono ?_
  rintro e w1 ⟨rfl, h1, hb1⟩
  go_wp2
  go_end0
  exact ⟨rfl, h1, hb1⟩

theorem pkT_len (s : ByteArray) (h : s.size ≤ 100000) : (pkT s).length ≤ 100008 := by
  have h3 := pk_len8 s.size (by omega)
  have h4 := size_of (s := s) rfl
  simp only [pkT, List.length_append]
  omega
theorem pkDD_len (ns : List Nd) (hs : ∀ n ∈ ns, okD n) : (pkDD ns).length ≤ ns.length * 200024 := by
  induction ns with
  | nil => simp [pkDD]
  | cons n l ih =>
    have h1 := ih (fun t ht => hs t (List.mem_cons_of_mem _ ht))
    obtain ⟨o1, o2, o3, o4⟩ := hs n (List.mem_cons_self ..)
    have h2 := pkT_len n.1 o1
    have h3 := pk_len8 n.2.1.toNat (by omega)
    have h4 := pkT_len n.2.2 o4
    simp only [pkDD, pkD, List.length_append, List.length_cons]
    omega
theorem pkDs_len (ns : List Nd) (h : okDs ns) : (pk ns.length ++ pkDD ns).length ≤ 200016008 := by
  have h1 := pkDD_len ns h.2
  have h2 := pk_len8 ns.length (by have := h.1; omega)
  have h3 := h.1
  rw [List.length_append]
  omega

set_option maxHeartbeats 1000000 in
set_option maxRecDepth 100000 in
theorem packed_nodes (v : Value) (ns : List Nd) (w : World) (hok : okDs ns) (ht : OldNodes w.heap.size w v ns) :
    Calls Tryz.prog 110 #[v, .func (.func 111) #[] #[]] w fun e w' => e = .returned (.string ⟨(pk ns.length ++ pkDD ns).toArray⟩) ∧ Below w.heap.size w w' := by
  have hl := pkDs_len ns hok
  have hpos := pk_pos ns.length
  have b0 : Below w.heap.size w (w.alloc (.cells #[.pointer none, .slice none 0 0] 129)) := (Below.refl _ _).alloc (Nat.le_refl _) _
  have HO : Hid (OldNodes w.heap.size (w.alloc (.cells #[.pointer none, .slice none 0 0] 129)) v ns) := nodes_below ht b0
  have H0 : Hid _ := b0
  have HK : Hid _ := hok
  obtain ⟨a, cap, rfl, _⟩ := ht
  clear b0 hok
  go_enter Tryz.func110, Tryz.ntmps110
  go_wp2_with fail
  refine (pk_nodes w.heap.size w.heap.size _ [] ns _ (Lib.fresh_isBuilder _ _ w) HK.out HO.out (by simp only [List.length_nil]; omega) (by simp)).mono ?_
  rintro e w1 ⟨rfl, h1, hb1⟩
  go_wp2_with fail
  refine (st_any w.heap.size w.heap.size (pk ns.length ++ pkDD ns) w1 (by simpa using h1) (by intro h; rw [List.append_eq_nil_iff] at h; rw [h.1] at hpos; simp at hpos)).mono ?_
  rintro e w2 ⟨rfl, hb2⟩
  go_wp2
  go_ret
  exact ⟨rfl, (H0.out.trans hb1.bel).trans hb2⟩

theorem nameOk_size {s : ByteArray} (h : nameOk s = true) : s.size ≤ 100000 := by
  unfold nameOk at h
  simp at h
  omega
theorem kindNo_le {k : Int} (h : kindNo k = false) : 0 ≤ k ∧ k ≤ 3 := by
  simp [kindNo] at h
  omega
theorem ndE_ok {n : Nd} (h : ndE n = 0) : nameOk n.1 = true ∧ digOk n.2.2 = true ∧ kindNo n.2.1 = false := by
  unfold ndE at h
  by_cases h1 : nameOk n.1 = false
  · rw [if_pos h1] at h; cases h
  rw [if_neg h1] at h
  by_cases h2 : digOk n.2.2 = false
  · rw [if_pos h2] at h; cases h
  rw [if_neg h2] at h
  by_cases h3 : kindNo n.2.1 = true
  · rw [if_pos h3] at h; cases h
  exact ⟨by simpa using h1, by simpa using h2, by simpa using h3⟩
theorem ndEs_all (ns : List Nd) (h : ndEs ns = 0) : ∀ n ∈ ns, ndE n = 0 := by
  induction ns with
  | nil => intro n hn; cases hn
  | cons m l ih =>
    have h' : (if ndE m = 0 then ndEs l else ndE m) = 0 := h
    by_cases h0 : ndE m = 0
    · rw [if_pos h0] at h'
      intro n hn
      rcases List.mem_cons.1 hn with rfl | hn
      · exact h0
      · exact ih h' n hn
    · rw [if_neg h0] at h'; exact absurd h' h0
theorem neC_ok {ns : List Nd} (h : neC ns = 0) : okDs ns ∧ ndEs ns = 0 ∧ riseB (ns.map (·.1)) = true := by
  unfold neC at h
  by_cases h1 : 60 < ns.length
  · rw [if_pos h1] at h; cases h
  rw [if_neg h1] at h
  by_cases h2 : ndEs ns = 0
  · rw [if_pos h2] at h
    by_cases h3 : riseB (ns.map (·.1)) = true
    · refine ⟨⟨by omega, fun n hn => ?_⟩, h2, h3⟩
      obtain ⟨e1, e2, e3⟩ := ndE_ok (ndEs_all ns h2 n hn)
      have e4 := kindNo_le e3
      have e5 := digOk_size e2
      exact ⟨nameOk_size e1, e4.1, e4.2, by omega⟩
    · rw [if_neg h3] at h; cases h
  · rw [if_neg h2] at h; exact absurd h h2

set_option maxHeartbeats 1000000 in
set_option maxRecDepth 100000 in
theorem Nodes_yes (v : Value) (ns : List Nd) (w : World) (hok : neC ns = 0) (ht : IsNodes w v ns) :
    Calls Tryz.prog 70 #[v] w fun e w' => e = .returned (.tuple #[.string ⟨(pk ns.length ++ pkDD ns).toArray⟩, .int .i64 0]) ∧ Below w.heap.size w w' := by
  have HI : Hid _ := ht
  have H2 : Hid _ := oldN_of w v ns ht
  have HK : Hid _ := hok
  obtain ⟨_, _, a, cap, rfl, _⟩ := ht
  clear hok
  go_enter Tryz.func70, Tryz.ntmps70
  go_wp2_with fail
  refine (ne_any _ ns w HI.out).mono ?_
  rintro e w1 ⟨rfl, hb1⟩
  rw [HK.out]
  have B1 : Hid _ := hb1
  clear hb1
  go_wp2_with fail
  refine (packed_nodes _ ns w1 (neC_ok HK.out).1 (by
    obtain ⟨a', cap', e, hs⟩ := nodes_below H2.out B1.out
    refine ⟨a', cap', e, ?_⟩
    rcases hs with h | ⟨g, o, h1, h2, h3⟩
    · exact Or.inl h
    · exact Or.inr ⟨g, o, h1, Nat.lt_of_lt_of_le h2 B1.out.size, h3⟩)).mono ?_
  rintro e w2 ⟨rfl, hb2⟩
  go_wp2
  go_ret2
  exact ⟨rfl, B1.out.trans (hb2.mono B1.out.size)⟩

set_option maxHeartbeats 1000000 in
theorem Nodes_no (v : Value) (ns : List Nd) (w : World) (hno : neC ns ≠ 0) (ht : IsNodes w v ns) :
    Calls Tryz.prog 70 #[v] w fun e w' => e = .returned (.tuple #[.string ⟨#[]⟩, .int .i64 (neC ns)]) ∧ Below w.heap.size w w' := by
  have HI : Hid _ := ht
  obtain ⟨_, _, a, cap, rfl, _⟩ := ht
  go_enter Tryz.func70, Tryz.ntmps70
  go_wp2_with fail
  refine (ne_any _ ns w HI.out).mono ?_
  rintro e w1 ⟨rfl, hb1⟩
  have B1 : Hid _ := hb1
  clear hb1
  have hne : (neC ns != 0) = true := by rw [bne_iff_ne]; exact hno
  generalize hr : neC ns = r at hne hno ⊢
  have HR : Hid (neC ns = r) := hr
  clear hr hno
  go_wp2
  go_ret2
  exact ⟨by rw [HR.out]; rfl, B1.out⟩
end Go.Proofs.YtcdgdmhlbgbklaaGreatDoor

/- A directory, plain: what lies on top of it, and what lies in its directories. -/
namespace Go.Proofs.YtcdgdmhlbgbklaaGreatDoor
open Go.RowKit Go.Shelf Go.Maps Go.WideMaps

/-- A path at its first slash. -/
def sl : List UInt8 → Option (List UInt8 × List UInt8)
  | [] => none
  | c :: l => if c = 47 then some ([], l) else (sl l).map fun x => (c :: x.1, x.2)
theorem sl_some : ∀ {p a b : List UInt8}, sl p = some (a, b) → p = a ++ 47 :: b ∧ (47 : UInt8) ∉ a
  | [], _, _, h => by cases h
  | c :: l, a, b, h => by
    unfold sl at h
    by_cases hc : c = 47
    · rw [if_pos hc] at h
      injection h with h
      injection h with h1 h2
      subst h1 h2 hc
      simp
    · rw [if_neg hc] at h
      cases hs : sl l with
      | none => rw [hs] at h; cases h
      | some x =>
        obtain ⟨a', b'⟩ := x
        rw [hs] at h
        injection h with h
        injection h with h1 h2
        subst h1 h2
        obtain ⟨e, hn⟩ := sl_some hs
        refine ⟨by rw [e]; rfl, ?_⟩
        simp only [List.mem_cons, not_or]
        exact ⟨fun e => hc e.symm, hn⟩
theorem sl_none : ∀ {p : List UInt8}, sl p = none → (47 : UInt8) ∉ p
  | [], _ => by simp
  | c :: l, h => by
    unfold sl at h
    by_cases hc : c = 47
    · rw [if_pos hc] at h; cases h
    · rw [if_neg hc] at h
      have h2 : sl l = none := by
        cases hs : sl l with
        | none => rfl
        | some x => rw [hs] at h; cases h
      simp only [List.mem_cons, not_or]
      exact ⟨fun e => hc e.symm, sl_none h2⟩
theorem ix_sl : ∀ p : List UInt8, Lib.indexByte p 47 = match sl p with | some x => (x.1.length : Int) | none => -1
  | [] => rfl
  | c :: l => by
    unfold Lib.indexByte sl
    by_cases hc : c = 47
    · rw [if_pos hc, if_pos (by simpa using hc)]
      rfl
    · rw [if_neg hc, if_neg (by simpa using hc), ix_sl l]
      cases hs : sl l with
      | none => rfl
      | some x =>
        simp only [Option.map_some]
        rw [if_neg (by simp)]
        simp
theorem cut_sl (p : List UInt8) : Lib.cut p [47] = match sl p with | some x => (x.1, x.2, true) | none => (p, [], false) := by
  unfold Lib.cut
  rw [Lib.index_one, ix_sl]
  cases hs : sl p with
  | none => rw [if_neg (by decide)]
  | some x =>
    obtain ⟨a, b⟩ := x
    obtain ⟨e, _⟩ := sl_some hs
    simp only
    rw [if_pos (by omega)]
    simp only [Int.toNat_natCast, List.length_singleton]
    rw [e]
    simp
theorem parts_sl (p : List UInt8) : parts [] p = match sl p with | some x => x.1 :: parts [] x.2 | none => [p] := by
  have hi := ix_sl p
  cases hs : sl p with
  | none =>
    rw [hs] at hi
    rw [parts_miss p [] hi]
    rfl
  | some x =>
    obtain ⟨a, b⟩ := x
    obtain ⟨e, _⟩ := sl_some hs
    rw [hs] at hi
    rw [parts_hit p [] a.length hi]
    simp only [List.nil_append]
    rw [e]
    simp

def deepF (f : Fl) : Bool := (sl (pth f)).isSome
def hdF (f : Fl) : List UInt8 := match sl (pth f) with | some x => x.1 | none => pth f
def subF (f : Fl) : Fl := match sl (pth f) with | some x => ⟨⟨x.2.toArray⟩, f.tx, f.rn⟩ | none => f
theorem deep_sl {f : Fl} (h : deepF f = true) : sl (pth f) = some (hdF f, pth (subF f)) ∧ pth f = hdF f ++ 47 :: pth (subF f) := by
  unfold deepF at h
  have e : sl (pth f) = some (hdF f, pth (subF f)) := by
    unfold hdF subF
    cases hs : sl (pth f) with
    | none => rw [hs] at h; cases h
    | some x => rfl
  exact ⟨e, (sl_some e).1⟩
theorem top_sl {f : Fl} (h : deepF f = false) : sl (pth f) = none := by
  unfold deepF at h
  cases hs : sl (pth f) with
  | none => rfl
  | some x => rw [hs] at h; cases h
theorem subF_tx (f : Fl) : (subF f).tx = f.tx := by unfold subF; cases sl (pth f) <;> rfl
theorem subF_size {f : Fl} (h : deepF f = true) : (subF f).pa.size < f.pa.size := by
  have e := congrArg List.length (deep_sl h).2
  rw [List.length_append, List.length_cons] at e
  have e1 : (pth f).length = f.pa.size := Array.length_toList
  have e2 : (pth (subF f)).length = (subF f).pa.size := Array.length_toList
  omega

/-- The files of a list that are a tree. -/
def okT (L : List Fl) : Prop := L.length ≤ 60 ∧ (∀ f ∈ L, flE f = 0) ∧ L.Pairwise fit2
theorem okT_of {L : List Fl} (h : chF L = 0) : okT L := by
  unfold chF at h
  by_cases h1 : 60 < L.length
  · rw [if_pos h1] at h; exact absurd h (by decide)
  · rw [if_neg h1] at h
    by_cases h2 : flEs L = 0
    · rw [if_pos h2] at h
      by_cases h3 : (upF L && !thruF L L) = true
      · exact ⟨by omega, flEs_all h2, (fit_iff L).2 h3⟩
      · rw [if_neg h3] at h; exact absurd h (by decide)
    · rw [if_neg h2] at h; exact absurd h h2

theorem lt_app (a : List UInt8) : ∀ b c : List UInt8, (a ++ b < a ++ c) ↔ b < c := by
  induction a with
  | nil => intro b c; rfl
  | cons x a ih =>
    intro b c
    rw [List.cons_append, List.cons_append, List.cons_lt_cons_iff]
    constructor
    · rintro (h | ⟨_, h⟩)
      · exact absurd h (by simp)
      · exact (ih b c).1 h
    · exact fun h => .inr ⟨rfl, (ih b c).2 h⟩
theorem inB_list (p d : ByteArray) : inB p d = true ↔ ∃ r, p.data.toList = d.data.toList ++ 47 :: r := by
  rw [inB_iff]
  constructor
  · rintro ⟨i, h1, h2, h3⟩
    have h1' : i < p.data.toList.length := by rw [Array.length_toList]; exact h1
    refine ⟨p.data.toList.drop (i + 1), ?_⟩
    rw [h3, show (p.extract 0 i).data.toList = p.data.toList.take i from by simp]
    rw [List.getD_eq_getElem?_getD, List.getElem?_eq_getElem h1'] at h2
    have h4 : p.data.toList[i] = 47 := h2
    rw [← h4, List.getElem_cons_drop, List.take_append_drop]
  · rintro ⟨r, h⟩
    have hl := congrArg List.length h
    rw [List.length_append, List.length_cons, Array.length_toList, Array.length_toList] at hl
    refine ⟨d.size, by show d.data.size < p.data.size; omega, ?_, ?_⟩
    · rw [h, List.getD_eq_getElem?_getD, List.getElem?_append_right (by rw [Array.length_toList]; exact Nat.le_refl _)]
      rw [Array.length_toList]
      show (47 :: r)[d.data.size - d.data.size]?.getD 0 = 47
      rw [Nat.sub_self]
      rfl
    · show d.data.toList = (p.extract 0 d.data.size).data.toList
      rw [show (p.extract 0 d.data.size).data.toList = p.data.toList.take d.data.size from by simp, h, List.take_append_of_le_length (by rw [Array.length_toList]; exact Nat.le_refl _), ← Array.length_toList, List.take_length]

theorem cons_app {a b c : List UInt8} (h : a ++ b = a ++ c) : b = c := List.append_cancel_left h
theorem fit_sub {f g : Fl} (hf : deepF f = true) (hg : deepF g = true) (hm : hdF f = hdF g) (h : fit2 f g) : fit2 (subF f) (subF g) := by
  have ef := (deep_sl hf).2
  have eg := (deep_sl hg).2
  rw [← hm] at eg
  obtain ⟨h1, h2, h3⟩ := h
  refine ⟨?_, ?_, ?_⟩
  · rw [ef, eg, lt_app] at h1
    rw [List.cons_lt_cons_iff] at h1
    rcases h1 with h1 | ⟨_, h1⟩
    · exact absurd h1 (by decide)
    · exact h1
  · cases hc : inB (subF g).pa (subF f).pa with
    | false => rfl
    | true =>
      obtain ⟨r, hr⟩ := (inB_list _ _).1 hc
      have : inB g.pa f.pa = true := (inB_list _ _).2 ⟨r, by
        show pth g = pth f ++ 47 :: r
        rw [eg, ef, show pth (subF g) = pth (subF f) ++ 47 :: r from hr]
        simp⟩
      rw [this] at h2
      cases h2
  · cases hc : inB (subF f).pa (subF g).pa with
    | false => rfl
    | true =>
      obtain ⟨r, hr⟩ := (inB_list _ _).1 hc
      have : inB f.pa g.pa = true := (inB_list _ _).2 ⟨r, by
        show pth f = pth g ++ 47 :: r
        rw [eg, ef, show pth (subF f) = pth (subF g) ++ 47 :: r from hr]
        simp⟩
      rw [this] at h3
      cases h3
theorem pieces_sl (p : ByteArray) : piecesB p = match sl p.data.toList with | some x => ⟨x.1.toArray⟩ :: piecesB ⟨x.2.toArray⟩ | none => [p] := by
  unfold piecesB
  rw [parts_sl]
  cases sl p.data.toList with
  | none => rfl
  | some x => rfl
theorem ok_sub {f : Fl} (hf : deepF f = true) (h : flE f = 0) : flE (subF f) = 0 ∧ nameOk ⟨(hdF f).toArray⟩ = true := by
  obtain ⟨h1, h2⟩ := flE_pa h
  have hs := subF_size hf
  unfold pathOk at h1
  rw [Bool.and_eq_true, pieces_sl] at h1
  obtain ⟨h3, h4⟩ := h1
  have h5 := of_decide_eq_true h3
  have e : sl f.pa.data.toList = some (hdF f, pth (subF f)) := (deep_sl hf).1
  rw [e] at h4
  simp only [List.all_cons, Bool.and_eq_true] at h4
  have e2 : (⟨(pth (subF f)).toArray⟩ : ByteArray) = (subF f).pa := by
    show (⟨(subF f).pa.data.toList.toArray⟩ : ByteArray) = _
    rw [Array.toArray_toList]
  rw [e2] at h4
  refine ⟨?_, h4.1⟩
  have hp : pathOk (subF f).pa = true := by
    unfold pathOk
    rw [h4.2, Bool.and_true]
    exact decide_eq_true (by omega)
  unfold flE
  rw [if_neg (by rw [hp]; decide), if_neg (by rw [subF_tx]; omega)]
theorem top_name {f : Fl} (hf : deepF f = false) (h : flE f = 0) : nameOk f.pa = true := by
  obtain ⟨h1, _⟩ := flE_pa h
  unfold pathOk at h1
  rw [Bool.and_eq_true, pieces_sl] at h1
  have e : sl f.pa.data.toList = none := top_sl hf
  rw [e] at h1
  simpa using h1.2

/-- What lies in a directory of a name. -/
def sub (n : List UInt8) (L : List Fl) : List Fl := (L.filter fun f => deepF f && decide (hdF f = n)).map subF
def tops (L : List Fl) : List Fl := L.filter fun f => !deepF f
theorem sub_snoc (n : List UInt8) (L : List Fl) (f : Fl) : sub n (L ++ [f]) = if deepF f = true ∧ hdF f = n then sub n L ++ [subF f] else sub n L := by
  unfold sub
  rw [List.filter_append, List.map_append]
  by_cases h : deepF f = true ∧ hdF f = n
  · rw [if_pos h]
    simp [h.1, h.2]
  · rw [if_neg h]
    have : (deepF f && decide (hdF f = n)) = false := by
      rw [Bool.eq_false_iff]
      intro h2
      rw [Bool.and_eq_true, decide_eq_true_eq] at h2
      exact h h2
    simp [this]
theorem tops_snoc (L : List Fl) (f : Fl) : tops (L ++ [f]) = if deepF f = true then tops L else tops L ++ [f] := by
  unfold tops
  rw [List.filter_append]
  cases h : deepF f <;> simp [h]
theorem sub_len (n : List UInt8) (L : List Fl) : (sub n L).length ≤ L.length := by
  unfold sub
  rw [List.length_map]
  exact List.length_filter_le _ _
theorem okT_sub {L : List Fl} (h : okT L) (n : List UInt8) : okT (sub n L) := by
  obtain ⟨h1, h2, h3⟩ := h
  refine ⟨by have := sub_len n L; omega, fun f hf => ?_, ?_⟩
  · obtain ⟨g, hg, rfl⟩ := List.mem_map.1 hf
    rw [List.mem_filter, Bool.and_eq_true] at hg
    exact (ok_sub hg.2.1 (h2 g hg.1)).1
  · unfold sub
    rw [List.pairwise_map]
    have h4 := h3.filter (fun f => deepF f && decide (hdF f = n))
    refine List.Pairwise.imp_of_mem (fun {a b} ha hb hab => ?_) h4
    rw [List.mem_filter, Bool.and_eq_true, decide_eq_true_eq] at ha hb
    exact fit_sub ha.2.1 hb.2.1 (ha.2.2.trans hb.2.2.symm) hab
theorem sub_less {L : List Fl} {n : Nat} (h : ∀ f ∈ L, f.pa.size < n + 1) (m : List UInt8) : ∀ f ∈ sub m L, f.pa.size < n := fun f hf => by
  obtain ⟨g, hg, rfl⟩ := List.mem_map.1 hf
  rw [List.mem_filter, Bool.and_eq_true] at hg
  have := h g hg.1
  have := subF_size hg.2.1
  omega

/-- A name among others that rise. -/
def insN (n : List UInt8) : List (List UInt8) → List (List UInt8)
  | [] => [n]
  | m :: r => if n = m then m :: r else if n < m then n :: m :: r else m :: insN n r
/-- The names of the directories. -/
def names : List Fl → List (List UInt8)
  | [] => []
  | f :: l => if deepF f = true then insN (hdF f) (names l) else names l
theorem insN_mem (n x : List UInt8) : ∀ l : List (List UInt8), x ∈ insN n l ↔ x = n ∨ x ∈ l
  | [] => by simp [insN]
  | m :: r => by
    unfold insN
    by_cases h : n = m
    · rw [if_pos h]
      subst h
      simp
    · rw [if_neg h]
      by_cases h2 : n < m
      · rw [if_pos h2]
        simp
      · rw [if_neg h2, List.mem_cons, insN_mem n x r, List.mem_cons]
        constructor
        · rintro (h | h | h)
          · exact .inr (.inl h)
          · exact .inl h
          · exact .inr (.inr h)
        · rintro (h | h | h)
          · exact .inr (.inl h)
          · exact .inl h
          · exact .inr (.inr h)
theorem insN_up (n : List UInt8) : ∀ l : List (List UInt8), l.Pairwise (· < ·) → (insN n l).Pairwise (· < ·)
  | [], _ => by simp [insN]
  | m :: r, h => by
    rw [List.pairwise_cons] at h
    unfold insN
    by_cases h1 : n = m
    · rw [if_pos h1]
      exact List.pairwise_cons.2 h
    · rw [if_neg h1]
      by_cases h2 : n < m
      · rw [if_pos h2, List.pairwise_cons, List.pairwise_cons]
        refine ⟨fun x hx => ?_, h⟩
        rcases List.mem_cons.1 hx with rfl | hx
        · exact h2
        · exact List.lt_trans h2 (h.1 x hx)
      · rw [if_neg h2, List.pairwise_cons]
        refine ⟨fun x hx => ?_, insN_up n r h.2⟩
        rcases (insN_mem n x r).1 hx with rfl | hx
        · rcases Decidable.em (m < x) with h3 | h3
          · exact h3
          · exact absurd (List.le_antisymm (List.not_lt.1 h3) (List.not_lt.1 h2)) h1
        · exact h.1 x hx
theorem insN_len (n : List UInt8) : ∀ l : List (List UInt8), (insN n l).length ≤ l.length + 1
  | [] => by simp [insN]
  | m :: r => by
    unfold insN
    have := insN_len n r
    by_cases h : n = m
    · rw [if_pos h]; omega
    · rw [if_neg h]
      by_cases h2 : n < m
      · rw [if_pos h2]; simp
      · rw [if_neg h2]; simp; omega
theorem names_mem : ∀ (L : List Fl) (n : List UInt8), n ∈ names L ↔ ∃ f ∈ L, deepF f = true ∧ hdF f = n
  | [], n => by simp [names]
  | f :: l, n => by
    unfold names
    by_cases h : deepF f = true
    · rw [if_pos h, insN_mem, names_mem l n]
      constructor
      · rintro (h1 | ⟨g, hg, h1⟩)
        · exact ⟨f, by simp, h, h1.symm⟩
        · exact ⟨g, by simp [hg], h1⟩
      · rintro ⟨g, hg, h1, h2⟩
        rcases List.mem_cons.1 hg with rfl | hg
        · exact .inl h2.symm
        · exact .inr ⟨g, hg, h1, h2⟩
    · rw [if_neg h, names_mem l n]
      constructor
      · rintro ⟨g, hg, h1⟩
        exact ⟨g, by simp [hg], h1⟩
      · rintro ⟨g, hg, h1, h2⟩
        rcases List.mem_cons.1 hg with rfl | hg
        · exact absurd h1 h
        · exact ⟨g, hg, h1, h2⟩
theorem names_up : ∀ L : List Fl, (names L).Pairwise (· < ·)
  | [] => .nil
  | f :: l => by
    unfold names
    by_cases h : deepF f = true
    · rw [if_pos h]; exact insN_up _ _ (names_up l)
    · rw [if_neg h]; exact names_up l
theorem names_nodup (L : List Fl) : (names L).Nodup := (names_up L).imp fun h e => by rw [e] at h; exact List.lt_irrefl _ h
theorem names_len : ∀ L : List Fl, (tops L).length + (names L).length ≤ L.length
  | [] => by simp [tops, names]
  | f :: l => by
    have ih := names_len l
    unfold names
    by_cases h : deepF f = true
    · rw [if_pos h]
      have := insN_len (hdF f) (names l)
      have e : tops (f :: l) = tops l := by unfold tops; simp [h]
      rw [e, List.length_cons]
      omega
    · rw [if_neg h]
      have e : tops (f :: l) = f :: tops l := by unfold tops; simp [h]
      rw [e, List.length_cons, List.length_cons]
      omega
end Go.Proofs.YtcdgdmhlbgbklaaGreatDoor

/- A directory, plain: its nodes, and how it is packed. -/
namespace Go.Proofs.YtcdgdmhlbgbklaaGreatDoor
open Go.RowKit Go.Shelf Go.Maps Go.WideMaps

def kdF (r : Bool) : Int := if r = true then 2 else 1
def kyN (n : Nd) : List UInt8 := n.1.data.toList
def leN (a b : Nd) : Bool := decide (kyN a ≤ kyN b)
def sortN (ns : List Nd) : List Nd := ns.mergeSort leN
def txN (ns : List Nd) : ByteArray := ⟨(pk (sortN ns).length ++ pkDD (sortN ns)).toArray⟩

theorem leN_trans (a b c : Nd) (h1 : leN a b = true) (h2 : leN b c = true) : leN a c = true := by
  unfold leN at *
  rw [decide_eq_true_eq] at *
  exact List.le_trans h1 h2
theorem leN_total (a b : Nd) : (leN a b || leN b a) = true := by
  unfold leN
  rw [Bool.or_eq_true, decide_eq_true_eq, decide_eq_true_eq]
  exact List.le_total _ _
theorem sortN_up (ns : List Nd) : (sortN ns).Pairwise fun a b => leN a b = true := List.pairwise_mergeSort leN_trans leN_total ns
theorem sortN_perm (ns : List Nd) : (sortN ns).Perm ns := List.mergeSort_perm ns leN
theorem key_inj {l : List Nd} (hn : (l.map kyN).Nodup) {a b : Nd} (ha : a ∈ l) (hb : b ∈ l) (h : kyN a = kyN b) : a = b := by
  obtain ⟨i, hi, rfl⟩ := List.getElem_of_mem ha
  obtain ⟨j, hj, rfl⟩ := List.getElem_of_mem hb
  have hp := List.pairwise_iff_getElem.1 hn
  rcases Nat.lt_trichotomy i j with hij | hij | hij
  · exact absurd (by rw [List.getElem_map, List.getElem_map]; exact h) (hp i j (by simpa using hi) (by simpa using hj) hij)
  · subst hij; rfl
  · exact absurd (by rw [List.getElem_map, List.getElem_map]; exact h.symm) (hp j i (by simpa using hj) (by simpa using hi) hij)
/-- There is one order by names. -/
theorem sortN_uniq {ns d : List Nd} (hn : (ns.map kyN).Nodup) (hp : d.Perm ns) (hs : d.Pairwise fun a b => leN a b = true) : d = sortN ns := by
  refine List.Perm.eq_of_pairwise (le := fun a b => leN a b = true) (fun a b ha hb h1 h2 => ?_) hs (sortN_up ns) (hp.trans (sortN_perm ns).symm)
  unfold leN at h1 h2
  rw [decide_eq_true_eq] at h1 h2
  exact key_inj hn (hp.mem_iff.1 ha) ((sortN_perm ns).mem_iff.1 hb) (List.le_antisymm h1 h2)
theorem sortN_rise {ns : List Nd} (hn : (ns.map kyN).Nodup) : riseB ((sortN ns).map (·.1)) = true := by
  refine riseB_yes _ fun j hj => ?_
  rw [List.length_map] at hj
  rw [List.getElem_map, List.getElem_map]
  have h1 := List.pairwise_iff_getElem.1 (sortN_up ns) j (j + 1) (by omega) hj (by omega)
  have hn2 : ((sortN ns).map kyN).Nodup := ((sortN_perm ns).map kyN).nodup_iff.2 hn
  have h2 := List.pairwise_iff_getElem.1 hn2 j (j + 1) (by rw [List.length_map]; omega) (by rw [List.length_map]; exact hj) (by omega)
  rw [List.getElem_map, List.getElem_map] at h2
  unfold leN at h1
  rw [decide_eq_true_eq] at h1
  unfold less
  rw [Lib.toList_data, Lib.toList_data, tlt, decide_eq_true_eq]
  rcases Decidable.em (kyN (sortN ns)[j] < kyN (sortN ns)[j + 1]) with h | h
  · exact h
  · exact absurd (List.le_antisymm h1 (List.not_lt.1 h)) h2

section
variable (sm : ByteArray → ByteArray)
def ndF (f : Fl) : Nd := (f.pa, kdF f.rn, sm f.tx)
def ndM (m : List UInt8) (s : ByteArray) : Nd := (⟨m.toArray⟩, 3, sm s)
/-- How a directory is packed, and all its texts. -/
def dirF : Nat → List Fl → ByteArray × List ByteArray
  | 0, _ => (⟨#[]⟩, [])
  | n + 1, L => (txN ((tops L).map (ndF sm) ++ (names L).map fun m => ndM sm m (dirF n (sub m L)).1), (tops L).map Fl.tx ++ (names L).flatMap (fun m => (dirF n (sub m L)).2) ++ [txN ((tops L).map (ndF sm) ++ (names L).map fun m => ndM sm m (dirF n (sub m L)).1)])
/-- A directory's nodes, as they come. -/
def nsF (n : Nat) (L : List Fl) : List Nd := (tops L).map (ndF sm) ++ (names L).map fun m => ndM sm m (dirF sm n (sub m L)).1
theorem dirF_succ (n : Nat) (L : List Fl) : dirF sm (n + 1) L = (txN (nsF sm n L), (tops L).map Fl.tx ++ (names L).flatMap (fun m => (dirF sm n (sub m L)).2) ++ [txN (nsF sm n L)]) := rfl

theorem nsF_keys (n : Nat) (L : List Fl) : (nsF sm n L).map kyN = (tops L).map pth ++ names L := by
  unfold nsF
  rw [List.map_append, List.map_map, List.map_map]
  congr 1
  have : (kyN ∘ fun m => ndM sm m (dirF sm n (sub m L)).1) = id := by
    funext m
    rfl
  rw [this, List.map_id]
theorem nsF_nodup (n : Nat) {L : List Fl} (h : okT L) : ((nsF sm n L).map kyN).Nodup := by
  rw [nsF_keys, List.nodup_append]
  obtain ⟨_, _, h3⟩ := h
  refine ⟨?_, names_nodup L, fun x hx y hy e => ?_⟩
  · unfold tops
    exact List.pairwise_map.2 ((h3.filter _).imp fun hh e => by have := hh.1; rw [e] at this; exact List.lt_irrefl _ this)
  · obtain ⟨f, hf, rfl⟩ := List.mem_map.1 hx
    obtain ⟨g, hg, hd, hh⟩ := (names_mem L y).1 hy
    unfold tops at hf
    rw [List.mem_filter] at hf
    have eg := (deep_sl hd).2
    have hin : inB g.pa f.pa = true := (inB_list _ _).2 ⟨pth (subF g), by
      show pth g = pth f ++ 47 :: pth (subF g)
      rw [e, ← hh]
      exact eg⟩
    obtain ⟨i, hi, rfl⟩ := List.getElem_of_mem hf.1
    obtain ⟨j, hj, rfl⟩ := List.getElem_of_mem hg
    have hp := List.pairwise_iff_getElem.1 h3
    rcases Nat.lt_trichotomy i j with hij | hij | hij
    · rw [(hp i j hi hj hij).2.1] at hin; cases hin
    · subst hij; rw [inB_self] at hin; cases hin
    · rw [(hp j i hj hi hij).2.2] at hin; cases hin
theorem nsF_len (n : Nat) (L : List Fl) : (nsF sm n L).length ≤ L.length := by
  unfold nsF
  rw [List.length_append, List.length_map, List.length_map]
  exact names_len L
theorem nsF_ok (hsm : ∀ t, digOk (sm t) = true) (n : Nat) {L : List Fl} (h : okT L) : neC (sortN (nsF sm n L)) = 0 := by
  have hl : (sortN (nsF sm n L)).length ≤ 60 := by rw [(sortN_perm _).length_eq]; have := nsF_len sm n L; have := h.1; omega
  have he : ndEs (sortN (nsF sm n L)) = 0 := ndEs_yes _ fun j hj => by
    have hm : (sortN (nsF sm n L))[j] ∈ nsF sm n L := (sortN_perm _).mem_iff.1 (List.getElem_mem hj)
    generalize (sortN (nsF sm n L))[j] = x at hm
    unfold nsF at hm
    rcases List.mem_append.1 hm with hm | hm
    · obtain ⟨f, hf, rfl⟩ := List.mem_map.1 hm
      unfold tops at hf
      rw [List.mem_filter] at hf
      have hnm := top_name (by simpa using hf.2) (h.2.1 f hf.1)
      unfold ndE ndF
      simp only
      rw [if_neg (by rw [hnm]; decide), if_neg (by rw [hsm]; decide), if_neg (by unfold kdF; split <;> decide)]
    · obtain ⟨m, hm2, rfl⟩ := List.mem_map.1 hm
      obtain ⟨g, hg, hd, hh⟩ := (names_mem L m).1 hm2
      have hnm := (ok_sub hd (h.2.1 g hg)).2
      rw [hh] at hnm
      unfold ndE ndM
      simp only
      rw [if_neg (by rw [hnm]; decide), if_neg (by rw [hsm]; decide), if_neg (by decide)]
  unfold neC
  rw [if_neg (by omega), if_pos he, if_pos (sortN_rise (nsF_nodup sm n h))]
end
end Go.Proofs.YtcdgdmhlbgbklaaGreatDoor

/- What ReadResult answers at a packed result. -/
namespace Go.Proofs.YtcdgdmhlbgbklaaGreatDoor
open Go.RowKit Go.Shelf

theorem rd_number2 (b : Nat) (s : ByteArray) (w : World) (n : Nat) (r : List UInt8) (hs : s.size ≤ maxLen) (hn : n ≤ 9007199254740991) (h : s.data.toList = pk n ++ r)
    (hc : w.cell? ⟨b, 0, none⟩ = some (.string s)) (hf : w.frozen? ⟨b, 0, none⟩ = false) :
    Calls Tryz.prog 89 #[.pointer (some ⟨b, 0, none⟩)] w fun e w' => e = .returned (.int .i64 n) ∧ (∃ s' : ByteArray, s'.data.toList = r ∧ s'.size ≤ maxLen ∧ w'.cell? ⟨b, 0, none⟩ = some (.string s')) ∧ w'.frozen? ⟨b, 0, none⟩ = false ∧ w.grownBy w' (some b) := by
  refine (rd_number b s w n r hs hn h hc hf).mono ?_
  rintro e w' ⟨rfl, s', h1, h2, rfl⟩
  exact ⟨rfl, ⟨s', h1, h2, World.cell?_setCell_same' _ _ _ (by rw [hc]; rfl)⟩, by rw [World.frozen?_setCell]; exact hf, grownBy_set w b 0 _⟩
end Go.Proofs.YtcdgdmhlbgbklaaGreatDoor

/- What the reader does at packed nodes. -/
namespace Go.Proofs.YtcdgdmhlbgbklaaGreatDoor
open Go.RowKit Go.Shelf

set_option maxHeartbeats 2000000 in
set_option maxRecDepth 100000 in
theorem rd_node (b k : Nat) (s a d : ByteArray) (w : World) (r : List UInt8) (hs : s.size ≤ maxLen) (hk : k ≤ 9007199254740991) (ha : a.size ≤ 281474976710656) (hd : d.size ≤ 281474976710656) (h : s.data.toList = pkD (a, (k : Int), d) ++ r)
    (hcell : w.cell? ⟨b, 0, none⟩ = some (.string s)) (hf : w.frozen? ⟨b, 0, none⟩ = false) :
    Calls Tryz.prog 200 #[.pointer (some ⟨b, 0, none⟩)] w fun e w' => e = .returned (.agg #[.string a, .int .i64 k, .string d]) ∧ (∃ s' : ByteArray, s'.data.toList = r ∧ s'.size ≤ maxLen ∧ w'.cell? ⟨b, 0, none⟩ = some (.string s')) ∧ w'.frozen? ⟨b, 0, none⟩ = false ∧ w.grownBy w' (some b) := by
  have hbl : b < w.heap.size := World.block_lt_of_cell? w ⟨b, 0, none⟩ hcell
  have hta := size_of (s := a) rfl
  have htd := size_of (s := d) rfl
  have h' : s.data.toList = pk a.data.toList.length ++ (a.data.toList ++ (pk k ++ (pk d.data.toList.length ++ (d.data.toList ++ r)))) := by
    rw [h]
    unfold pkD pkT
    rw [hta, htd]
    simp only [List.append_assoc, Int.toNat_natCast]
  have HS : Hid _ := h'
  have HA : Hid (a.data.toList.length ≤ 281474976710656) := by show _ ≤ _; omega
  have HD : Hid (d.data.toList.length ≤ 281474976710656) := by show _ ≤ _; omega
  have c0 : (w.alloc (.cells #[.string ⟨#[]⟩, .int .i64 0, .string ⟨#[]⟩] 108)).cell? ⟨b, 0, none⟩ = some (.string s) := by rw [World.cell?_alloc_past _ _ _ hbl]; exact hcell
  have f0 : (w.alloc (.cells #[.string ⟨#[]⟩, .int .i64 0, .string ⟨#[]⟩] 108)).frozen? ⟨b, 0, none⟩ = false := by
    rw [World.frozen?_of_block (w := w) (Below.heap_alloc w _ b hbl)]; exact hf
  have C0 : Hid _ := c0
  have F0 : Hid _ := f0
  have hne : ¬ w.heap.size = b := by omega
  have hne' : ¬ b = w.heap.size := by omega
  have G0 : Hid (w.grownBy (w.alloc (.cells #[.string ⟨#[]⟩, .int .i64 0, .string ⟨#[]⟩] 108)) (some b)) := World.grownBy_alloc w _ _
  have X0 : Hid _ := heap_alloc_new w (.cells #[.string ⟨#[]⟩, .int .i64 0, .string ⟨#[]⟩] 108)
  clear h h' hta htd c0 f0 hf hcell
  go_enter Tryz.func200, Tryz.ntmps200
  go_wp2_with fail
  refine (rd_text b s _ a.data.toList _ hs HA.out HS.out C0.out F0.out).mono ?_
  rintro e w1 ⟨rfl, ⟨s1, hs1, hz1, hc1⟩, hf1, hg1⟩
  have x1 := (hg1.block w.heap.size (by simp) (by simpa using hne)).trans X0.out
  have G1 : Hid (w.grownBy w1 (some b)) := grownBy_trans G0.out hg1
  have X1 : Hid _ := x1
  have S1 : Hid _ := hs1
  have C1 : Hid _ := hc1
  have F1 : Hid _ := hf1
  clear hs1 hc1 hf1 hg1 x1
  go_wp2_with fail
  refine (rd_number2 b s1 w1 k _ hz1 hk S1.out C1.out F1.out).mono ?_
  rintro e w2 ⟨rfl, ⟨s2, hs2, hz2, hc2⟩, hf2, hg2⟩
  have x2 := (hg2.block w.heap.size (by have h := Array.getElem?_eq_some_iff.1 X1.out; exact h.1) (by simpa using hne)).trans X1.out
  have G2 : Hid (w.grownBy w2 (some b)) := grownBy_trans G1.out hg2
  have X2 : Hid _ := x2
  have S2 : Hid _ := hs2
  have C2 : Hid _ := hc2
  have F2 : Hid _ := hf2
  clear hs2 hc2 hf2 hg2 x2
  go_wp2_with fail
  refine (rd_text b s2 w2 d.data.toList r hz2 HD.out S2.out C2.out F2.out).mono ?_
  rintro e w3 ⟨rfl, ⟨s3, hs3, hz3, hc3⟩, hf3, hg3⟩
  have x3 := (hg3.block w.heap.size (by have h := Array.getElem?_eq_some_iff.1 X2.out; exact h.1) (by simpa using hne)).trans X2.out
  have G3 : Hid (w.grownBy w3 (some b)) := grownBy_trans G2.out hg3
  have q0 : w3.cell? ⟨w.heap.size, 0, none⟩ = some (.string ⟨#[]⟩) := by rw [Lib.cell_of_heap x3]; rfl
  have q1 : w3.cell? ⟨w.heap.size, 1, none⟩ = some (.int .i64 0) := by rw [Lib.cell_of_heap x3]; rfl
  have q2 : w3.cell? ⟨w.heap.size, 2, none⟩ = some (.string ⟨#[]⟩) := by rw [Lib.cell_of_heap x3]; rfl
  have r0 : w3.frozen? ⟨w.heap.size, 0, none⟩ = false := Lib.frozen_of_heap x3 0
  have r1 : w3.frozen? ⟨w.heap.size, 1, none⟩ = false := Lib.frozen_of_heap x3 1
  have r2 : w3.frozen? ⟨w.heap.size, 2, none⟩ = false := Lib.frozen_of_heap x3 2
  have B4 : Hid (∀ v0 v1 v2 : Value, Below w.heap.size w3 (((w3.setCell ⟨w.heap.size, 0, none⟩ v0).setCell ⟨w.heap.size, 1, none⟩ v1).setCell ⟨w.heap.size, 2, none⟩ v2)) := fun v0 v1 v2 =>
    (((Below.refl _ _).setCell (p := ⟨w.heap.size, 0, none⟩) (Nat.le_refl _) _).setCell (p := ⟨w.heap.size, 1, none⟩) (Nat.le_refl _) _).setCell (p := ⟨w.heap.size, 2, none⟩) (Nat.le_refl _) _
  have S3 : Hid _ := hs3
  have C3 : Hid _ := hc3
  have F3 : Hid _ := hf3
  clear hg3 x3 hs3 hc3 hf3
  go_wp2
  refine bodyPost_ret (v := .agg #[.string a, .int .i64 k, .string d]) (by simp [results, Tryz.results200, go_sem, q0, q1, q2]) rfl ⟨rfl, ⟨s3, S3.out, hz3, ?_⟩, ?_, ?_⟩
  · exact ((B4.out _ _ _).cell (p := ⟨b, 0, none⟩) hbl).trans C3.out
  · exact ((B4.out _ _ _).frozen (p := ⟨b, 0, none⟩) hbl).trans F3.out
  · have b4 := B4.out (.string ⟨a.data⟩) (.int .i64 k) (.string ⟨d.data⟩)
    have g3 := G3.out
    exact ⟨b4.os.trans g3.os, b4.tape.trans g3.tape, b4.output.trans g3.output, Nat.le_trans g3.size b4.size, fun k hk hr => (b4.block k hk).trans (g3.block k hk hr)⟩

def ndCells (l : List Nd) : List Value := l.flatMap fun n => [.string n.1, .int .i64 n.2.1, .string n.2.2]
/-- Each node can be read, whether or not it may be packed. -/
def okW (n : Nd) : Prop := n.1.size ≤ 281474976710656 ∧ 0 ≤ n.2.1 ∧ n.2.1 ≤ 9007199254740991 ∧ n.2.2.size ≤ 281474976710656
theorem okD.w {n : Nd} (h : okD n) : okW n := by
  obtain ⟨h1, h2, h3, h4⟩ := h
  exact ⟨by omega, h2, by omega, by omega⟩
theorem infD : (Tryz.prog.info? 108).map (fun i => (i.zero, i.size, i.bytes)) = some (some (.agg #[.string ⟨#[]⟩, .int .i64 0, .string ⟨#[]⟩]), 3, 40) := by kernel_rfl

set_option maxHeartbeats 2000000 in
set_option maxRecDepth 100000 in
theorem rd_dlist (b : Nat) (s : ByteArray) (w : World) (l : List Nd) (r : List UInt8) (hs : s.size ≤ maxLen) (hl : l.length ≤ 60) (ht : ∀ t ∈ l, okW t) (h : s.data.toList = pk l.length ++ (pkDD l ++ r))
    (hc : w.cell? ⟨b, 0, none⟩ = some (.string s)) (hf : w.frozen? ⟨b, 0, none⟩ = false) :
    Calls Tryz.prog 199 #[.pointer (some ⟨b, 0, none⟩), .int .i64 60, .func (.func 200) #[] #[]] w fun e w' => ∃ v, e = .returned v ∧ w'.ownsRow w.heap.size 108 3 v l.length (ndCells l) ∧ (∃ s' : ByteArray, s'.data.toList = r ∧ s'.size ≤ maxLen ∧ w'.cell? ⟨b, 0, none⟩ = some (.string s')) ∧ w'.frozen? ⟨b, 0, none⟩ = false ∧ w.grownBy w' (some b) := by
  obtain ⟨i0, hi, hz0, hz1, hz2⟩ := info_parts infD
  have hbl : b < w.heap.size := World.block_lt_of_cell? w ⟨b, 0, none⟩ hc
  go_enter Tryz.func199, Tryz.ntmps199
  go_wp2_with fail
  refine (rd_number b s _ l.length (pkDD l ++ r) hs (by omega) h hc hf).mono ?_
  rintro e w1 ⟨rfl, s1, h1, hs1, rfl⟩
  have hle : (l.length : Int) ≤ 60 := by omega
  have H1 : Hid _ := h1
  have HC : Hid _ := hc
  have HT : Hid _ := ht
  clear h h1 hs hc ht
  go_wp2_with (at_make; refine wpList_make_own _ rfl _ _ 102 rfl w.heap.size 108 i0 (.agg #[.string ⟨#[]⟩, .int .i64 0, .string ⟨#[]⟩]) 3 Tryz.underlying102 hi hz0 hz1 _ _ _ l.length rfl rfl ?m1 ?m2 ?m3 ?m4 ?_)
  case m1 => rfl
  case m2 => rw [hz2]; omega
  case m3 => unfold maxLen; omega
  case m4 => simp
  intro w2 hown hg2
  have hc2 : w2.cell? ⟨b, 0, none⟩ = some (.string s1) := hg2.cell (World.cell?_setCell_same' _ _ _ (by rw [HC.out]; rfl)) (by simp)
  have hf2 : w2.frozen? ⟨b, 0, none⟩ = false := by
    rw [World.frozen?_of_block (w := w.setCell ⟨b, 0, none⟩ (.string s1)) (hg2.block b (by simp; exact hbl) (by simp))]
    simpa using hf
  have hgr : w.grownBy w2 (some b) := grownBy_trans (grownBy_set w b 0 _) ⟨hg2.os, hg2.tape, hg2.output, hg2.size, fun k hk _ => hg2.block k hk (by simp)⟩
  clear hg2 hf
  go_wp2
  go_loopw [8, 18] (fun v i wr => ∃ k : Nat, k ≤ l.length ∧ i = .int .i64 k ∧ wr.ownsRow w.heap.size 108 3 v k (ndCells (l.take k)) ∧ (∃ s' : ByteArray, s'.data.toList = pkDD (l.drop k) ++ r ∧ s'.size ≤ maxLen ∧ wr.cell? ⟨b, 0, none⟩ = some (.string s')) ∧ wr.frozen? ⟨b, 0, none⟩ = false ∧ w.grownBy wr (some b)) (fun _ i _ => l.length - (intOf i).toNat)
  case atStart => exact ⟨0, Nat.zero_le _, rfl, by simpa [ndCells] using hown, ⟨s1, by simpa using H1.out, hs1, hc2⟩, hf2, hgr⟩
  case round =>
    obtain ⟨k, hk, rfl, hok, ⟨s2, h2, hs2, hck⟩, hfk, hgk⟩ := hrel
    clear hown hc2 hf2 hgr
    have H2 : Hid _ := h2
    have hsz := hgk.size
    clear h2
    by_cases hlt : k < l.length
    · obtain ⟨t, ht⟩ : ∃ t, l[k]? = some t := ⟨l[k], List.getElem?_eq_getElem hlt⟩
      have HD : Hid (l.drop k = t :: l.drop (k + 1)) := by
        obtain ⟨h', rfl⟩ := List.getElem?_eq_some_iff.1 ht
        exact List.drop_eq_getElem_cons h'
      have HK : Hid (l.take (k + 1) = l.take k ++ [t]) := by
        obtain ⟨h', rfl⟩ := List.getElem?_eq_some_iff.1 ht
        exact List.take_succ_eq_append_getElem h'
      obtain ⟨ta, tk, td⟩ := t
      obtain ⟨o1, o2, o3, o4⟩ := HT.out _ (List.mem_of_getElem? ht)
      simp only at o1 o2 o3 o4
      obtain ⟨tn, rfl⟩ : ∃ n : Nat, tk = n := ⟨tk.toNat, by omega⟩
      have OO : Hid (tn ≤ 9007199254740991 ∧ ta.size ≤ 281474976710656 ∧ td.size ≤ 281474976710656) := ⟨by omega, by omega, by omega⟩
      clear ht o1 o2 o3 o4
      go_wp2_with fail
      refine (rd_node b tn s2 ta td _ (pkDD (l.drop (k + 1)) ++ r) hs2 OO.out.1 OO.out.2.1 OO.out.2.2 (by rw [H2.out, HD.out]; simp [pkDD]) hck hfk).mono ?_
      rintro e w3 ⟨rfl, ⟨s3, h3, hs3, hc3⟩, hf3, hg3⟩
      have hok3 := hok.kept hg3 (Or.inr (fun e => by have := hok.lt b e; omega))
      have HG3 : Hid _ := grownBy_trans hgk hg3
      have H3 : Hid _ := h3
      have hsz3 := hg3.size
      clear hok hg3 h3 hck hfk hgk
      go_wp2_with (at_builtin; refine wpList_append_own _ rfl _ _ 102 rfl w.heap.size 108 i0 (.agg #[.string ⟨#[]⟩, .int .i64 0, .string ⟨#[]⟩]) 3 40 Tryz.underlying102 hi hz0 hz1 hz2 rfl (by decide) _ _ _ rfl (hok3.alloc _) ⟨w3.heap.size, 0, none⟩ 1 1 [.string ta, .int .i64 tn, .string td] rfl rfl ?c1 ?c2 ?c3 ?c4 ?c5 ?_)
      case c1 =>
        intro j u hj
        match j, hj with
        | 0, hj => simp at hj; subst hj; simp [Addr.add]
        | 1, hj => simp at hj; subst hj; simp [Addr.add]
        | 2, hj => simp at hj; subst hj; simp [Addr.add]
      case c2 => intro u hu; simp at hu; rcases hu with rfl | rfl | rfl <;> rfl
      case c3 => unfold maxLen; omega
      case c4 => omega
      case c5 => simp; omega
      intro v' w4 hown4 hg4 _
      have hrow : ∀ j, u8.ownBlock = some j → w.heap.size ≤ j := fun j hj => (hok3.lt j hj).1
      have hnb : some b ≠ u8.ownBlock := fun e => by have := hrow b e.symm; omega
      have hlt3 : b < w3.heap.size := by omega
      have hc4 : w4.cell? ⟨b, 0, none⟩ = some (.string s3) := by
        rw [World.cell?_of_block (w := w3) ((hg4.block b (by simp; omega) hnb).trans (Below.heap_alloc w3 _ b hlt3))]
        exact hc3
      have hf4 : w4.frozen? ⟨b, 0, none⟩ = false := by
        rw [World.frozen?_of_block (w := w3) ((hg4.block b (by simp; omega) hnb).trans (Below.heap_alloc w3 _ b hlt3))]
        exact hf3
      have HG4 : Hid (w.grownBy w4 (some b)) := by
        have g1 := HG3.out
        have hs4 := hg4.size
        refine ⟨hg4.os.trans g1.os, hg4.tape.trans g1.tape, hg4.output.trans g1.output, by simp at hs4; omega, fun j hj hr => ?_⟩
        rw [hg4.block j (by simp; omega) (fun e => by have := hrow j e.symm; omega), Below.heap_alloc w3 _ j (by omega)]
        exact g1.block j hj hr
      have HO : Hid _ := hown4
      clear hown4 hg4 hok3 hrow hnb hc3 hf3
      go_wp2
      refine ⟨⟨k + 1, by omega, by go_num, ?_, ⟨s3, H3.out, hs3, hc4⟩, hf4, HG4.out⟩, by simp [intOf]; omega⟩
      rw [HK.out, show ndCells (l.take k ++ [(ta, (tn : Int), td)]) = ndCells (l.take k) ++ [.string ta, .int .i64 tn, .string td] from by simp [ndCells]]
      exact HO.out
    · obtain rfl : k = l.length := by omega
      go_wp2
      go_ret
      refine ⟨_, rfl, by simpa using hok, ⟨s2, by simpa [pkDD] using H2.out, hs2, hck⟩, hfk, hgk⟩

set_option maxHeartbeats 1000000 in
theorem rd_nodes (b : Nat) (s : ByteArray) (w : World) (l : List Nd) (r : List UInt8) (hs : s.size ≤ maxLen) (hl : l.length ≤ 60) (ht : ∀ t ∈ l, okW t) (h : s.data.toList = pk l.length ++ (pkDD l ++ r))
    (hc : w.cell? ⟨b, 0, none⟩ = some (.string s)) (hf : w.frozen? ⟨b, 0, none⟩ = false) :
    Calls Tryz.prog 182 #[.pointer (some ⟨b, 0, none⟩)] w fun e w' => ∃ v, e = .returned v ∧ w'.ownsRow w.heap.size 108 3 v l.length (ndCells l) ∧ (∃ s' : ByteArray, s'.data.toList = r ∧ s'.size ≤ maxLen ∧ w'.cell? ⟨b, 0, none⟩ = some (.string s')) ∧ w'.frozen? ⟨b, 0, none⟩ = false ∧ w.grownBy w' (some b) := by
  have H : Hid _ := h
  have HT : Hid _ := ht
  clear h ht
  go_enter Tryz.func182, Tryz.ntmps182
  go_wp2_with fail
  refine (rd_dlist b s w l r hs hl HT.out H.out hc hf).mono ?_
  rintro e w1 ⟨v, rfl, h1, h2, h3, h4⟩
  go_wp2
  go_ret
  exact ⟨v, rfl, h1, h2, h3, h4⟩

theorem catch_idle_d (p q : Addr) (w : World) :
    CallsD Tryz.prog 198 #[.pointer (some p), .pointer (some q)] .returning w fun e u' w' => e = .returned (.tuple #[]) ∧ u' = .returning ∧ w' = w := by
  refine callsD_of_wpS Tryz.func198 rfl fun c₀ cs hu => ?_
  apply wpS_seq
  apply wpS_region
  simp [wpOpsS, go_sem, recoverD, hu, Tryz.ntmps198, Exit.thenS]
  refine wpS_cond (t := false) (by simp [Act.eval, Array.replicate]) ?_
  simp only [Bool.false_eq_true, if_false]
  refine wpS_of_wp (wp_skip ?_)
  cases c₀
  simp_all [bodyPostS, results, Tryz.results198]

theorem ndCells_get (l : List Nd) (j : Nat) (hj : j < l.length) : (ndCells l)[j * 3]? = some (.string l[j].1) ∧ (ndCells l)[j * 3 + 1]? = some (.int .i64 l[j].2.1) ∧ (ndCells l)[j * 3 + 2]? = some (.string l[j].2.2) := by
  induction l generalizing j with
  | nil => simp at hj
  | cons n l ih =>
    have e : ndCells (n :: l) = .string n.1 :: .int .i64 n.2.1 :: .string n.2.2 :: ndCells l := by simp [ndCells]
    cases j with
    | zero => rw [e]; exact ⟨rfl, rfl, rfl⟩
    | succ j =>
      have h := ih j (by simpa using hj)
      rw [e, show (j + 1) * 3 = j * 3 + 3 by omega]
      exact ⟨by simpa using h.1, by simpa using h.2.1, by simpa using h.2.2⟩

theorem own_nodes {w : World} {base : Nat} {v : Value} {l : List Nd} (h : w.ownsRow base 108 3 v l.length (ndCells l)) (hl : l.length ≤ 60) (hm : ∀ n ∈ l, okW n) : IsNodes w v l := by
  refine ⟨by omega, fun n hn => ?_, ?_⟩
  · obtain ⟨o1, _, _, o4⟩ := hm n hn
    unfold maxLen
    omega
  have hcells := fun (g : Nat) (hg : v.ownBlock = some g) => h.cells hg
  rcases h.2 with ⟨h1, h2⟩ | ⟨g, cap, cur, hv, _, hh, _⟩
  · exact ⟨none, 0, by rw [h1, h2], Or.inl (List.length_eq_zero_iff.1 h2)⟩
  · refine ⟨some ⟨g, 0, none⟩, cap, hv, Or.inr ⟨g, 0, rfl, (Array.getElem?_eq_some_iff.1 hh).1, fun j hj => ?_⟩⟩
    have k := ndCells_get l j hj
    have c0 := hcells g (by rw [hv]; rfl) _ _ k.1
    have c1 := hcells g (by rw [hv]; rfl) _ _ k.2.1
    have c2 := hcells g (by rw [hv]; rfl) _ _ k.2.2
    rw [addr_add] at c0 c1 c2
    exact ⟨c0, c1, c2⟩

set_option maxHeartbeats 4000000 in
set_option maxRecDepth 100000 in
theorem whole_nodes (s : ByteArray) (w : World) (l : List Nd) (hs : s.size ≤ maxLen) (hok : neC l = 0) (h : s.data.toList = pk l.length ++ (pkDD l ++ [])) :
    Calls Tryz.prog 181 #[.string s, .func (.func 182) #[] #[], .func (.func 109) #[] #[]] w fun e w' => ∃ v, e = .returned (.tuple #[v, .int .i64 0]) ∧ w'.ownsRow w.heap.size 108 3 v l.length (ndCells l) ∧ Below w.heap.size w w' := by
  have hmf : ∀ (fn : Fn) (first cap : Array Value) (w : World), (Instr.makeFunc fn first cap).run Tryz.prog w = .ok (.func fn first cap) w := fun _ _ _ _ => rfl
  have H : Hid _ := h
  have HK : Hid _ := hok
  have HD : Hid _ := (neC_ok hok).1
  clear h hok
  go_enter_defers Tryz.func181, Tryz.ntmps181
  go_wp2_with fail
  refine (rd_nodes (w.heap.size + 1 + 1) s _ l [] hs HD.out.1 (fun n hn => (HD.out.2 n hn).w) H.out (by simp [go_sem]) (by simp [go_sem])).mono ?_
  rintro e w1 ⟨v, rfl, hown, ⟨s1, hs1, _, hc1⟩, hf1, hg1⟩
  obtain rfl : s1 = ⟨#[]⟩ := bytes_eq hs1
  have hcv : w1.cell? ⟨w.heap.size, 0, none⟩ = some (.slice none 0 0) := hg1.cell (by simp [go_sem]) (by simp; omega)
  have hce : w1.cell? ⟨w.heap.size + 1, 0, none⟩ = some (.int .i64 0) := hg1.cell (by simp [go_sem]) (by simp)
  have hfv : w1.frozen? ⟨w.heap.size, 0, none⟩ = false := by
    rw [World.frozen?_of_block (hg1.block w.heap.size (by simp; omega) (by simp; omega))]; simp [go_sem]
  have hfe : w1.frozen? ⟨w.heap.size + 1, 0, none⟩ = false := by
    rw [World.frozen?_of_block (hg1.block (w.heap.size + 1) (by simp) (by simp))]; simp [go_sem]
  have hsz1 : w.heap.size + 1 + 1 < w1.heap.size := by have := hg1.size; simp at this; omega
  obtain ⟨a, cap, rfl⟩ := own_shape hown
  have hown' : w1.ownsRow (w.heap.size + 1 + 1 + 1) 108 3 (.slice a l.length cap) l.length (ndCells l) := by simpa using hown
  have HO : Hid (∀ u1 : Value, ((w1.setCell ⟨w.heap.size, 0, none⟩ u1).ownsRow (w.heap.size + 1 + 1 + 1) 108 3 (.slice a l.length cap) l.length (ndCells l))) := fun u1 => ownsRow_setCell_below hown' (a := ⟨w.heap.size, 0, none⟩) (by show w.heap.size < _; omega) u1
  have HB : Hid (Below w.heap.size w w1) := ((((Below.refl _ _).alloc (Nat.le_refl _) _).alloc (by simp) _).alloc (by simp; omega) _).grown hg1 (by simp; omega) (by intro k hk; cases hk; omega)
  clear hown hown' hg1 hs1 hf1 H
  go_wp2_with fail
  refine (ne_any _ l _ (own_nodes (HO.out _) HD.out.1 fun n hn => (HD.out.2 n hn).w)).mono ?_
  rintro e w2 ⟨rfl, hb2⟩
  rw [HK.out]
  have s0 : w2.cell? ⟨w.heap.size, 0, none⟩ = some (.slice a l.length cap) := (hb2.cell (p := ⟨w.heap.size, 0, none⟩) (by simp; omega)).trans (by simp [go_sem, hcv])
  have s1 : w2.cell? ⟨w.heap.size + 1, 0, none⟩ = some (.int .i64 0) := (hb2.cell (p := ⟨w.heap.size + 1, 0, none⟩) (by simp; omega)).trans (by simp [go_sem, hce])
  have t0 : w2.frozen? ⟨w.heap.size, 0, none⟩ = false := (hb2.frozen (p := ⟨w.heap.size, 0, none⟩) (by simp; omega)).trans (by simp [hfv])
  have t1 : w2.frozen? ⟨w.heap.size + 1, 0, none⟩ = false := (hb2.frozen (p := ⟨w.heap.size + 1, 0, none⟩) (by simp; omega)).trans (by simp [hfe])
  have o2 : w2.ownsRow (w.heap.size + 1 + 1 + 1) 108 3 (.slice a l.length cap) l.length (ndCells l) := (HO.out _).kept (grownBy_below (row := none) hb2) (by cases a with | none => exact Or.inl rfl | some x => exact Or.inr (by simp [Value.ownBlock]))
  have HO2 : Hid (∀ u2 u3 : Value, ((w2.setCell ⟨w.heap.size, 0, none⟩ u2).setCell ⟨w.heap.size + 1, 0, none⟩ u3).ownsRow w.heap.size 108 3 (.slice a l.length cap) l.length (ndCells l)) := fun u2 u3 =>
    own_mono (ownsRow_setCell_below (ownsRow_setCell_below o2 (a := ⟨w.heap.size, 0, none⟩) (by show w.heap.size < _; omega) u2) (a := ⟨w.heap.size + 1, 0, none⟩) (by show w.heap.size + 1 < _; omega) u3) (by omega)
  have HB2 : Hid (Below w.heap.size w w2) := (HB.out.setCell (p := ⟨w.heap.size, 0, none⟩) (Nat.le_refl _) _).trans (hb2.mono (by simp; omega))
  clear hb2 o2
  go_wp2
  refine leaves_cons (f := 198) (args := #[.pointer (some ⟨w.heap.size, 0, none⟩), .pointer (some ⟨w.heap.size + 1, 0, none⟩)]) (by simp) (by simp [go_sem]) ?_
  refine (catch_idle_d ⟨w.heap.size, 0, none⟩ ⟨w.heap.size + 1, 0, none⟩ _).mono ?_
  rintro e u' w'' ⟨rfl, rfl, rfl⟩
  have q0 : ((w2.setCell ⟨w.heap.size, 0, none⟩ (.slice a l.length cap))).cell? ⟨w.heap.size, 0, none⟩ = some (.slice a l.length cap) :=
    World.cell?_setCell_same' _ _ _ (by rw [s0]; rfl)
  have q1 : ((w2.setCell ⟨w.heap.size, 0, none⟩ (.slice a l.length cap)).setCell ⟨w.heap.size + 1, 0, none⟩ (.int .i64 0)).cell? ⟨w.heap.size + 1, 0, none⟩ = some (.int .i64 0) :=
    World.cell?_setCell_same' _ _ _ (by simp [go_sem, s1])
  simp [Leaves, settle, results, Tryz.results181, go_sem, q0, q1]
  exact ⟨HO2.out _ _, (HB2.out.setCell (p := ⟨w.heap.size, 0, none⟩) (Nat.le_refl _) _).setCell (p := ⟨w.heap.size + 1, 0, none⟩) (Nat.le_succ _) _⟩

set_option maxHeartbeats 1000000 in
theorem ReadNodes_pk (s : ByteArray) (w : World) (l : List Nd) (hs : s.size ≤ maxLen) (hok : neC l = 0) (h : s.data.toList = pk l.length ++ pkDD l) :
    Calls Tryz.prog 140 #[.string s] w fun e w' => ∃ v, e = .returned (.tuple #[v, .int .i64 0]) ∧ w'.ownsRow w.heap.size 108 3 v l.length (ndCells l) ∧ Below w.heap.size w w' := by
  have H : Hid (s.data.toList = pk l.length ++ (pkDD l ++ [])) := by show _ = _; rw [h]; simp
  have HK : Hid _ := hok
  clear h hok
  go_enter Tryz.func140, Tryz.ntmps140
  go_wp2_with fail
  refine (whole_nodes s w l hs HK.out H.out).mono ?_
  rintro e w1 ⟨v, rfl, h1, h2⟩
  go_wp2
  go_ret2
  exact ⟨v, rfl, h1, h2⟩
end Go.Proofs.YtcdgdmhlbgbklaaGreatDoor

/- A directory in memory while it is packed. -/
namespace Go.Proofs.YtcdgdmhlbgbklaaGreatDoor
open Go.RowKit Go.Shelf Go.Maps Go.WideMaps Go.Sort

theorem row_heap {w w' : World} {base : Nat} {e : TypeId} {size : Nat} {v : Value} {n : Nat} {xs : List Value} (h : w.ownsRow base e size v n xs) (hh : ∀ x, v.ownBlock = some x → w'.heap[x]? = w.heap[x]?) : w'.ownsRow base e size v n xs := by
  refine ⟨h.1, ?_⟩
  rcases h.2 with h2 | ⟨g, cap, cur, hv, hb, hg, r⟩
  · exact .inl h2
  · exact .inr ⟨g, cap, cur, hv, hb, (hh g (by rw [hv]; rfl)).trans hg, r⟩

def flCells (L : List Fl) : List Value := L.flatMap fun f => [.string f.pa, .string f.tx, .bool f.rn]
theorem flCells_get (L : List Fl) (j : Nat) (hj : j < L.length) : (flCells L)[j * 3]? = some (.string L[j].pa) ∧ (flCells L)[j * 3 + 1]? = some (.string L[j].tx) ∧ (flCells L)[j * 3 + 2]? = some (.bool L[j].rn) := by
  induction L generalizing j with
  | nil => simp at hj
  | cons f l ih =>
    have e : flCells (f :: l) = [.string f.pa, .string f.tx, .bool f.rn] ++ flCells l := rfl
    cases j with
    | zero => rw [e]; exact ⟨rfl, rfl, rfl⟩
    | succ j =>
      have h := ih j (by simpa using hj)
      rw [e, show (j + 1) * 3 = j * 3 + 3 by omega]
      exact ⟨by simpa using h.1, by simpa using h.2.1, by simpa using h.2.2⟩
theorem own_files {w : World} {base : Nat} {ao : Option Addr} {n cap : Nat} {L : List Fl} (h : w.ownsRow base 48 3 (.slice ao n cap) n (flCells L)) (hn : n = L.length) : IsFl w ao L := by
  have hcells := fun (g : Nat) (hg : (Value.slice ao n cap).ownBlock = some g) => h.cells hg
  rcases h.2 with ⟨h1, h2⟩ | ⟨g, cap, cur, hv, _, hh, _⟩
  · exact .inl (List.length_eq_zero_iff.1 (by omega))
  · injection hv with hv _ _
    subst hv
    refine .inr ⟨g, 0, rfl, (Array.getElem?_eq_some_iff.1 hh).1, fun j hj => ?_⟩
    have k := flCells_get L j hj
    have c0 := hcells g rfl _ _ k.1
    have c1 := hcells g rfl _ _ k.2.1
    have c2 := hcells g rfl _ _ k.2.2
    rw [addr_add] at c0 c1 c2
    exact ⟨c0, c1, c2⟩

/-- How a slice in a map reads: by where it lies. -/
def slcE (v : Value) : Option (DataW Unit × List MemPlace) := match v with
  | .slice none 0 0 => some (.nil, [])
  | .slice (some ⟨g, 0, none⟩) n c => some (.agg [.lit (.int .i64 (g : Int)), .lit (.int .i64 (n : Int)), .lit (.int .i64 (c : Int))], [])
  | _ => none
def slcD (g n c : Nat) : DataW Unit := .agg [.lit (.int .i64 (g : Int)), .lit (.int .i64 (n : Int)), .lit (.int .i64 (c : Int))]
theorem slcE_mk (g n c : Nat) : slcE (.slice (some ⟨g, 0, none⟩) n c) = some (slcD g n c, []) := rfl
theorem slcE_nil {v : Value} {ps : List MemPlace} (h : slcE v = some (.nil, ps)) : v = .slice none 0 0 := by
  unfold slcE at h
  split at h
  · rfl
  · injection h with h; injection h with h _; cases h
  · cases h
theorem slcE_inv {v : Value} {g n c : Nat} {ps : List MemPlace} (h : slcE v = some (slcD g n c, ps)) : v = .slice (some ⟨g, 0, none⟩) n c := by
  unfold slcE at h
  split at h
  · injection h with h; injection h with h _; cases h
  · rename_i g' n' c'
    injection h with h
    injection h with h _
    unfold slcD at h
    injection h with h
    injection h with h1 h
    injection h with h2 h
    injection h with h3 _
    injection h1 with h1; injection h1 with _ h1
    injection h2 with h2; injection h2 with _ h2
    injection h3 with h3; injection h3 with _ h3
    rw [show g' = g by omega, show n' = n by omega, show c' = c by omega]
  · cases h
theorem zeroS (w : World) : (zeroValue 23).run Tryz.prog w = .ok (.slice none 0 0) w := by kernel_rfl

/-- A map whose keys are texts, none twice. -/
def StrD (D : DataW Unit) : Prop := ∃ es, D = .map es ∧ (∀ p ∈ es, ∃ s, p.1 = Lit.string s) ∧ es.Pairwise (fun p q => p.1 ≠ q.1)
theorem ins_mem (x p : Lit × DataW Unit) : ∀ l : List (Lit × DataW Unit), p ∈ DataW.insert x l ↔ p = x ∨ p ∈ l
  | [] => by simp [DataW.insert]
  | y :: r => by
    show p ∈ (if x.1.before y.1 then x :: y :: r else y :: DataW.insert x r) ↔ _
    split
    · simp
    · rw [List.mem_cons, ins_mem x p r, List.mem_cons]
      constructor
      · rintro (h | h | h)
        · exact .inr (.inl h)
        · exact .inl h
        · exact .inr (.inr h)
      · rintro (h | h | h)
        · exact .inr (.inl h)
        · exact .inl h
        · exact .inr (.inr h)
theorem StrD.put {D : DataW Unit} (h : StrD D) (n : List UInt8) (d : DataW Unit) : StrD (D.put (.string n) d) := by
  obtain ⟨es, rfl, h1, h2⟩ := h
  have ht : Tidy (DataW.map es) := ⟨es, rfl, h2⟩
  obtain ⟨fs, e, h3⟩ := ht.put (k := .string n) (by exact trivial) d
  refine ⟨fs, e, fun p hp => ?_, h3⟩
  have e2 : (DataW.map es).put (.string n) d = .map (DataW.insert (.string n, d) (es.filter fun p => !p.1.sameKey (.string n))) := rfl
  rw [e2] at e
  injection e with e
  rw [← e] at hp
  rcases (ins_mem _ _ _).1 hp with rfl | hp
  · exact ⟨n, rfl⟩
  · exact h1 p (List.mem_filter.1 hp).1
theorem StrD.tidy {D : DataW Unit} (h : StrD D) : Tidy D := let ⟨es, e, _, h2⟩ := h; ⟨es, e, h2⟩
theorem StrD.keys {D : DataW Unit} (h : StrD D) : (strKeys D).Nodup ∧ ∀ n, n ∈ strKeys D ↔ Maps.has D (.string n) = true := by
  obtain ⟨es, rfl, h1, h2⟩ := h
  have hk : strKeys (DataW.map es) = es.map fun p => strOf p.1 := rfl
  rw [hk]
  constructor
  · refine List.pairwise_map.2 (List.Pairwise.imp_of_mem (fun {p q} hp hq hne e => ?_) h2)
    obtain ⟨s, hs⟩ := h1 p hp
    obtain ⟨t, ht⟩ := h1 q hq
    rw [hs, ht] at e
    exact hne (by rw [hs, ht, show s = t from e])
  · intro n
    rw [has_eq, List.any_eq_true, List.mem_map]
    constructor
    · rintro ⟨p, hp, rfl⟩
      obtain ⟨s, hs⟩ := h1 p hp
      refine ⟨p, hp, ?_⟩
      rw [hs]
      show (Lit.string s).sameKey (Lit.string s) = true
      simp [Lit.sameKey]
    · rintro ⟨p, hp, h⟩
      obtain ⟨s, hs⟩ := h1 p hp
      refine ⟨p, hp, ?_⟩
      rw [hs] at h ⊢
      rcases Decidable.em (s = n) with e | e
      · exact e
      · rw [sameKey_ne (fun h => e (by injection h))] at h
        cases h
theorem sorted_keys {L : List Fl} {D : DataW Unit} (h : StrD D) (hh : ∀ n, Maps.has D (.string n) = true ↔ n ∈ names L) {ss : List (List UInt8)} (hp : ss.Perm (strKeys D)) : ss.mergeSort (fun x y => decide (x ≤ y)) = names L := by
  obtain ⟨h1, h2⟩ := h.keys
  have hpn : (strKeys D).Perm (names L) := (List.perm_ext_iff_of_nodup h1 (names_nodup L)).2 fun n => (h2 n).trans (hh n)
  refine List.Perm.eq_of_pairwise (le := fun a b => decide (a ≤ b) = true) (fun a b _ _ h3 h4 => ?_) (List.pairwise_mergeSort (fun a b c h3 h4 => ?_) (fun a b => ?_) ss) ((names_up L).imp fun h => by rw [decide_eq_true_eq]; exact List.le_of_lt h) ((List.mergeSort_perm ss _).trans (hp.trans hpn))
  · rw [decide_eq_true_eq] at h3 h4; exact List.le_antisymm h3 h4
  · rw [decide_eq_true_eq] at *; exact List.le_trans h3 h4
  · rw [Bool.or_eq_true, decide_eq_true_eq, decide_eq_true_eq]; exact List.le_total _ _

/-- A directory while it is packed: nodes and texts that are there, the map of directories. -/
structure DS (B M : Nat) (D : DataW Unit) (g c : List UInt8 → Nat) (L : List Fl) (ns : List Nd) (bs : List ByteArray) (nv bv : Value) (w : World) : Prop where
  nodes : w.ownsRow B 108 3 nv ns.length (ndCells ns)
  blobs : w.ownsRow B 9 1 bv bs.length (bs.map Value.string)
  own : w.ownsMap Tryz.prog 9 slcE M L.length D
  str : StrD D
  has : ∀ n, Maps.has D (.string n) = true ↔ n ∈ names L
  get : ∀ n, n ∈ names L → D.atKey (.string n) .nil = slcD (g n) (sub n L).length (c n)
  rows : ∀ n, n ∈ names L → w.ownsRow B 48 3 (.slice (some ⟨g n, 0, none⟩) (sub n L).length (c n)) (sub n L).length (flCells (sub n L))
  aM : ∀ n, n ∈ names L → g n ≠ M
  aG : ∀ n, n ∈ names L → ∀ m, m ∈ names L → g n = g m → n = m
  vM : nv.ownBlock ≠ some M ∧ bv.ownBlock ≠ some M
  vG : ∀ n, n ∈ names L → nv.ownBlock ≠ some (g n) ∧ bv.ownBlock ≠ some (g n)
  vV : ∀ x, nv.ownBlock = some x → bv.ownBlock ≠ some x
  loM : B ≤ M

section
variable {B M : Nat} {D : DataW Unit} {g c : List UInt8 → Nat} {L : List Fl} {ns : List Nd} {bs : List ByteArray} {nv bv : Value} {w w' : World}

theorem DS.gl (h : DS B M D g c L ns bs nv bv w) {n : List UInt8} (hn : n ∈ names L) : B ≤ g n ∧ g n < w.heap.size := (h.rows n hn).lt (g n) rfl
theorem DS.keep (h : DS B M D g c L ns bs nv bv w) (hk : ∀ b, b < w.heap.size → w'.heap[b]? = w.heap[b]?) : DS B M D g c L ns bs nv bv w' :=
  ⟨row_heap h.nodes fun x hx => hk x (h.nodes.lt x hx).2, row_heap h.blobs fun x hx => hk x (h.blobs.lt x hx).2, ownsMap_heap h.own (hk M h.own.lt), h.str, h.has, h.get, fun n hn => row_heap (h.rows n hn) fun x hx => hk x ((h.rows n hn).lt x hx).2, h.aM, h.aG, h.vM, h.vG, h.vV, h.loM⟩
theorem DS.below (h : DS B M D g c L ns bs nv bv w) (hb : Below w.heap.size w w') : DS B M D g c L ns bs nv bv w' := h.keep hb.block

theorem DS.addN (h : DS B M D g c L ns bs nv bv w) (x : Nd) {G C : Nat} (hrow : w'.ownsRow B 108 3 (.slice (some ⟨G, 0, none⟩) (ns.length + 1) C) (ns.length + 1) (ndCells ns ++ [.string x.1, .int .i64 x.2.1, .string x.2.2])) (hg : w.grownBy w' nv.ownBlock) (hat : nv.ownBlock = some G ∨ w.heap.size ≤ G) :
    DS B M D g c L (ns ++ [x]) bs (.slice (some ⟨G, 0, none⟩) (ns.length + 1) C) bv w' := by
  have hk : ∀ b, b < w.heap.size → nv.ownBlock ≠ some b → w'.heap[b]? = w.heap[b]? := fun b hb hne => hg.block b hb (fun e => hne e.symm)
  have hne : ∀ b, b < w.heap.size → nv.ownBlock ≠ some b → G ≠ b := fun b hb h1 e => by
    rcases hat with h2 | h2
    · exact h1 (by rw [h2, e])
    · omega
  refine ⟨?_, row_heap h.blobs fun b hb => hk b (h.blobs.lt b hb).2 (fun e => h.vV b e hb), ownsMap_heap h.own (hk M h.own.lt h.vM.1), h.str, h.has, h.get, fun n hn => row_heap (h.rows n hn) fun b hb => ?_, h.aM, h.aG, ⟨fun e => hne M h.own.lt h.vM.1 (by injection e), h.vM.2⟩, fun n hn => ⟨fun e => hne _ (h.gl hn).2 (h.vG n hn).1 (by injection e), (h.vG n hn).2⟩, fun b hb e => ?_, h.loM⟩
  · rw [List.length_append]
    have e : ndCells (ns ++ [x]) = ndCells ns ++ [.string x.1, .int .i64 x.2.1, .string x.2.2] := by simp [ndCells]
    rw [e]
    exact hrow
  · have e : g n = b := by injection hb
    subst e
    exact hk _ (h.gl hn).2 (h.vG n hn).1
  · have e2 : G = b := by injection hb
    subst e2
    exact hne _ (h.blobs.lt _ e).2 (fun e3 => h.vV _ e3 e) rfl
theorem DS.addB (h : DS B M D g c L ns bs nv bv w) (xs : List ByteArray) {G C : Nat} (hrow : w'.ownsRow B 9 1 (.slice (some ⟨G, 0, none⟩) (bs.length + xs.length) C) (bs.length + xs.length) (bs.map Value.string ++ xs.map Value.string)) (hg : w.grownBy w' bv.ownBlock) (hat : bv.ownBlock = some G ∨ w.heap.size ≤ G) :
    DS B M D g c L ns (bs ++ xs) nv (.slice (some ⟨G, 0, none⟩) (bs.length + xs.length) C) w' := by
  have hk : ∀ b, b < w.heap.size → bv.ownBlock ≠ some b → w'.heap[b]? = w.heap[b]? := fun b hb hne => hg.block b hb (fun e => hne e.symm)
  have hne : ∀ b, b < w.heap.size → bv.ownBlock ≠ some b → G ≠ b := fun b hb h1 e => by
    rcases hat with h2 | h2
    · exact h1 (by rw [h2, e])
    · omega
  refine ⟨row_heap h.nodes fun b hb => hk b (h.nodes.lt b hb).2 (h.vV b hb), ?_, ownsMap_heap h.own (hk M h.own.lt h.vM.2), h.str, h.has, h.get, fun n hn => row_heap (h.rows n hn) fun b hb => ?_, h.aM, h.aG, ⟨h.vM.1, fun e => hne M h.own.lt h.vM.2 (by injection e)⟩, fun n hn => ⟨(h.vG n hn).1, fun e => hne _ (h.gl hn).2 (h.vG n hn).2 (by injection e)⟩, fun b hb e => ?_, h.loM⟩
  · rw [List.length_append, List.map_append]
    exact hrow
  · have e : g n = b := by injection hb
    subst e
    exact hk _ (h.gl hn).2 (h.vG n hn).2
  · have e2 : G = b := by injection e
    subst e2
    exact hne _ (h.nodes.lt _ hb).2 (h.vV _ hb) rfl

theorem sub_none {n : List UInt8} (h : n ∉ names L) : sub n L = [] := by
  unfold sub
  rw [List.map_eq_nil_iff, List.filter_eq_nil_iff]
  intro f hf h2
  rw [Bool.and_eq_true, decide_eq_true_eq] at h2
  exact h ((names_mem L n).2 ⟨f, hf, h2⟩)

/-- What the map has under a name. -/
theorem DS.look (h : DS B M D g c L ns bs nv bv w) (s : ByteArray) (hs : s.size ≤ maxLen) :
    ∃ ao ca, (∀ W : World, W.heap[M]? = w.heap[M]? → (Instr.lookup 103 (.map (some M)) (.string s) false).run Tryz.prog W = .ok (.slice ao (sub s.data.toList L).length ca) W) ∧ w.ownsRow B 48 3 (.slice ao (sub s.data.toList L).length ca) (sub s.data.toList L).length (flCells (sub s.data.toList L)) ∧ ((s.data.toList ∈ names L ∧ ao = some ⟨g s.data.toList, 0, none⟩ ∧ ca = c s.data.toList) ∨ (s.data.toList ∉ names L ∧ ao = none)) := by
  have each : ∀ W : World, W.heap[M]? = w.heap[M]? → ∃ v ps, (Instr.lookup 103 (.map (some M)) (.string s) false).run Tryz.prog W = .ok v W ∧ slcE v = some (D.atKey (.string s.data.toList) .nil, ps) := fun W hW => by
    obtain ⟨v, ps, h1, h2⟩ := (ownsMap_heap h.own hW).lookup lawS Tryz.underlying103 (zeroS W) (zd := .nil) (zp := []) rfl (keyOf_string_mk Tryz.underlying9 hs)
    exact ⟨v, ps, h1, h2⟩
  by_cases hn : s.data.toList ∈ names L
  · refine ⟨some ⟨g s.data.toList, 0, none⟩, c s.data.toList, fun W hW => ?_, h.rows _ hn, .inl ⟨hn, rfl, rfl⟩⟩
    obtain ⟨v, ps, h1, h2⟩ := each W hW
    rw [h.get _ hn] at h2
    rw [slcE_inv h2] at h1
    exact h1
  · rw [sub_none hn]
    refine ⟨none, 0, fun W hW => ?_, World.ownsRow_nil _ _ _ _, .inr ⟨hn, rfl⟩⟩
    obtain ⟨v, ps, h1, h2⟩ := each W hW
    rw [atKey_of_not_has (by rw [Bool.eq_false_iff]; exact fun e => hn ((h.has _).1 e))] at h2
    rw [slcE_nil h2] at h1
    exact h1
end
end Go.Proofs.YtcdgdmhlbgbklaaGreatDoor

/- A directory in memory while it is packed: a file that lies in a directory of it. -/
namespace Go.Proofs.YtcdgdmhlbgbklaaGreatDoor
open Go.RowKit Go.Shelf Go.Maps Go.WideMaps Go.Sort

theorem names_snoc (L : List Fl) (f : Fl) (m : List UInt8) : m ∈ names (L ++ [f]) ↔ m ∈ names L ∨ (deepF f = true ∧ hdF f = m) := by
  rw [names_mem, names_mem]
  constructor
  · rintro ⟨x, hx, h⟩
    rcases List.mem_append.1 hx with hx | hx
    · exact .inl ⟨x, hx, h⟩
    · rw [List.mem_singleton.1 hx] at h
      exact .inr h
  · rintro (⟨x, hx, h⟩ | h)
    · exact ⟨x, List.mem_append_left _ hx, h⟩
    · exact ⟨f, by simp, h⟩
def upd (g : List UInt8 → Nat) (n : List UInt8) (x : Nat) : List UInt8 → Nat := fun m => if m = n then x else g m
theorem upd_same (g : List UInt8 → Nat) (n : List UInt8) (x : Nat) : upd g n x n = x := if_pos rfl
theorem upd_other (g : List UInt8 → Nat) {n m : List UInt8} (x : Nat) (h : m ≠ n) : upd g n x m = g m := if_neg h

section
variable {B M : Nat} {D : DataW Unit} {g c : List UInt8 → Nat} {L : List Fl} {ns : List Nd} {bs : List ByteArray} {nv bv : Value} {w w1 w2 : World}

theorem DS.top (h : DS B M D g c L ns bs nv bv w) {f : Fl} (hf : deepF f = false) : DS B M D g c (L ++ [f]) ns bs nv bv w := by
  have hm : ∀ n, n ∈ names (L ++ [f]) ↔ n ∈ names L := fun n => by
    rw [names_snoc]
    constructor
    · rintro (h | ⟨h, _⟩)
      · exact h
      · rw [hf] at h; cases h
    · exact .inl
  have hs : ∀ n, sub n (L ++ [f]) = sub n L := fun n => by
    rw [sub_snoc, if_neg]
    rintro ⟨h, _⟩
    rw [hf] at h
    cases h
  refine ⟨h.nodes, h.blobs, h.own.mono (by simp), h.str, fun n => (h.has n).trans (hm n).symm, fun n hn => ?_, fun n hn => ?_, fun n hn => h.aM n ((hm n).1 hn), fun n hn m hm2 => h.aG n ((hm n).1 hn) m ((hm m).1 hm2), h.vM, fun n hn => h.vG n ((hm n).1 hn), h.vV, h.loM⟩
  · rw [hs]; exact h.get n ((hm n).1 hn)
  · rw [hs]; exact h.rows n ((hm n).1 hn)

theorem DS.put (h : DS B M D g c L ns bs nv bv w) {f : Fl} (hf : deepF f = true) {ao : Option Addr} {ca G C : Nat}
    (hl : (hdF f ∈ names L ∧ ao = some ⟨g (hdF f), 0, none⟩ ∧ ca = c (hdF f)) ∨ (hdF f ∉ names L ∧ ao = none))
    (hrow : w1.ownsRow B 48 3 (.slice (some ⟨G, 0, none⟩) ((sub (hdF f) L).length + 1) C) ((sub (hdF f) L).length + 1) (flCells (sub (hdF f) L) ++ [.string (subF f).pa, .string (subF f).tx, .bool (subF f).rn]))
    (hg : w.grownBy w1 (Value.slice ao (sub (hdF f) L).length ca).ownBlock) (hat : (Value.slice ao (sub (hdF f) L).length ca).ownBlock = some G ∨ w.heap.size ≤ G)
    (hown : w2.ownsMap Tryz.prog 9 slcE M (L.length + 1) (D.put (.string (hdF f)) (slcD G ((sub (hdF f) L).length + 1) C))) (hg2 : w1.grownBy w2 (some M)) :
    DS B M (D.put (.string (hdF f)) (slcD G ((sub (hdF f) L).length + 1) C)) (upd g (hdF f) G) (upd c (hdF f) C) (L ++ [f]) ns bs nv bv w2 := by
  have hm : ∀ n, n ∈ names (L ++ [f]) ↔ n ∈ names L ∨ hdF f = n := fun n => by
    rw [names_snoc]
    constructor
    · rintro (h | h)
      · exact .inl h
      · exact .inr h.2
    · rintro (h | h)
      · exact .inl h
      · exact .inr ⟨hf, h⟩
  have hob : ∀ x, (Value.slice ao (sub (hdF f) L).length ca).ownBlock = some x → hdF f ∈ names L ∧ x = g (hdF f) := fun x hx => by
    rcases hl with ⟨h1, h2, _⟩ | ⟨_, h2⟩
    · rw [h2] at hx
      exact ⟨h1, by injection hx with hx; exact hx.symm⟩
    · rw [h2] at hx
      cases hx
  have hk1 : ∀ b, b < w.heap.size → (hdF f ∈ names L → b ≠ g (hdF f)) → w1.heap[b]? = w.heap[b]? := fun b hb hne => hg.block b hb fun e => (hne (hob b e.symm).1) (hob b e.symm).2
  have hk : ∀ b, b < w.heap.size → (hdF f ∈ names L → b ≠ g (hdF f)) → b ≠ M → w2.heap[b]? = w.heap[b]? := fun b hb hne hM => (hg2.block b (Nat.lt_of_lt_of_le hb hg.size) (by simpa using hM)).trans (hk1 b hb hne)
  have hGM : G ≠ M := fun e => by
    rcases hat with h2 | h2
    · exact h.aM _ (hob _ h2).1 ((hob _ h2).2.symm.trans e)
    · have := h.own.lt; omega
  have hGe : ∀ b, b < w.heap.size → (hdF f ∈ names L → b ≠ g (hdF f)) → G ≠ b := fun b hb hne e => by
    rcases hat with h2 | h2
    · exact hne (hob _ h2).1 (e ▸ (hob _ h2).2)
    · omega
  have hdiff : ∀ n, n ∈ names L → n ≠ hdF f → (hdF f ∈ names L → g n ≠ g (hdF f)) := fun n hn hne h1 e => hne (h.aG n hn _ h1 e)
  have hold : ∀ n, n ∈ names (L ++ [f]) → n ≠ hdF f → n ∈ names L := fun n hn hne => by
    rcases (hm n).1 hn with h | h
    · exact h
    · exact absurd h.symm hne
  have hs1 : sub (hdF f) (L ++ [f]) = sub (hdF f) L ++ [subF f] := by rw [sub_snoc, if_pos ⟨hf, rfl⟩]
  have hs2 : ∀ n, n ≠ hdF f → sub n (L ++ [f]) = sub n L := fun n hne => by
    rw [sub_snoc, if_neg]
    rintro ⟨_, e⟩
    exact hne e.symm
  refine ⟨row_heap h.nodes fun b hb => hk b (h.nodes.lt b hb).2 (fun h1 e => (h.vG _ h1).1 (e ▸ hb)) (fun e => h.vM.1 (e ▸ hb)), row_heap h.blobs fun b hb => hk b (h.blobs.lt b hb).2 (fun h1 e => (h.vG _ h1).2 (e ▸ hb)) (fun e => h.vM.2 (e ▸ hb)), ?_, h.str.put _ _, fun n => ?_, fun n hn => ?_, fun n hn => ?_, fun n hn => ?_, fun n hn m hm2 e => ?_, h.vM, fun n hn => ?_, h.vV, h.loM⟩
  · rw [List.length_append]
    exact hown
  · rw [hm]
    by_cases e : n = hdF f
    · subst e
      rw [has_put_same h.str.tidy.isMap (by exact trivial)]
      simp
    · rw [has_put_other (fun e2 => e (by injection e2)), h.has]
      constructor
      · exact .inl
      · rintro (h | h)
        · exact h
        · exact absurd h.symm e
  · by_cases e : n = hdF f
    · subst e
      rw [atKey_put_same h.str.tidy.isMap (by exact trivial), upd_same, upd_same, hs1, List.length_append]
      rfl
    · rw [atKey_put_other (fun e2 => e (by injection e2)), upd_other _ _ e, upd_other _ _ e, hs2 n e]
      exact h.get n (hold n hn e)
  · by_cases e : n = hdF f
    · subst e
      rw [upd_same, upd_same, hs1, List.length_append]
      have e2 : flCells (sub (hdF f) L ++ [subF f]) = flCells (sub (hdF f) L) ++ [.string (subF f).pa, .string (subF f).tx, .bool (subF f).rn] := by simp [flCells]
      rw [e2]
      exact row_heap hrow fun b hb => hg2.block b (hrow.lt b hb).2 (by
        have : G = b := by injection hb
        rw [← this]
        simpa using hGM)
    · rw [upd_other _ _ e, upd_other _ _ e, hs2 n e]
      have hn2 := hold n hn e
      refine row_heap (h.rows n hn2) fun b hb => ?_
      have eb : g n = b := by injection hb
      subst eb
      exact hk _ (h.gl hn2).2 (hdiff n hn2 e) (h.aM n hn2)
  · by_cases e : n = hdF f
    · subst e; rw [upd_same]; exact hGM
    · rw [upd_other _ _ e]; exact h.aM n (hold n hn e)
  · by_cases e1 : n = hdF f
    · by_cases e2 : m = hdF f
      · rw [e1, e2]
      · exfalso
        rw [e1, upd_same, upd_other _ _ e2] at e
        have hm3 := hold m hm2 e2
        exact hGe _ (h.gl hm3).2 (hdiff m hm3 e2) e
    · by_cases e2 : m = hdF f
      · exfalso
        rw [e2, upd_same, upd_other _ _ e1] at e
        have hn3 := hold n hn e1
        exact hGe _ (h.gl hn3).2 (hdiff n hn3 e1) e.symm
      · rw [upd_other _ _ e1, upd_other _ _ e2] at e
        exact h.aG n (hold n hn e1) m (hold m hm2 e2) e
  · by_cases e : n = hdF f
    · subst e
      rw [upd_same]
      exact ⟨fun h2 => hGe G (h.nodes.lt G h2).2 (fun h3 h4 => (h.vG _ h3).1 (h4 ▸ h2)) rfl, fun h2 => hGe G (h.blobs.lt G h2).2 (fun h3 h4 => (h.vG _ h3).2 (h4 ▸ h2)) rfl⟩
    · rw [upd_other _ _ e]
      exact h.vG n (hold n hn e)
end
end Go.Proofs.YtcdgdmhlbgbklaaGreatDoor

/- Arrays of numbers, as they lie in blocks. -/
namespace Go.Proofs.YtcdgdmhlbgbklaaGreatDoor
open Go.RowKit

/-- An array of these numbers. -/
def nums (l : List Int) : List Value := l.map (Value.int .u32)
def arr (l : List Int) : Value := .agg (nums l).toArray
/-- It lies whole in block b, which is of type T. -/
def ArrAt (w : World) (b : Nat) (T : TypeId) (l : List Int) : Prop := w.heap[b]? = some (.cells (nums l).toArray T (0, 0))

theorem ArrAt.set {w : World} {b : Nat} {T : TypeId} {l : List Int} (h : ArrAt w b T l) (k : Nat) (v : Int) : ArrAt (w.setCell ⟨b, k, none⟩ (.int .u32 v)) b T (l.set k v) := by
  have := heap_setCell_same w b k _ T (.int .u32 v) h
  unfold ArrAt nums at *
  rw [this]
  congr 2
  apply Array.toList_inj.1
  simp [List.map_set]
theorem ArrAt.other {w : World} {b b' : Nat} {T : TypeId} {l : List Int} (h : ArrAt w b T l) (k : Nat) (v : Value) (hb : b ≠ b') : ArrAt (w.setCell ⟨b', k, none⟩ v) b T l := by
  unfold ArrAt at *
  rw [Below.heap_setCell w ⟨b', k, none⟩ v b hb]
  exact h
theorem ArrAt.cell {w : World} {b : Nat} {T : TypeId} {l : List Int} (h : ArrAt w b T l) (k : Nat) (hk : k < l.length) : w.cell? ⟨b, k, none⟩ = some (.int .u32 l[k]) := by
  rw [Lib.cell_of_heap h]
  simp [nums, hk]
theorem ArrAt.fro {w : World} {b : Nat} {T : TypeId} {l : List Int} (h : ArrAt w b T l) (k : Nat) : w.frozen? ⟨b, k, none⟩ = false := Lib.frozen_of_heap h k
theorem ArrAt.up {B : Nat} {w w' : World} {b : Nat} {T : TypeId} {l : List Int} (h : ArrAt w b T l) (hb : Below B w w') (hB : b < B) : ArrAt w' b T l := (hb.block b hB).trans h
theorem ArrAt.new (w : World) (T : TypeId) (l : List Int) : ArrAt (w.alloc (.cells (nums l).toArray T)) w.heap.size T l := heap_alloc_new w _

theorem take_set (l : List Int) (k : Nat) (v : Int) (hk : k < l.length) : (l.set k v).take (k + 1) = l.take k ++ [v] := by
  rw [List.take_succ_eq_append_getElem (by simpa using hk), List.getElem_set_self, List.take_set]
  congr 1
  exact List.set_eq_of_length_le (by rw [List.length_take]; omega)
theorem get_take (l m : List Int) (k j : Nat) (h : l.take k = m) (hj : j < k) (hl : j < l.length) : l[j] = m.getD j 0 := by
  rw [← h, List.getD, List.getElem?_take, if_pos hj, List.getElem?_eq_getElem hl]
  rfl

theorem nums_len (l : List Int) : (nums l).length = l.length := by simp [nums]
theorem ArrAt.range {w : World} {b : Nat} {T : TypeId} {l : List Int} (h : ArrAt w b T l) : w.rangeAt b 0 (nums l) := fun j v hv => by
  rw [Nat.zero_add, Lib.cell_of_heap h]
  simpa using hv
theorem ArrAt.there {w : World} {b : Nat} {T : TypeId} {l : List Int} (h : ArrAt w b T l) (n : Nat) (hn : n = l.length) : w.there b 0 n := fun j hj => by
  subst hn
  rw [Nat.zero_add]
  exact ⟨by rw [h.cell j hj]; rfl, h.fro j⟩
theorem nums_one (l : List Int) : (nums l).toArray.all (·.oneCell') = true := all_oneCell_toArray fun v hv => by
  obtain ⟨n, _, rfl⟩ := List.mem_map.1 hv
  rfl
theorem results_one {fn : Func} {p : Tmp} {ty : TypeId} {P : Program} {b : Nat} {v : Value} (h : fn.results = #[.cell p ty]) (tmps : Array Value) (w : World) (hp : tmps.getD p undef = .pointer (some ⟨b, 0, none⟩)) (hl : (loadVar ty ⟨b, 0, none⟩).run P w = .ok v w) : (results fn tmps).run P w = .ok v w := by
  have hp2 : tmps[p]?.getD undef = .pointer (some ⟨b, 0, none⟩) := by simpa using hp
  simp [results, h, hp2, hl, asAddr]
theorem below_setCells {B b : Nat} (hb : B ≤ b) : ∀ (vs : List Value) (o : Nat) {w w' : World}, Below B w w' → Below B w (w'.setCells b o vs)
  | [], _, _, _, h => h
  | v :: vs, o, _, _, h => below_setCells hb vs (o + 1) (h.setCell (p := ⟨b, o, none⟩) hb v)
theorem wpList_store_any {P : Program} {ops : Array Oper} {rest : List Oper} {op : Oper} {a : Act} {w : World} {Q : Exit → Act → World → Prop} (hgd : op.guard = none) (ty : TypeId) (x y : Operand) (ho : op.op = .store ty x y)
    (b o : Nat) (cells : Array Value) (hx : a.eval x = .pointer (some ⟨b, o, none⟩)) (hy : a.eval y = .agg cells)
    (ht : w.there b o cells.size) (hi : (P.info? ty).map (·.size) = some cells.size) (h1 : cells.all (·.oneCell') = true) (F : World → Prop) (hF : F (w.setCells b o cells.toList))
    (h : ∀ W, F W → wpList P ops Q rest (a.put op.dst undef) W) : wpList P ops Q (op :: rest) a w :=
  wpList_store_mid hgd ty x y ho b o cells hx hy ht hi h1 (h _ hF)
end Go.Proofs.YtcdgdmhlbgbklaaGreatDoor

/- The digest's own sum: what each step of it does. -/
namespace Go.Proofs.YtcdgdmhlbgbklaaGreatDoor
open Go.RowKit

def rotR (x : Int) (n : Nat) : Int := bits .or .u32 (IntKind.u32.wrap (x * 2 ^ (32 - n))) (x / 2 ^ n)

theorem rot_and : ∀ n : Nat, n < 32 → 1 ≤ n → bits .and .u64 (IntKind.u64.wrap (-(n : Int))) 31 = ((32 - n : Nat) : Int) := by decide

set_option maxHeartbeats 1000000 in
theorem rl_any (x : Int) (n : Nat) (w : World) (h1 : 1 ≤ n) (h2 : n ≤ 31) :
    Calls Tryz.prog 137 #[.int .u32 x, .int .i64 (-(n : Int))] w fun e w' => e = .returned (.int .u32 (rotR x n)) ∧ w' = w := by
  have hb := rot_and n (by omega) h1
  obtain ⟨m, hm⟩ : ∃ m, m = 32 - n := ⟨_, rfl⟩
  rw [← hm] at hb
  have hs1 : Op.shift .shl .u32 x .u64 (m : Int) = pure (.int .u32 (IntKind.u32.wrap (x * 2 ^ m))) := by
    rw [shift_shl _ _ _ _ (by omega) (by show (m : Int) ≤ 32; omega)]
    rfl
  have hs2 : Op.shift .shr .u32 x .u64 (n : Int) = pure (.int .u32 (x / 2 ^ n)) := by
    rw [shift_shr _ _ _ _ (by omega) (by show (n : Int) ≤ 32; omega)]
    rfl
  have hw : IntKind.u64.wrap (32 - (m : Int)) = n := by rw [IntKind.wrap_u64]; omega
  have HR : Hid (rotR x n = bits .or .u32 (IntKind.u32.wrap (x * 2 ^ m)) (x / 2 ^ n)) := by show _ = _; unfold rotR; rw [hm]
  clear hm h1 h2
  go_enter Tryz.func137, Tryz.ntmps137
  go_wp2
  go_ret
  exact ⟨by rw [HR.out]; rfl, rfl⟩

set_option maxHeartbeats 1000000 in
theorem turned_any (x : Int) (n : Nat) (w : World) (h1 : 1 ≤ n) (h2 : n ≤ 31) :
    Calls Tryz.prog 91 #[.int .u32 x, .int .i64 n] w fun e w' => e = .returned (.int .u32 (rotR x n)) ∧ w' = w := by
  have hw : IntKind.i64.wrap (-(n : Int)) = -(n : Int) := by rw [IntKind.wrap_i64]; omega
  go_enter Tryz.func91, Tryz.ntmps91
  go_wp2_with fail
  refine (rl_any x n w h1 h2).mono ?_
  rintro e w1 ⟨rfl, rfl⟩
  go_wp2
  go_ret
  exact ⟨rfl, rfl⟩

theorem below8 {B b : Nat} {w w' : World} (h : Below B w w') (hb : B ≤ b) (v0 v1 v2 v3 v4 v5 v6 v7 : Value) : Below B w ((((((((w'.setCell ⟨b, 0, none⟩ v0).setCell ⟨b, 1, none⟩ v1).setCell ⟨b, 2, none⟩ v2).setCell ⟨b, 3, none⟩ v3).setCell ⟨b, 4, none⟩ v4).setCell ⟨b, 5, none⟩ v5).setCell ⟨b, 6, none⟩ v6).setCell ⟨b, 7, none⟩ v7) :=
  (((((((h.setCell (p := ⟨b, 0, none⟩) hb _).setCell (p := ⟨b, 1, none⟩) hb _).setCell (p := ⟨b, 2, none⟩) hb _).setCell (p := ⟨b, 3, none⟩) hb _).setCell (p := ⟨b, 4, none⟩) hb _).setCell (p := ⟨b, 5, none⟩) hb _).setCell (p := ⟨b, 6, none⟩) hb _).setCell (p := ⟨b, 7, none⟩) hb _
theorem eight {l : List Int} (h : l.length = 8) : ∃ a0 a1 a2 a3 a4 a5 a6 a7, l = [a0, a1, a2, a3, a4, a5, a6, a7] := by
  match l, h with
  | [a0, a1, a2, a3, a4, a5, a6, a7], _ => exact ⟨a0, a1, a2, a3, a4, a5, a6, a7, rfl⟩

/-- The numbers of a variable of the program lie where they were laid. -/
def LaidAt (g : Nat) (w : World) (l : List Int) : Prop := ∀ j (hj : j < l.length), w.cell? ⟨g, j, none⟩ = some (.int .u32 l[j])
theorem LaidAt.up {g B : Nat} {w w' : World} {l : List Int} (h : LaidAt g w l) (hb : Below B w w') (hB : g < B) : LaidAt g w' l := fun j hj => (hb.cell (p := ⟨g, j, none⟩) hB).trans (h j hj)

set_option maxHeartbeats 4000000 in
set_option maxRecDepth 100000 in
theorem newState_any (w : World) (sq : List Int) (hl : sq.length = 8) (hg : LaidAt 0 w sq) :
    Calls Tryz.prog 39 #[] w fun e w' => e = .returned (arr sq) ∧ Below w.heap.size w w' := by
  have hz : 0 < w.heap.size := World.block_lt_of_cell? w ⟨0, 0, none⟩ (hg 0 (by omega))
  have HG : Hid _ := hg
  clear hg
  go_enter Tryz.func39, Tryz.ntmps39
  go_wp2
  go_loopw [3] (fun i wr => ∃ (k : Nat) (l : List Int), k ≤ 8 ∧ i = .int .i64 k ∧ l.length = 8 ∧ (∀ j (hj : j < sq.length) (hj' : j < l.length), j < k → l[j] = sq[j]) ∧ ArrAt wr (w.heap.size + 1) 72 l ∧ ArrAt wr w.heap.size 72 [0, 0, 0, 0, 0, 0, 0, 0] ∧ Below w.heap.size w wr) (fun i _ => 8 - (intOf i).toNat)
  case atStart =>
    refine ⟨0, [0, 0, 0, 0, 0, 0, 0, 0], by omega, rfl, rfl, by omega, ?_, ?_, ((Below.refl _ _).alloc (Nat.le_refl _) _).alloc (by simp) _⟩
    · have := ArrAt.new (w.alloc (.cells #[.int .u32 0, .int .u32 0, .int .u32 0, .int .u32 0, .int .u32 0, .int .u32 0, .int .u32 0, .int .u32 0] 72)) 72 [0, 0, 0, 0, 0, 0, 0, 0]
      rw [World.size_alloc] at this
      exact this
    · exact (ArrAt.new w 72 [0, 0, 0, 0, 0, 0, 0, 0]).up ((Below.refl (w.heap.size + 1) _).alloc (by simp) _) (Nat.lt_succ_self _)
  case round =>
    obtain ⟨k, l, hk, rfl, hll, hlo, hA, hR, hb⟩ := hrel
    have HLO : Hid _ := hlo
    have HA : Hid (ArrAt wr (w.heap.size + 1) 72 l) := hA
    have HR : Hid (ArrAt wr w.heap.size 72 [0, 0, 0, 0, 0, 0, 0, 0]) := hR
    have HB : Hid (Below w.heap.size w wr) := hb
    clear hlo hA hR hb
    by_cases hlt : k < 8
    · have c0 := LaidAt.up HG.out HB.out hz k (by omega)
      have c1 := HA.out.cell k (by omega)
      have c2 := HA.out.fro k
      have i2 : (k : Int) < 8 := by omega
      go_wp2
      refine ⟨⟨k + 1, l.set k sq[k], by omega, by go_num, by simpa using hll, fun j hj hj' hjk => ?_, HA.out.set k _, HR.out.other k _ (by omega), HB.out.setCell (p := ⟨w.heap.size + 1, k, none⟩) (Nat.le_succ _) _⟩, by simp [intOf]; omega⟩
      rw [List.getElem_set]
      by_cases h : k = j
      · subst h; simp
      · rw [if_neg h]
        exact HLO.out j hj (by simpa using hj') (by omega)
    · obtain rfl : k = 8 := by omega
      obtain rfl : l = sq := List.ext_getElem (by omega) fun j h1 h2 => HLO.out j h2 h1 (by omega)
      obtain ⟨a0, a1, a2, a3, a4, a5, a6, a7, rfl⟩ := eight hl
      have c0 := HA.out.cell 0 (by simp)
      have c1 := HA.out.cell 1 (by simp)
      have c2 := HA.out.cell 2 (by simp)
      have c3 := HA.out.cell 3 (by simp)
      have c4 := HA.out.cell 4 (by simp)
      have c5 := HA.out.cell 5 (by simp)
      have c6 := HA.out.cell 6 (by simp)
      have c7 := HA.out.cell 7 (by simp)
      have z0 := HR.out.cell 0 (by decide)
      have f0 := HR.out.fro 0
      have z1 := HR.out.cell 1 (by decide)
      have f1 := HR.out.fro 1
      have z2 := HR.out.cell 2 (by decide)
      have f2 := HR.out.fro 2
      have z3 := HR.out.cell 3 (by decide)
      have f3 := HR.out.fro 3
      have z4 := HR.out.cell 4 (by decide)
      have f4 := HR.out.fro 4
      have z5 := HR.out.cell 5 (by decide)
      have f5 := HR.out.fro 5
      have z6 := HR.out.cell 6 (by decide)
      have f6 := HR.out.fro 6
      have z7 := HR.out.cell 7 (by decide)
      have f7 := HR.out.fro 7
      simp only [List.getElem_cons_zero, List.getElem_cons_succ] at c0 c1 c2 c3 c4 c5 c6 c7 z0 z1 z2 z3 z4 z5 z6 z7
      go_wp2
      refine bodyPost_ret (v := arr [a0, a1, a2, a3, a4, a5, a6, a7]) (by simp [results, Tryz.results39, go_sem, z0, z1, z2, z3, z4, z5, z6, z7, arr, nums]) rfl ⟨rfl, below8 HB.out (Nat.le_refl _) _ _ _ _ _ _ _ _⟩
end Go.Proofs.YtcdgdmhlbgbklaaGreatDoor

/- What the digest's own words of a block are. -/
namespace Go.Proofs.YtcdgdmhlbgbklaaGreatDoor
open Go.RowKit

def zeros : List Int := List.replicate 64 0
def be4 (c0 c1 c2 c3 : Int) : Int := bits .or .u32 (bits .or .u32 (bits .or .u32 (c0 % 4294967296 * 16777216 % 4294967296) (c1 % 4294967296 * 65536 % 4294967296)) (c2 % 4294967296 * 256 % 4294967296)) (c3 % 4294967296)
def sig0 (x : Int) : Int := bits .xor .u32 (bits .xor .u32 (rotR x 7) (rotR x 18)) (x / 8)
def sig1 (x : Int) : Int := bits .xor .u32 (bits .xor .u32 (rotR x 17) (rotR x 19)) (x / 1024)
def byteAt (s : ByteArray) (k : Nat) : Int := ((s.data.toList.getD k 0).toNat : Int)
/-- The word k, of those ahead of it. -/
def wnext (s : ByteArray) (l : List Int) (k : Nat) : Int :=
  if k < 16 then be4 (byteAt s (4 * k)) (byteAt s (4 * k + 1)) (byteAt s (4 * k + 2)) (byteAt s (4 * k + 3))
  else (l.getD (k - 16) 0 + sig0 (l.getD (k - 15) 0) + l.getD (k - 7) 0 + sig1 (l.getD (k - 2) 0)) % 4294967296
def ws (s : ByteArray) : Nat → List Int
  | 0 => []
  | k + 1 => ws s k ++ [wnext s (ws s k) k]
theorem ws_len (s : ByteArray) (k : Nat) : (ws s k).length = k := by
  induction k with
  | zero => rfl
  | succ k ih => simp [ws, ih]
theorem byteAt_get (s : ByteArray) (k : Nat) (hk : k < s.size) : byteAt s k = (s[k].toNat : Int) := by
  unfold byteAt
  have h : k < s.data.toList.length := by rw [Array.length_toList]; exact hk
  rw [List.getD, List.getElem?_eq_getElem h]
  rfl
theorem info64 : (Tryz.prog.info? 135).map (·.size) = some 64 := by kernel_rfl

set_option maxHeartbeats 4000000 in
set_option maxRecDepth 100000 in
theorem words_any (w : World) (s : ByteArray) (hs : s.size = 64) :
    Calls Tryz.prog 90 #[.string s] w fun e w' => e = .returned (arr (ws s 64)) ∧ Below w.heap.size w w' := by
  have HS : Hid (s.size = 64) := hs
  clear hs
  go_enter Tryz.func90, Tryz.ntmps90
  go_wp2
  go_loopw [10] (fun i wr => ∃ (k : Nat) (l : List Int), k ≤ 16 ∧ i = .int .i64 k ∧ l.length = 64 ∧ l.take k = ws s k ∧ ArrAt wr (w.heap.size + 1) 135 l ∧ ArrAt wr w.heap.size 135 zeros ∧ Below w.heap.size w wr) (fun i _ => 16 - (intOf i).toNat)
  case atStart =>
    refine ⟨0, zeros, by omega, rfl, rfl, rfl, ?_, ?_, ((Below.refl _ _).alloc (Nat.le_refl _) _).alloc (by simp) _⟩
    · have := ArrAt.new (w.alloc (.cells (nums zeros).toArray 135)) 135 zeros
      rw [World.size_alloc] at this
      exact this
    · exact (ArrAt.new w 135 zeros).up ((Below.refl (w.heap.size + 1) _).alloc (by simp) _) (Nat.lt_succ_self _)
  case round =>
    obtain ⟨k, l, hk, rfl, hll, htk, hA, hR, hb⟩ := hrel
    have HT : Hid _ := htk
    have HA : Hid (ArrAt wr (w.heap.size + 1) 135 l) := hA
    have HR : Hid (ArrAt wr w.heap.size 135 zeros) := hR
    have HB : Hid (Below w.heap.size w wr) := hb
    clear htk hA hR hb
    by_cases hlt : k < 16
    · have c1 := HA.out.cell k (by omega)
      have c2 := HA.out.fro k
      have i2 : (k : Int) < 16 := by omega
      have j0 : IntKind.i64.wrap (4 * (k : Int)) = 4 * (k : Int) := by rw [IntKind.wrap_i64]; omega
      have j1 : IntKind.i64.wrap (4 * (k : Int) + 1) = 4 * (k : Int) + 1 := by rw [IntKind.wrap_i64]; omega
      have j2 : IntKind.i64.wrap (4 * (k : Int) + 2) = 4 * (k : Int) + 2 := by rw [IntKind.wrap_i64]; omega
      have j3 : IntKind.i64.wrap (4 * (k : Int) + 3) = 4 * (k : Int) + 3 := by rw [IntKind.wrap_i64]; omega
      have b0 : (0 : Int) ≤ 4 * (k : Int) := by omega
      have b1 : (0 : Int) ≤ 4 * (k : Int) + 1 := by omega
      have b2 : (0 : Int) ≤ 4 * (k : Int) + 2 := by omega
      have b3 : (0 : Int) ≤ 4 * (k : Int) + 3 := by omega
      have d0 : 4 * (k : Int) < s.size := by have := HS.out; omega
      have d1 : 4 * (k : Int) + 1 < s.size := by have := HS.out; omega
      have d2 : 4 * (k : Int) + 2 < s.size := by have := HS.out; omega
      have d3 : 4 * (k : Int) + 3 < s.size := by have := HS.out; omega
      have t0 : (4 * (k : Int)).toNat = 4 * k := by omega
      have t1 : (4 * (k : Int) + 1).toNat = 4 * k + 1 := by omega
      have t2 : (4 * (k : Int) + 2).toNat = 4 * k + 2 := by omega
      have t3 : (4 * (k : Int) + 3).toNat = 4 * k + 3 := by omega
      go_wp2
      go_region
      go_wp2
      refine ⟨⟨k + 1, l.set k (wnext s (ws s k) k), by omega, by go_num, by simpa using hll, ?_, ?_, ?_, ?_⟩, by simp [intOf]; omega⟩
      · rw [take_set l k _ (by omega), HT.out]; rfl
      · have hv : wnext s (ws s k) k = be4 (s[4 * k].toNat : Int) (s[4 * k + 1].toNat : Int) (s[4 * k + 2].toNat : Int) (s[4 * k + 3].toNat : Int) := by
          unfold wnext
          rw [if_pos hlt, byteAt_get s _ (by omega), byteAt_get s _ (by omega), byteAt_get s _ (by omega), byteAt_get s _ (by omega)]
        rw [hv]
        exact HA.out.set k _
      · exact HR.out.other k _ (by omega)
      · exact (HB.out.setCell (p := ⟨w.heap.size + 1, k, none⟩) (Nat.le_succ _) _).drew
    · have HK : Hid (k = 16) := by show _ = _; omega
      have i3 : (16 : Int) ≤ (k : Int) := by omega
      go_wp2
      go_loopw [5] (fun i wr => ∃ (k : Nat) (l : List Int), 16 ≤ k ∧ k ≤ 64 ∧ i = .int .i64 k ∧ l.length = 64 ∧ l.take k = ws s k ∧ ArrAt wr (w.heap.size + 1) 135 l ∧ ArrAt wr w.heap.size 135 zeros ∧ Below w.heap.size w wr) (fun i _ => 64 - (intOf i).toNat)
      case atStart => exact ⟨16, l, by omega, by omega, rfl, hll, by have := HT.out; rwa [HK.out] at this, HA.out, HR.out, HB.out⟩
      case round =>
        clear hll HT HA HR HB HK
        obtain ⟨k, l, hk0, hk, rfl, hll, htk, hA, hR, hb⟩ := hrel
        have HT : Hid (l.take k = ws s k) := htk
        have HR : Hid (ArrAt _ w.heap.size 135 zeros) := hR
        have HB : Hid (Below w.heap.size w _) := hb
        have HA : Hid (ArrAt _ (w.heap.size + 1) 135 l) := hA
        clear htk hA hR hb
        by_cases hlt : k < 64
        · have i2 : (k : Int) < 64 := by omega
          have c0 := HA.out.cell k (by omega)
          have f0 := HA.out.fro k
          have c1 := HA.out.cell (k - 15) (by omega)
          have c2 := HA.out.cell (k - 2) (by omega)
          have c3 := HA.out.cell (k - 16) (by omega)
          have c4 := HA.out.cell (k - 7) (by omega)
          rw [get_take l _ k _ HT.out (by omega)] at c1 c2 c3 c4
          have j1 : IntKind.i64.wrap ((k : Int) - 15) = (k : Int) - 15 := by rw [IntKind.wrap_i64]; omega
          have j2 : IntKind.i64.wrap ((k : Int) - 2) = (k : Int) - 2 := by rw [IntKind.wrap_i64]; omega
          have j3 : IntKind.i64.wrap ((k : Int) - 16) = (k : Int) - 16 := by rw [IntKind.wrap_i64]; omega
          have j4 : IntKind.i64.wrap ((k : Int) - 7) = (k : Int) - 7 := by rw [IntKind.wrap_i64]; omega
          have b1 : (0 : Int) ≤ (k : Int) - 15 := by omega
          have b2 : (0 : Int) ≤ (k : Int) - 2 := by omega
          have b3 : (0 : Int) ≤ (k : Int) - 16 := by omega
          have b4 : (0 : Int) ≤ (k : Int) - 7 := by omega
          have d1 : (k : Int) - 15 < 64 := by omega
          have d2 : (k : Int) - 2 < 64 := by omega
          have d3 : (k : Int) - 16 < 64 := by omega
          have d4 : (k : Int) - 7 < 64 := by omega
          have t1 : ((k : Int) - 15).toNat = k - 15 := by omega
          have t2 : ((k : Int) - 2).toNat = k - 2 := by omega
          have t3 : ((k : Int) - 16).toNat = k - 16 := by omega
          have t4 : ((k : Int) - 7).toNat = k - 7 := by omega
          generalize hx1 : (ws s k).getD (k - 15) 0 = x1 at c1
          generalize hx2 : (ws s k).getD (k - 2) 0 = x2 at c2
          generalize hx3 : (ws s k).getD (k - 16) 0 = x3 at c3
          generalize hx4 : (ws s k).getD (k - 7) 0 = x4 at c4
          have HV : Hid (wnext s (ws s k) k = (x3 + sig0 x1 + x4 + sig1 x2) % 4294967296) := by
            show _ = _
            unfold wnext
            rw [if_neg (by omega), hx1, hx2, hx3, hx4]
          clear hx1 hx2 hx3 hx4
          go_wp2
          go_region
          go_wp2_with fail
          refine (turned_any x1 7 _ (by decide) (by decide)).mono ?_
          rintro e w1 ⟨rfl, rfl⟩
          go_wp2_with fail
          refine (turned_any x1 18 _ (by decide) (by decide)).mono ?_
          rintro e w1 ⟨rfl, rfl⟩
          go_wp2_with fail
          refine (turned_any x2 17 _ (by decide) (by decide)).mono ?_
          rintro e w1 ⟨rfl, rfl⟩
          go_wp2_with fail
          refine (turned_any x2 19 _ (by decide) (by decide)).mono ?_
          rintro e w1 ⟨rfl, rfl⟩
          go_wp2
          go_region
          go_wp2
          refine ⟨⟨k + 1, l.set k (wnext s (ws s k) k), by omega, by omega, by go_num, by simpa using hll, ?_, ?_, ?_, ?_⟩, by simp [intOf]; omega⟩
          · rw [take_set l k _ (by omega), HT.out]; rfl
          · rw [HV.out]
            exact HA.out.set k _
          · exact HR.out.other k _ (by omega)
          · exact (HB.out.setCell (p := ⟨w.heap.size + 1, k, none⟩) (Nat.le_succ _) _).drew.drew
        · obtain rfl : k = 64 := by omega
          have HL : Hid (l = ws s 64) := by show _ = _; rw [← HT.out, List.take_of_length_le (by omega)]
          have hth := HR.out.there 64 rfl
          have HB6 : Hid (Below w.heap.size w (wr.setCells w.heap.size 0 (nums l))) := below_setCells (Nat.le_refl _) _ _ HB.out
          have hrs : (loadVar 135 ⟨w.heap.size, 0, none⟩).run Tryz.prog (wr.setCells w.heap.size 0 (nums l)) = .ok (.agg (nums l).toArray) (wr.setCells w.heap.size 0 (nums l)) :=
            run_loadVar_mid _ w.heap.size 0 135 (nums l) _ (World.rangeAt_setCells_same _ _ _ _ (HR.out.there _ (by rw [nums_len, hll]; rfl))) Tryz.underlying135 rfl (by rw [info64, nums_len, hll])
          have HTH : Hid (wr.there w.heap.size 0 64) := hth
          have HRS : Hid _ := hrs
          have HI : Hid ((Tryz.prog.info? 135).map (·.size) = some (nums l).length ∧ (nums l).toArray.size = 64) := ⟨by rw [info64, nums_len, hll], by rw [List.size_toArray, nums_len, hll]⟩
          have HRG : Hid (wr.rangeAt (w.heap.size + 1) 0 (nums l)) := HA.out.range
          have HON : Hid ((nums l).toArray.all (·.oneCell') = true) := nums_one l
          clear hrs hth HA HR HT HB
          generalize hcs : nums l = cs at HB6 HRS HI HRG HON
          have HCS : Hid (nums l = cs) := hcs
          clear hcs
          go_wp2_with (first
            | (refine wpList_load_mid rfl 135 (Operand.tmp 3) rfl (w.heap.size + 1) 0 rfl cs _ HRG.out Tryz.underlying135 rfl HI.out.1 ?_)
            | (refine wpList_store_mid rfl 135 (Operand.tmp 2) (Operand.tmp 88) rfl w.heap.size 0 cs.toArray rfl rfl (by rw [HI.out.2]; exact HTH.out) (by rw [info64, HI.out.2]) HON.out ?_))
          refine bodyPost_ret (v := .agg cs.toArray) (results_one Tryz.results90 _ _ rfl HRS.out) rfl ⟨?_, HB6.out⟩
          rw [← HL.out]
          exact congrArg (fun c : List Value => Ending.returned (.agg c.toArray)) HCS.out.symm
end Go.Proofs.YtcdgdmhlbgbklaaGreatDoor

/- An element of an array of eight numbers. -/
namespace Go.Proofs.YtcdgdmhlbgbklaaGreatDoor
open Go.RowKit

theorem ix8 (b0 b1 b2 b3 b4 b5 b6 b7 : Int) (j : Nat) (hj : j < 8) (v : Value) (hv : ([.int .u32 b0, .int .u32 b1, .int .u32 b2, .int .u32 b3, .int .u32 b4, .int .u32 b5, .int .u32 b6, .int .u32 b7] : List Value)[j]? = some v) (W : World) : (Instr.index 72 (.agg #[.int .u32 b0, .int .u32 b1, .int .u32 b2, .int .u32 b3, .int .u32 b4, .int .u32 b5, .int .u32 b6, .int .u32 b7]) (.int .i64 j)).run Tryz.prog W = .ok v W := by
  have h1 : (j : Int) < 8 := by omega
  have h2 : (0 : Int) ≤ (j : Int) := by omega
  simp only [Instr.index, asIntOf, Sem.run_bind, Sem.run_pure, Result.andThen_ok, run_underlying Tryz.underlying72]
  rw [if_pos ⟨h2, h1⟩]
  simp [part, Tryz.isAgg71, Tryz.sizeOf71, hv]
end Go.Proofs.YtcdgdmhlbgbklaaGreatDoor
