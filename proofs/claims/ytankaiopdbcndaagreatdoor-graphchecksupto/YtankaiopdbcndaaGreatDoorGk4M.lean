/- A target's error; new places. -/
import Derived.Test.YtankaiopdbcndaaGreatDoorGk3M
import Derived.Test.YtankaiopdbcndaaGreatDoorTc7
import Derived.Lib.MinMax
namespace Go.Proofs.YtankaiopdbcndaaGreatDoor
open Go.RowKit Go.Shelf Go.Maps Go.WideMaps
attribute [local go_sem ↓] appG_eq2
/-- A target's error, if T is taken. -/
def teF (F : List (List UInt8)) (T : List ByteArray) (t : Tg) : Int :=
  if t.ss.any (fun x => !decide (tl x ∈ F)) = true then 5 else if t.os.any (fun x => !pathOk x) = true then 1
  else if 60 < t.ss.length ∨ 60 < t.os.length ∨ 60 < t.cs.length then 2 else if (tkF T t.os).1 = true then 0 else 6
theorem run_max3 {P : Program} (w : World) (ts : Array TypeId) (t : TypeId) (x y z : Int) :
    (Builtin.max_ ts t #[.int .i64 x, .int .i64 y, .int .i64 z]).run P w = .ok (.int .i64 (max (max x y) z)) w := by
  have e : (if y > x then y else x) = max x y := by
    rw [Int.max_def]
    split <;> split <;> omega
  have e2 : (if z > max x y then z else max x y) = max (max x y) z := by
    rw [Int.max_def (max x y)]
    split <;> split <;> omega
  simp [Builtin.max_, Builtin.max2, e, e2]
attribute [local go_sem high] run_max3
def encT (t : Tg) : Value := .agg #[.string t.nm, t.vs, t.vn, t.vo, t.vc]

set_option maxHeartbeats 4000000 in
set_option maxRecDepth 100000 in
theorem targetError_any (P M : Nat) (F : List (List UInt8)) (T : List ByteArray) (v : Value) (t : Tg) (w w0 : World) (h : PS P M F T v w w0) (hm : MaxIs w) (ht : TxIn w t.vs t.ss ∧ TxIn w t.vn t.ns ∧ TxIn w t.vo t.os ∧ TxIn w t.vc t.cs) (hs : ∀ s ∈ t.ss, s.size ≤ maxLen) (hl : T.length ≤ 100000) :
    Calls Tryz.prog 42 #[pt P, encT t] w0 fun e w' => e = .returned (.int .i64 (teF F T t)) ∧ (teF F T t = 0 → ∃ v', PS P M F (tkF T t.os).2 v' w w') ∧ Hid (Below w.heap.size w w' ∧ ∃ v', Kp P v w0 v' w') := by
  obtain ⟨W, hW⟩ : ∃ W, W = w0.alloc (.cells #[.string t.nm, t.vs, t.vn, t.vo, t.vc] 38) := ⟨_, rfl⟩
  have hWb : Below w0.heap.size w0 W := by rw [hW]; exact (Below.refl _ w0).alloc (Nat.le_refl _) _
  have hPW := h.below hWb
  have hWc : W.heap[w0.heap.size]? = some (.cells #[.string t.nm, t.vs, t.vn, t.vo, t.vc] 38 (0, 0)) := by rw [hW]; exact heap_alloc_new w0 _
  have hWlt := blk_lt hWc
  have b1 : W.cell? ⟨w0.heap.size, 1, none⟩ = some t.vs := by rw [Lib.cell_of_heap hWc]; rfl
  have hcs : ∀ W2, Below W.heap.size W W2 → W2.cell? ⟨w0.heap.size, 1, none⟩ = some t.vs ∧ W2.cell? ⟨w0.heap.size, 3, none⟩ = some t.vo ∧ W2.cell? ⟨w0.heap.size, 4, none⟩ = some t.vc := fun W2 hb => by
    have e := (hb.block _ hWlt).trans hWc
    exact ⟨by rw [Lib.cell_of_heap e]; rfl, by rw [Lib.cell_of_heap e]; rfl, by rw [Lib.cell_of_heap e]; rfl⟩
  have HC1 : Hid (Calls Tryz.prog 48 #[t.vs, .func (.func 67) #[pt P] #[]] W fun e w' => e = .returned (.bool (t.ss.any fun x => !decide (tl x ∈ F))) ∧ Below W.heap.size W w') :=
    conSb t.vs t.ss 67 (pt P) (fun x => !decide (tl x ∈ F)) W ht.1.2.1 (ht.1.below hPW.bel (Nat.le_refl _)) (enters_of Tryz.func67 (by kernel_rfl) rfl) fun x hx W2 hb2 => isNoFile_any P M F T v x w W2 (hPW.below hb2) (hs x hx)
  have HC2 : Hid (∀ W2, Below W.heap.size W W2 → Calls Tryz.prog 48 #[t.vo, .func (.func 68) #[] #[]] W2 fun e w' => e = .returned (.bool (t.os.any fun x => !pathOk x)) ∧ Below W2.heap.size W2 w') := fun W2 hb =>
    conSn t.vo t.os 68 (fun x => !pathOk x) W2 ht.2.2.1.2.1 (ht.2.2.1.below (hPW.below hb).bel (Nat.le_refl _)) (enters_of Tryz.func68 (by kernel_rfl) rfl) fun x hx W3 hb3 => isNoPath_any x W3 (hm.up ((hPW.below hb).below hb3).bel)
  have HC3 : Hid (∀ W2, Below W.heap.size W W2 → ¬ (60 < t.ss.length ∨ 60 < t.os.length ∨ 60 < t.cs.length) → Calls Tryz.prog 69 #[pt P, t.vo] W2 fun e w' => e = .returned (.bool (tkF T t.os).1) ∧ Hid (∃ v', PS P M F (tkF T t.os).2 v' w w' ∧ Kp P v w0 v' w')) := fun W2 hb hq => Calls.mono (R := fun e w' => e = .returned (.bool (tkF T t.os).1) ∧ ∃ v', PS P M F (tkF T t.os).2 v' w w' ∧ Kp P v W2 v' w') (
    take_any P M F T v t.vo t.os w W2 (hPW.below hb) ht.2.2.1 (by omega)) fun e w' ⟨x1, v', x2, x3⟩ => ⟨x1, v', x2, ((Kp.of_below hWb).trans (Kp.of_below hb)).trans x3⟩
  have HB : Hid (∀ W2, Below W.heap.size W W2 → Below w.heap.size w W2 ∧ ∃ v', Kp P v w0 v' W2) := fun W2 hb => ⟨(hPW.below hb).bel, v, (Kp.of_below hWb).trans (Kp.of_below hb)⟩
  have HCs : Hid (∀ W2, Below W.heap.size W W2 → W2.cell? ⟨w0.heap.size, 1, none⟩ = some t.vs ∧ W2.cell? ⟨w0.heap.size, 3, none⟩ = some t.vo ∧ W2.cell? ⟨w0.heap.size, 4, none⟩ = some t.vc) := hcs
  have hte : teF F T t = if t.ss.any (fun x => !decide (tl x ∈ F)) = true then 5 else if t.os.any (fun x => !pathOk x) = true then 1
    else if 60 < t.ss.length ∨ 60 < t.os.length ∨ 60 < t.cs.length then 2 else if (tkF T t.os).1 = true then 0 else 6 := rfl
  generalize teF F T t = te at *
  obtain ⟨-, l1, a1, q1, e1, -⟩ := ht.1
  obtain ⟨-, l3, a3, q3, e3, -⟩ := ht.2.2.1
  obtain ⟨-, l4, a4, q4, e4, -⟩ := ht.2.2.2
  obtain ⟨nm, vs, vn, vo, vc, ss, ns, os, cs⟩ := t
  simp only at e1 e3 e4 l1 l3 l4 hte HC1 HC2 HC3 HB HCs b1 hW ⊢
  subst e1 e3 e4
  clear h hm ht hs hl hWb hPW hWc hWlt hcs
  subst hW
  generalize (ss.any fun x => !decide (tl x ∈ F)) = A1 at *
  generalize (os.any fun x => !pathOk x) = A2 at *
  have k1 : (ss.length : Int) ≤ 1048576 := by omega
  have k3 : (os.length : Int) ≤ 1048576 := by omega
  have k4 : (cs.length : Int) ≤ 1048576 := by omega
  generalize ss.length = n1 at *
  generalize os.length = n3 at *
  generalize cs.length = n4 at *
  clear l1 l3 l4
  unfold encT
  unfold pt at *
  go_enter Tryz.func42, Tryz.ntmps42
  go_wp2_with fail
  refine HC1.out.mono ?_
  rintro e w1 ⟨rfl, hb1⟩
  have HB1 : Hid (Below (w0.alloc (.cells #[.string nm, .slice a1 n1 q1, vn, .slice a3 n3 q3, .slice a4 n4 q4] 38)).heap.size (w0.alloc (.cells #[.string nm, .slice a1 n1 q1, vn, .slice a3 n3 q3, .slice a4 n4 q4] 38)) w1) := hb1
  obtain ⟨d1, d3, d4⟩ := HCs.out w1 hb1
  have HZ1 : Hid (Below w.heap.size w w1 ∧ ∃ v', Kp P v w0 v' w1) := HB.out w1 hb1
  have HC2a := HC2.out w1 hb1
  clear HC1 HC2 hb1 b1
  generalize w0.heap.size = gs at *
  cases A1 with
  | true =>
    rw [if_pos rfl] at hte
    subst hte
    clear HC2a HC3
    go_wp2
    go_ret
    exact ⟨rfl, fun e => absurd e (by decide), HZ1.out⟩
  | false =>
    rw [if_neg (by simp)] at hte
    go_wp2_with fail
    refine HC2a.mono ?_
    rintro e w2 ⟨rfl, hb2⟩
    have hb2' := HB1.out.trans (hb2.mono HB1.out.size)
    obtain ⟨d1b, d3b, d4b⟩ := HCs.out w2 hb2'
    have HZ2 : Hid (Below w.heap.size w w2 ∧ ∃ v', Kp P v w0 v' w2) := HB.out w2 hb2'
    have HC3a := HC3.out w2 hb2'
    clear HC2a HC3 HCs HB HB1 hb2 hb2' HZ1 d1 d3 d4
    cases A2 with
    | true =>
      rw [if_pos rfl] at hte
      subst hte
      clear HC3a
      go_wp2
      go_ret
      exact ⟨rfl, fun e => absurd e (by decide), HZ2.out⟩
    | false =>
      rw [if_neg (by simp)] at hte
      by_cases hmany : 60 < n1 ∨ 60 < n3 ∨ 60 < n4
      · rw [if_pos hmany] at hte
        subst hte
        have hmx : (60 : Int) < max (max (n1 : Int) (n3 : Int)) (n4 : Int) := by omega
        clear HC3a hmany
        go_wp2
        go_ret
        exact ⟨rfl, fun e => absurd e (by decide), HZ2.out⟩
      · rw [if_neg hmany] at hte
        have hmx : ¬ (60 : Int) < max (max (n1 : Int) (n3 : Int)) (n4 : Int) := by omega
        have HC4 := HC3a hmany
        clear HC3a hmany
        generalize htk : tkF T os = tk at *
        obtain ⟨bb, T2⟩ := tk
        simp only at HC4 hte
        go_wp2_with fail
        refine HC4.mono ?_
        rintro e w3 ⟨rfl, hp3⟩
        have HP3 : Hid (∃ v', PS P M F T2 v' w w3 ∧ Kp P v w0 v' w3) := hp3.out
        clear hp3 HC4
        cases bb with
        | true =>
          rw [if_pos rfl] at hte
          subst hte
          go_wp2
          go_ret
          obtain ⟨v', hv, hv2⟩ := HP3.out
          first | exact ⟨rfl, fun _ => ⟨v', hv⟩, hv.bel, v', hv2⟩ | exact ⟨rfl, ⟨v', hv⟩, hv.bel, v', hv2⟩ | exact ⟨⟨v', hv⟩, hv.bel, v', hv2⟩
        | false =>
          rw [if_neg (by simp)] at hte
          subst hte
          go_wp2
          go_ret
          obtain ⟨v', hv, hv2⟩ := HP3.out
          exact ⟨rfl, fun e => absurd e (by decide), hv.bel, v', hv2⟩
end Go.Proofs.YtankaiopdbcndaaGreatDoor
