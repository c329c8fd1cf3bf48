/- What ReadAction answers at a packed action, and the document's own SameAction. -/
import Derived.Test.YtmjemnmcndajpaaDoorReadA
namespace Go.Proofs.YtmjemnmcndajpaaDoor
open Go.RowKit Go.Shelf

set_option maxHeartbeats 1000000 in
set_option maxRecDepth 100000 in
theorem ReadAction_pk (f : Nat) (s i : ByteArray) (cl ol : List (List UInt8)) (w : World) (hs : s.size ≤ maxLen) (hm : MaxIs w) (hok : aeC (mkB cl) i (mkB ol) f = 0) (h : s.data.toList = pkAL cl i ol f) :
    Calls Tryd.prog 14 #[.string s] w fun e w' => ∃ ac cc ao co, e = .returned (.tuple #[Av (.slice ac cl.length cc) i (.slice ao ol.length co) f, .int .i64 0]) ∧ IsTexts w' (.slice ac cl.length cc) (mkB cl) ∧ IsTexts w' (.slice ao ol.length co) (mkB ol) ∧ Below w.heap.size w w' := by
  have hb0 : Below w.heap.size w (w.alloc (.cells #[.slice none 0 0, .string ⟨#[]⟩, .slice none 0 0, .int .i64 0] 26)) := (Below.refl _ _).alloc (Nat.le_refl _) _
  have HM : Hid (MaxIs (w.alloc (.cells #[.slice none 0 0, .string ⟨#[]⟩, .slice none 0 0, .int .i64 0] 26))) := hm.up hb0
  have H : Hid _ := h
  have HK : Hid (aeC (mkB cl) i (mkB ol) f = 0) := hok
  have HN : Hid (cl.length ≤ 60 ∧ ol.length ≤ 60) := by
    obtain ⟨m1, m2, _⟩ := aeC_ok hok
    exact ⟨by simpa [mkB] using m1, by simpa [mkB] using m2⟩
  clear h hok hm hb0
  go_enter Tryd.func14, Tryd.ntmps14
  go_wp2_with fail
  refine (whole_action f s i cl ol _ hs HM.out HK.out H.out).mono ?_
  rintro e w1 ⟨ac, cc, ao, co, rfl, ow, ov, hb1⟩
  have q0 : w1.cell? ⟨w.heap.size, 0, none⟩ = some (.slice none 0 0) := (hb1.cell (p := ⟨w.heap.size, 0, none⟩) (by simp)).trans (by simp [go_sem])
  have q1 : w1.cell? ⟨w.heap.size, 1, none⟩ = some (.string ⟨#[]⟩) := (hb1.cell (p := ⟨w.heap.size, 1, none⟩) (by simp)).trans (by simp [go_sem])
  have q2 : w1.cell? ⟨w.heap.size, 2, none⟩ = some (.slice none 0 0) := (hb1.cell (p := ⟨w.heap.size, 2, none⟩) (by simp)).trans (by simp [go_sem])
  have q3 : w1.cell? ⟨w.heap.size, 3, none⟩ = some (.int .i64 0) := (hb1.cell (p := ⟨w.heap.size, 3, none⟩) (by simp)).trans (by simp [go_sem])
  have r0 : w1.frozen? ⟨w.heap.size, 0, none⟩ = false := (hb1.frozen (p := ⟨w.heap.size, 0, none⟩) (by simp)).trans (by simp [go_sem])
  have r1 : w1.frozen? ⟨w.heap.size, 1, none⟩ = false := (hb1.frozen (p := ⟨w.heap.size, 1, none⟩) (by simp)).trans (by simp [go_sem])
  have r2 : w1.frozen? ⟨w.heap.size, 2, none⟩ = false := (hb1.frozen (p := ⟨w.heap.size, 2, none⟩) (by simp)).trans (by simp [go_sem])
  have r3 : w1.frozen? ⟨w.heap.size, 3, none⟩ = false := (hb1.frozen (p := ⟨w.heap.size, 3, none⟩) (by simp)).trans (by simp [go_sem])
  have HB1 : Hid (Below w.heap.size w w1) := ((Below.refl _ _).alloc (Nat.le_refl _) _).trans (hb1.mono (by simp))
  have FW : Hid (∀ {v : Value} {n : Nat} {xs : List Value} (a0 a1 a2 a3 : Value), w1.ownsRow (w.heap.size + 1) 9 1 v n xs → ((((w1.setCell ⟨w.heap.size, 0, none⟩ a0).setCell ⟨w.heap.size, 1, none⟩ a1).setCell ⟨w.heap.size, 2, none⟩ a2).setCell ⟨w.heap.size, 3, none⟩ a3).ownsRow (w.heap.size + 1) 9 1 v n xs) := fun a0 a1 a2 a3 ho =>
    ownsRow_setCell_below (ownsRow_setCell_below (ownsRow_setCell_below (ownsRow_setCell_below ho (a := ⟨w.heap.size, 0, none⟩) (Nat.lt_succ_self _) _) (a := ⟨w.heap.size, 1, none⟩) (Nat.lt_succ_self _) _) (a := ⟨w.heap.size, 2, none⟩) (Nat.lt_succ_self _) _) (a := ⟨w.heap.size, 3, none⟩) (Nat.lt_succ_self _) _
  have OW : Hid (w1.ownsRow (w.heap.size + 1) 9 1 (.slice ac cl.length cc) cl.length (strs cl)) := by show World.ownsRow _ _ _ _ _ _ _; simpa using ow
  have OV : Hid (w1.ownsRow (w.heap.size + 1) 9 1 (.slice ao ol.length co) ol.length (strs ol)) := by show World.ownsRow _ _ _ _ _ _ _; simpa using ov
  clear hb1 ow ov
  go_wp2
  refine bodyPost_ret (v := .tuple #[Av (.slice ac cl.length cc) i (.slice ao ol.length co) f, .int .i64 0]) (by simp [results, Tryd.results14, go_sem, q0, q1, q2, q3]) rfl ⟨ac, cc, ao, co, rfl, own_texts (FW.out _ _ _ _ OW.out) (by have := HN.out.1; omega), own_texts (FW.out _ _ _ _ OV.out) (by have := HN.out.2; omega), (((HB1.out.setCell (p := ⟨w.heap.size, 0, none⟩) (Nat.le_refl _) _).setCell (p := ⟨w.heap.size, 1, none⟩) (Nat.le_refl _) _).setCell (p := ⟨w.heap.size, 2, none⟩) (Nat.le_refl _) _).setCell (p := ⟨w.heap.size, 3, none⟩) (Nat.le_refl _) _⟩

theorem drewN_below (w : World) (n : Nat) : Below w.heap.size w (w.drewN n) := ⟨rfl, rfl, rfl, Nat.le_refl _, fun _ _ => rfl⟩

set_option maxHeartbeats 2000000 in
set_option maxRecDepth 100000 in
theorem sa_any (c o c' o' : Value) (cs os cs' os' : List ByteArray) (i i' : ByteArray) (f f' : Int) (w : World) (hc : IsTexts w c cs) (ho : IsTexts w o os) (hc' : IsTexts w c' cs') (ho' : IsTexts w o' os') :
    Calls Tryd.prog 15 #[Av c i o f, Av c' i' o' f'] w fun e w' => e = .returned (.bool (decide (cs = cs' ∧ i = i' ∧ os = os' ∧ f = f'))) ∧ Below w.heap.size w w' := by
  have hb0 : Below w.heap.size w ((w.alloc (.cells #[c, .string i, o, .int .i64 f] 26)).alloc (.cells #[c', .string i', o', .int .i64 f'] 26)) := ((Below.refl _ _).alloc (Nat.le_refl _) _).alloc (by simp) _
  have HC : Hid _ := hc.up hb0
  have HO : Hid _ := ho.up hb0
  have HC' : Hid _ := hc'.up hb0
  have HO' : Hid _ := ho'.up hb0
  have HB0 : Hid _ := hb0
  clear hb0
  obtain ⟨_, ac, cc, rfl, _⟩ := hc
  obtain ⟨_, ao, co, rfl, _⟩ := ho
  obtain ⟨_, ac', cc', rfl, _⟩ := hc'
  obtain ⟨_, ao', co', rfl, _⟩ := ho'
  have S1 : Hid (Calls Tryd.prog 19 #[.slice ac cs.length cc, .slice ac' cs'.length cc'] ((w.alloc (.cells #[.slice ac cs.length cc, .string i, .slice ao os.length co, .int .i64 f] 26)).alloc (.cells #[.slice ac' cs'.length cc', .string i', .slice ao' os'.length co', .int .i64 f'] 26)) fun e w' => e = .returned (.bool (decide (cs = cs'))) ∧ Below (w.heap.size + 1 + 1) ((w.alloc (.cells #[.slice ac cs.length cc, .string i, .slice ao os.length co, .int .i64 f] 26)).alloc (.cells #[.slice ac' cs'.length cc', .string i', .slice ao' os'.length co', .int .i64 f'] 26)) w') := by
    show Calls _ _ _ _ _
    refine (same_any ((w.alloc (.cells #[.slice ac cs.length cc, .string i, .slice ao os.length co, .int .i64 f] 26)).alloc (.cells #[.slice ac' cs'.length cc', .string i', .slice ao' os'.length co', .int .i64 f'] 26)) _ _ cs cs' HC.out HC'.out).mono ?_
    rintro e w' ⟨rfl, n, rfl⟩
    exact ⟨rfl, by have := drewN_below ((w.alloc (.cells #[.slice ac cs.length cc, .string i, .slice ao os.length co, .int .i64 f] 26)).alloc (.cells #[.slice ac' cs'.length cc', .string i', .slice ao' os'.length co', .int .i64 f'] 26)) n; simpa using this⟩
  by_cases g1 : cs = cs'
  · by_cases g2 : i = i'
    · by_cases g3 : os = os'
      · have HR : Hid (decide (cs = cs' ∧ i = i' ∧ os = os' ∧ f = f') = (f == f')) := by show _ = _; simp [g1, g2, g3, Bool.beq_eq_decide_eq]
        have h1 : decide (cs = cs') = true := by simpa using g1
        have h2 : (i.toList == i'.toList) = true := by rw [g2]; simp
        have h3 : decide (os = os') = true := by simpa using g3
        clear g1 g2 g3
        go_enter Tryd.func15, Tryd.ntmps15
        go_wp2_with fail
        refine S1.out.mono ?_
        rintro e w1 ⟨rfl, hb1⟩
        have B1 : Hid (Below w.heap.size w w1) := HB0.out.trans (hb1.mono (by omega))
        have O1 : Hid (IsTexts w1 (.slice ao os.length co) os) := IsTexts.up HO.out (by simpa using hb1)
        have O1' : Hid (IsTexts w1 (.slice ao' os'.length co') os') := IsTexts.up HO'.out (by simpa using hb1)
        have q1 : w1.cell? ⟨w.heap.size, 1, none⟩ = some (.string i) := (hb1.cell (p := ⟨w.heap.size, 1, none⟩) (by show w.heap.size < _; omega)).trans (by rw [World.cell?_alloc_past _ _ _ (by simp)]; simp [go_sem])
        have q2 : w1.cell? ⟨w.heap.size, 2, none⟩ = some (.slice ao os.length co) := (hb1.cell (p := ⟨w.heap.size, 2, none⟩) (by show w.heap.size < _; omega)).trans (by rw [World.cell?_alloc_past _ _ _ (by simp)]; simp [go_sem])
        have q3 : w1.cell? ⟨w.heap.size, 3, none⟩ = some (.int .i64 f) := (hb1.cell (p := ⟨w.heap.size, 3, none⟩) (by show w.heap.size < _; omega)).trans (by rw [World.cell?_alloc_past _ _ _ (by simp)]; simp [go_sem])
        have t1 : w1.cell? ⟨w.heap.size + 1, 1, none⟩ = some (.string i') := (hb1.cell (p := ⟨w.heap.size + 1, 1, none⟩) (by show w.heap.size + 1 < _; omega)).trans (by simp [go_sem])
        have t2 : w1.cell? ⟨w.heap.size + 1, 2, none⟩ = some (.slice ao' os'.length co') := (hb1.cell (p := ⟨w.heap.size + 1, 2, none⟩) (by show w.heap.size + 1 < _; omega)).trans (by simp [go_sem])
        have t3 : w1.cell? ⟨w.heap.size + 1, 3, none⟩ = some (.int .i64 f') := (hb1.cell (p := ⟨w.heap.size + 1, 3, none⟩) (by show w.heap.size + 1 < _; omega)).trans (by simp [go_sem])
        have hs1 : w.heap.size + 1 < w1.heap.size := by have := hb1.size; simp at this; omega
        clear hb1
        rw [h1]
        go_wp2_with fail
        refine (same_any w1 _ _ os os' O1.out O1'.out).mono ?_
        rintro e w2 ⟨rfl, n, rfl⟩
        have B2 : Hid (Below w.heap.size w (w1.drewN n)) := B1.out.trans ((drewN_below w1 n).mono B1.out.size)
        rw [h3]
        go_wp2
        go_ret
        exact ⟨by rw [HR.out]; rfl, B2.out⟩
      · have HR : Hid (decide (cs = cs' ∧ i = i' ∧ os = os' ∧ f = f') = false) := by show _ = _; simp [g3]
        have h1 : decide (cs = cs') = true := by simpa using g1
        have h2 : (i.toList == i'.toList) = true := by rw [g2]; simp
        have h3 : decide (os = os') = false := by simpa using g3
        clear g1 g2 g3
        go_enter Tryd.func15, Tryd.ntmps15
        go_wp2_with fail
        refine S1.out.mono ?_
        rintro e w1 ⟨rfl, hb1⟩
        have B1 : Hid (Below w.heap.size w w1) := HB0.out.trans (hb1.mono (by omega))
        have O1 : Hid (IsTexts w1 (.slice ao os.length co) os) := IsTexts.up HO.out (by simpa using hb1)
        have O1' : Hid (IsTexts w1 (.slice ao' os'.length co') os') := IsTexts.up HO'.out (by simpa using hb1)
        have q1 : w1.cell? ⟨w.heap.size, 1, none⟩ = some (.string i) := (hb1.cell (p := ⟨w.heap.size, 1, none⟩) (by show w.heap.size < _; omega)).trans (by rw [World.cell?_alloc_past _ _ _ (by simp)]; simp [go_sem])
        have q2 : w1.cell? ⟨w.heap.size, 2, none⟩ = some (.slice ao os.length co) := (hb1.cell (p := ⟨w.heap.size, 2, none⟩) (by show w.heap.size < _; omega)).trans (by rw [World.cell?_alloc_past _ _ _ (by simp)]; simp [go_sem])
        have q3 : w1.cell? ⟨w.heap.size, 3, none⟩ = some (.int .i64 f) := (hb1.cell (p := ⟨w.heap.size, 3, none⟩) (by show w.heap.size < _; omega)).trans (by rw [World.cell?_alloc_past _ _ _ (by simp)]; simp [go_sem])
        have t1 : w1.cell? ⟨w.heap.size + 1, 1, none⟩ = some (.string i') := (hb1.cell (p := ⟨w.heap.size + 1, 1, none⟩) (by show w.heap.size + 1 < _; omega)).trans (by simp [go_sem])
        have t2 : w1.cell? ⟨w.heap.size + 1, 2, none⟩ = some (.slice ao' os'.length co') := (hb1.cell (p := ⟨w.heap.size + 1, 2, none⟩) (by show w.heap.size + 1 < _; omega)).trans (by simp [go_sem])
        have t3 : w1.cell? ⟨w.heap.size + 1, 3, none⟩ = some (.int .i64 f') := (hb1.cell (p := ⟨w.heap.size + 1, 3, none⟩) (by show w.heap.size + 1 < _; omega)).trans (by simp [go_sem])
        have hs1 : w.heap.size + 1 < w1.heap.size := by have := hb1.size; simp at this; omega
        clear hb1
        rw [h1]
        go_wp2_with fail
        refine (same_any w1 _ _ os os' O1.out O1'.out).mono ?_
        rintro e w2 ⟨rfl, n, rfl⟩
        have B2 : Hid (Below w.heap.size w (w1.drewN n)) := B1.out.trans ((drewN_below w1 n).mono B1.out.size)
        rw [h3]
        go_wp2
        go_ret
        exact ⟨by rw [HR.out]; rfl, B2.out⟩
    · have HR : Hid (decide (cs = cs' ∧ i = i' ∧ os = os' ∧ f = f') = false) := by show _ = _; simp [g2]
      have h1 : decide (cs = cs') = true := by simpa using g1
      have h2 : (i.toList == i'.toList) = false := by
        rw [beq_eq_false_iff_ne, Lib.toList_data, Lib.toList_data]
        intro h
        exact g2 (by rw [bytes_eq (s := i) rfl, bytes_eq (s := i') rfl, h])
      clear g1 g2
      go_enter Tryd.func15, Tryd.ntmps15
      go_wp2_with fail
      refine S1.out.mono ?_
      rintro e w1 ⟨rfl, hb1⟩
      have B1 : Hid (Below w.heap.size w w1) := HB0.out.trans (hb1.mono (by omega))
      have O1 : Hid (IsTexts w1 (.slice ao os.length co) os) := IsTexts.up HO.out (by simpa using hb1)
      have O1' : Hid (IsTexts w1 (.slice ao' os'.length co') os') := IsTexts.up HO'.out (by simpa using hb1)
      have q1 : w1.cell? ⟨w.heap.size, 1, none⟩ = some (.string i) := (hb1.cell (p := ⟨w.heap.size, 1, none⟩) (by show w.heap.size < _; omega)).trans (by rw [World.cell?_alloc_past _ _ _ (by simp)]; simp [go_sem])
      have q2 : w1.cell? ⟨w.heap.size, 2, none⟩ = some (.slice ao os.length co) := (hb1.cell (p := ⟨w.heap.size, 2, none⟩) (by show w.heap.size < _; omega)).trans (by rw [World.cell?_alloc_past _ _ _ (by simp)]; simp [go_sem])
      have q3 : w1.cell? ⟨w.heap.size, 3, none⟩ = some (.int .i64 f) := (hb1.cell (p := ⟨w.heap.size, 3, none⟩) (by show w.heap.size < _; omega)).trans (by rw [World.cell?_alloc_past _ _ _ (by simp)]; simp [go_sem])
      have t1 : w1.cell? ⟨w.heap.size + 1, 1, none⟩ = some (.string i') := (hb1.cell (p := ⟨w.heap.size + 1, 1, none⟩) (by show w.heap.size + 1 < _; omega)).trans (by simp [go_sem])
      have t2 : w1.cell? ⟨w.heap.size + 1, 2, none⟩ = some (.slice ao' os'.length co') := (hb1.cell (p := ⟨w.heap.size + 1, 2, none⟩) (by show w.heap.size + 1 < _; omega)).trans (by simp [go_sem])
      have t3 : w1.cell? ⟨w.heap.size + 1, 3, none⟩ = some (.int .i64 f') := (hb1.cell (p := ⟨w.heap.size + 1, 3, none⟩) (by show w.heap.size + 1 < _; omega)).trans (by simp [go_sem])
      have hs1 : w.heap.size + 1 < w1.heap.size := by have := hb1.size; simp at this; omega
      clear hb1
      rw [h1]
      go_wp2
      go_ret
      exact ⟨by rw [HR.out]; rfl, B1.out⟩
  · have HR : Hid (decide (cs = cs' ∧ i = i' ∧ os = os' ∧ f = f') = false) := by show _ = _; simp [g1]
    have h1 : decide (cs = cs') = false := by simpa using g1
    clear g1
    go_enter Tryd.func15, Tryd.ntmps15
    go_wp2_with fail
    refine S1.out.mono ?_
    rintro e w1 ⟨rfl, hb1⟩
    have B1 : Hid (Below w.heap.size w w1) := HB0.out.trans (hb1.mono (by omega))
    clear hb1
    rw [h1]
    go_wp2
    go_ret
    exact ⟨by rw [HR.out]; rfl, B1.out⟩
end Go.Proofs.YtmjemnmcndajpaaDoor
