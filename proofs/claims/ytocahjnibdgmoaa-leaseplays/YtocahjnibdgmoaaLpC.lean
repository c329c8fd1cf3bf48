/- LeasePlays, walked. -/
import Derived.Test.YtocahjnibdgmoaaLpZ
import Derived.Test.YtocahjnibdgmoaaLeArC
namespace Go.Proofs.Ytocahjnibdgmoaa
open Go.RowKit Go.Shelf Go.Sort

theorem BA.up2 {w0 w w' : World} {Bk : Nat} {a b c nw : Int} {P : List Pj} (h : BA w0 Bk a b c nw P w) (hb : Below w.heap.size w w') : BA w0 Bk a b c nw P w' := by
  obtain ⟨I, h1, h2⟩ := h
  exact ⟨I, h1.up hb, h2.trans (hb.mono h2.size)⟩

set_option maxHeartbeats 8000000 in
set_option maxRecDepth 100000 in
theorem plays_no (a b c : Int) (ao : Option Addr) (cap n : Nat) (w : World) (h : ¬ termsOk a b c) :
    Calls Try.prog 3 #[.agg #[.int .i64 a, .int .i64 b, .int .i64 c], .slice ao n cap] w fun e w' => e = .returned (.bool true) ∧ Below w.heap.size w w' := by
  obtain ⟨w0, hw0⟩ : ∃ w0, w0 = wT w a b c := ⟨_, rfl⟩
  have HBg : Hid (Calls Try.prog 6 #[] (wT w a b c) fun e w' => e = .returned (.bool true) ∧ Hid (Below w0.heap.size w0 w')) := by rw [hw0]; exact lbegun _
  have HC : Hid (∀ W, Below w0.heap.size w0 W → W.cell? ⟨w.heap.size, 0, none⟩ = some (.int .i64 a) ∧ W.cell? ⟨w.heap.size, 1, none⟩ = some (.int .i64 b) ∧ W.cell? ⟨w.heap.size, 2, none⟩ = some (.int .i64 c)) := fun W hb => wT_cells (by rw [← hw0]; exact hb)
  have HE : Hid (∀ W, Below w0.heap.size w0 W → Below w.heap.size w W) := fun W hb => wT_bel (a := a) (b := b) (c := c) (by rw [← hw0]; exact hb)
  have HN : Hid (∀ W, Hid (Below w0.heap.size w0 W) → Calls Try.prog 7 #[.agg #[.int .i64 a, .int .i64 b, .int .i64 c]] W fun e w' => e = .returned (.tuple #[.pointer none, .int .i64 3]) ∧ Hid (Below w0.heap.size w0 w')) := fun W hW => by
    refine (LNew_no a b c W h).mono ?_
    rintro e w' ⟨rfl, r1⟩
    exact ⟨rfl, hW.out.trans (r1.mono hW.out.size)⟩
  have HR : Hid (∀ W, Hid (Below w0.heap.size w0 W) → Calls Try.prog 8 #[.agg #[.int .i64 a, .int .i64 b, .int .i64 c]] W fun e w' => e = .returned (.bool false) ∧ Hid (Below w0.heap.size w0 w')) := fun W hW => by
    refine (right_any a b c W).mono ?_
    rintro e w' ⟨r, rfl, r0, r1⟩
    have hr : r = false := by
      cases r with
      | false => rfl
      | true => exact absurd (r0.1 rfl) h
    subst hr
    exact ⟨rfl, hW.out.trans (r1.mono hW.out.size)⟩
  clear h hw0
  go_enter Try.func3, Try.ntmps3
  go_wp2_with (first
    | (go_at_call 6; refine HBg.out.mono ?_; rintro e w1 ⟨rfl, R1⟩; obtain ⟨c0, c1, c2⟩ := HC.out _ R1.out)
    | (go_at_call 7; refine (HN.out _ R1).mono ?_; rintro e w2 ⟨rfl, R2⟩; obtain ⟨d0, d1, d2⟩ := HC.out _ R2.out)
    | (go_at_call 8; refine (HR.out _ R2).mono ?_; rintro e w3 ⟨rfl, R3⟩)
    | go_in)
  go_ret
  exact ⟨rfl, HE.out _ R3.out⟩

set_option maxHeartbeats 8000000 in
set_option maxRecDepth 100000 in
theorem plays_yes (a b c : Nat) (ao : Option Addr) (cap : Nat) (l : List (Int × Int × Int × ByteArray × Bool)) (w : World) (h : termsOk a b c) (hl : CallsIn w ao l) :
    Calls Try.prog 3 #[.agg #[.int .i64 a, .int .i64 b, .int .i64 c], .slice ao l.length cap] w fun e w' => e = .returned (.bool true) ∧ Below w.heap.size w w' := by
  obtain ⟨w0, hw0⟩ : ∃ w0, w0 = wT w a b c := ⟨_, rfl⟩
  have HBg : Hid (Calls Try.prog 6 #[] (wT w a b c) fun e w' => e = .returned (.bool true) ∧ Hid (Below w0.heap.size w0 w')) := by rw [hw0]; exact lbegun _
  have HC : Hid (∀ W, Below w0.heap.size w0 W → W.cell? ⟨w.heap.size, 0, none⟩ = some (.int .i64 a) ∧ W.cell? ⟨w.heap.size, 1, none⟩ = some (.int .i64 b) ∧ W.cell? ⟨w.heap.size, 2, none⟩ = some (.int .i64 c)) := fun W hb => wT_cells (by rw [← hw0]; exact hb)
  have HE : Hid (∀ W, Below w0.heap.size w0 W → Below w.heap.size w W) := fun W hb => wT_bel (a := a) (b := b) (c := c) (by rw [← hw0]; exact hb)
  have HZ : Hid (w.heap.size < w0.heap.size) := by unfold Hid; rw [hw0]; unfold wT; rw [World.size_alloc]; omega
  have HN : Hid (∀ W, Hid (Below w0.heap.size w0 W) → Calls Try.prog 7 #[.agg #[.int .i64 a, .int .i64 b, .int .i64 c]] W fun e w' => ∃ Bk, e = .returned (.tuple #[.pointer (some ⟨Bk, 0, none⟩), .int .i64 0]) ∧ Hid (BA w0 Bk a b c 0 [] w')) := fun W hb => BA.new h hb.out
  have HR : Hid (∀ W Bk, Hid (BA w0 Bk a b c 0 [] W) → Calls Try.prog 8 #[.agg #[.int .i64 a, .int .i64 b, .int .i64 c]] W fun e w' => e = .returned (.bool true) ∧ Hid (BA w0 Bk a b c 0 [] w')) := fun W Bk hW => by
    refine (right_any a b c W).mono ?_
    rintro e w' ⟨r, rfl, r0, r1⟩
    have hr : r = true := r0.2 h
    subst hr
    exact ⟨rfl, hW.out.up2 r1⟩
  have HL : Hid (CallsIn w ao l) := hl
  obtain ⟨n, hn⟩ : ∃ n, n = l.length := ⟨_, rfl⟩
  have HNn : Hid (n = l.length) := hn
  rw [← hn]
  clear hl hw0 h hn
  go_enter Try.func3, Try.ntmps3
  go_wp2_with (first
    | (go_at_call 6; refine HBg.out.mono ?_; rintro e w1 ⟨rfl, R1⟩; obtain ⟨c0, c1, c2⟩ := HC.out _ R1.out)
    | (go_at_call 7; refine (HN.out _ R1).mono ?_; rintro e w2 ⟨Bk, rfl, R2⟩; obtain ⟨d0, d1, d2⟩ := HC.out _ (let ⟨_, _, hb⟩ := R2.out; hb))
    | (go_at_call 8; refine (HR.out _ _ R2).mono ?_; rintro e w3 ⟨rfl, R3⟩; obtain ⟨e0, e1, e2⟩ := HC.out _ (let ⟨_, _, hb⟩ := R3.out; hb))
    | go_in)
  have H3 : Hid (PP w0 Bk w3.heap.size a b c (w3.alloc (.cells #[.int .i64 a, .int .i64 b, .int .i64 c, .int .i64 0, .slice none 0 0, .slice none 0 0, .slice none 0 0, .slice none 0 0] 36))) := ⟨0, [], LP.start R3.out⟩
  clear c0 c1 c2 d0 d1 d2 e0 e1 e2 HBg HN HR R1 R2 R3
  generalize w3.alloc (.cells #[.int .i64 a, .int .i64 b, .int .i64 c, .int .i64 0, .slice none 0 0, .slice none 0 0, .slice none 0 0, .slice none 0 0] 36) = w4 at *
  generalize w3.heap.size = R at *
  go_loopw [8] (fun i wr => ∃ k : Nat, k ≤ n ∧ i = .int .i64 (k : Int) ∧ k ≤ 250 ∧ Hid (PP w0 Bk R a b c wr)) (fun i _ => n - (RowKit.intOf i).toNat)
  case atStart => exact ⟨0, Nat.zero_le _, rfl, by omega, H3⟩
  case round =>
    obtain ⟨k, hk, rfl, hk2, HI⟩ := hrel
    clear H3
    by_cases hkl : k < n ∧ k < 250
    · have j1 : (k : Int) < (n : Int) := by omega
      have j2 : (k : Int) < 250 := by omega
      have hkl2 : k < l.length := by have := HNn.out; omega
      obtain ⟨g, o, rfl, hg, hcell⟩ := HL.out.at_ (by intro e; rw [e] at hkl2; cases hkl2)
      obtain ⟨h1, h2, h3, h4, h5⟩ := hcell k hkl2
      obtain ⟨nw, P, hLP⟩ := HI.out
      have hbl := hLP.bel
      have hold : ∀ (x : Nat), wr.cell? ⟨g, x, none⟩ = w.cell? ⟨g, x, none⟩ := fun x => (HE.out _ hbl).cell (p := ⟨g, x, none⟩) hg
      have a0 := (hold _).trans h1
      have a1 := (hold _).trans h2
      have a2 := (hold _).trans h3
      have a3 := (hold _).trans h4
      have a4 := (hold _).trans h5
      have hsz : (l[k]).2.2.2.1.size ≤ maxLen := HL.out.sz _ (List.getElem_mem hkl2)
      have hkd := HL.out.kd _ (List.getElem_mem hkl2)
      clear h1 h2 h3 h4 h5 hold hcell HI
      generalize l[k] = mv at *
      obtain ⟨kd, wk, dn, s, gd⟩ := mv
      simp only at a0 a1 a2 a3 a4 hsz hkd
      have hb3 : Below wr.heap.size wr (wr.alloc (.cells #[.int .i64 kd, .int .i64 wk, .int .i64 dn, .string s, .bool gd] 38)) := (Below.refl _ wr).alloc (Nat.le_refl _) _
      have hL3 : LP w0 Bk R a b c nw P nw P [(wr.heap.size, CallX kd wk dn s gd)] (wr.alloc (.cells #[.int .i64 kd, .int .i64 wk, .int .i64 dn, .string s, .bool gd] 38)) := hLP.more hb3 (heap_alloc_new wr _) (Nat.le_refl _)
      obtain ⟨W3, hW3⟩ : ∃ W3, W3 = wr.alloc (.cells #[.int .i64 kd, .int .i64 wk, .int .i64 dn, .string s, .bool gd] 38) := ⟨_, rfl⟩
      rw [← hW3] at hL3
      have HX : Hid (LP w0 Bk R a b c nw P nw P [(wr.heap.size, CallX kd wk dn s gd)] W3 ∧ s.size ≤ maxLen ∧ (-9223372036854775808 ≤ kd ∧ kd ≤ 9223372036854775807) ∧ (Lit.int .i64 wk).wf = true) := ⟨hL3, hsz, hkd.1, wf_small hkd.2.1.1 hkd.2.1.2⟩
      have n3 := hL3.now
      have m2 : W3.cell? ⟨wr.heap.size, 2, none⟩ = some (.int .i64 dn) := Lib.cell_of_heap (hL3.blk List.mem_cons_self) 2
      have htn := hL3.pi.tn
      obtain ⟨k1, hk1e⟩ : ∃ k1, k1 = k + 1 := ⟨_, rfl⟩
      have z1 : (k : Int) + 1 = (k1 : Int) := by omega
      have z2 : IntKind.i64.wrap (k1 : Int) = (k1 : Int) := by rw [IntKind.wrap_i64]; omega
      have HK1 : Hid (k1 = k + 1 ∧ k < n ∧ k < 250) := ⟨hk1e, hkl⟩
      obtain ⟨YZ, hYZ⟩ : ∃ YZ, YZ = (sub [true, true, true, true, true, true, false, true, false, false, true, false, false, true, true, true] (Try.f3.body.getD .skip)) := ⟨_, rfl⟩
      have HYZ : Hid (YZ = (sub [true, true, true, true, true, true, false, true, false, false, true, false, false, true, true, true] (Try.f3.body.getD .skip))) := hYZ
      have hlit : (sub [true, true, true, true, true, true, false, true, false, false, true, false, false, true, true, true] (Try.f3.body.getD .skip)) = YZ := hYZ.symm
      conv at hlit => lhs; whnf
      rw [hlit]
      have hnr : (dn ≤ 2000000000 ∧ -2000000000 ≤ dn) ∨ (dn ≤ 2000000000 ∧ ¬ -2000000000 ≤ dn) ∨ ¬ dn ≤ 2000000000 := by omega
      clear hlit hYZ hLP hb3 hL3 hbl hg hkl hkl2 hk hk2 hsz hkd hk1e
      rcases hnr with ⟨r1, r2⟩ | ⟨r1, r2⟩ | r1
      · obtain ⟨t2, ht2⟩ : ∃ t2, t2 = nw + dn := ⟨_, rfl⟩
        have y1 : nw + dn = t2 := ht2.symm
        have y2 : IntKind.i64.wrap t2 = t2 := by rw [IntKind.wrap_i64]; omega
        clear ht2 htn
        go_wp2
        rw [← hW3]
        clear hW3 a0 a1 a2 a3 a4
        go_quiet (fail)
        go_wp2
        rw [HYZ.out]
        refine turnL _ _ _ _ _ _ _ _ _ _ _ _ _ _ _ _ _ _ _ _ _ _ _ _ _ _ _ _ _ _ _ _ _ _ _ _ _ _ _ _ _ _ _ _ _ _ _ _ _ _ _ _ _ _ _ _ _ _ _ _ _ _ _ _ _ _ _ _ _ _ _ _ _ _ _ _ _ _ _ _ _ _ _ _ _ _ _ _ _ _ _ _ _ _ _ _ _ _ _ _ _ _ _ _ _ _ _ _ _ _ _ _ _ _ _ _ _ _ _ _ _ _ _ _ _ _ _ _ _ _ _ _ _ _ _ _ _ _ _ _ _ _ _ _ _ _ _ _ _ _ _ _ _ _ _ _ _ _ _ _ _ _ _ _ _ _ _ _ _ _ _ _ _ _ _ _ _ _ _ _ _ _ _ _ _ _ _ _ _ _ _ _ _ _ _ _ _ _ _ _ _ _ _ _ _ _ _ _ _ _ _ _ _ _ _ _ _ _ _ _ _ _ _ _ _ _ _ _ _ _ _ _ _ (W3.drewN nq) t2 (HX.out.1.drewN nq) HX.out.2.1 HX.out.2.2.1.1 HX.out.2.2.1.2 HX.out.2.2.2 _ ?_
        intro u4 u11 u12 u13 u14 u15 u16 u17 u18 u19 u20 u77 u78 u79 u80 u81 u82 u83 u84 u85 u86 u87 u88 u89 u90 u91 u92 u93 u94 u95 u96 u97 u98 u99 u100 u101 u102 u103 u104 u105 u106 u107 u108 u109 u110 u111 u112 u113 u114 u115 u116 u117 u118 u119 u120 u121 u122 u123 u124 u125 u126 u127 u128 u129 u130 u131 u132 u133 u134 u135 u136 u137 u138 u139 u140 u141 u142 u143 u144 u145 u146 u147 u148 u149 u150 u151 u152 u153 u154 u155 u156 u157 u158 u159 u160 u161 u162 u163 u164 u165 u166 u167 u168 u169 u170 u171 u172 u173 u174 u175 u176 u177 u178 u179 u180 u181 u182 u183 u184 u185 u186 u187 u188 u189 u190 u191 u192 u193 u194 u195 u196 u197 u198 u199 u200 u201 u202 u203 u204 u205 u206 u207 u208 u209 u210 u211 u212 u213 u214 u215 u216 u217 u218 u219 u220 u221 u222 u223 u224 u225 u226 u227 u228 u229 u230 u231 u232 u233 u234 u235 u236 w6 h6
        go_wp2
        go_roundw
        case rel => exact ⟨k1, by have := HK1.out; omega, rfl, by have := HK1.out; omega, h6⟩
        case measure => have := HK1.out; simp [RowKit.intOf]; omega
      · clear htn
        go_wp2
        rw [← hW3, HYZ.out]
        refine turnL _ _ _ _ _ _ _ _ _ _ _ _ _ _ _ _ _ _ _ _ _ _ _ _ _ _ _ _ _ _ _ _ _ _ _ _ _ _ _ _ _ _ _ _ _ _ _ _ _ _ _ _ _ _ _ _ _ _ _ _ _ _ _ _ _ _ _ _ _ _ _ _ _ _ _ _ _ _ _ _ _ _ _ _ _ _ _ _ _ _ _ _ _ _ _ _ _ _ _ _ _ _ _ _ _ _ _ _ _ _ _ _ _ _ _ _ _ _ _ _ _ _ _ _ _ _ _ _ _ _ _ _ _ _ _ _ _ _ _ _ _ _ _ _ _ _ _ _ _ _ _ _ _ _ _ _ _ _ _ _ _ _ _ _ _ _ _ _ _ _ _ _ _ _ _ _ _ _ _ _ _ _ _ _ _ _ _ _ _ _ _ _ _ _ _ _ _ _ _ _ _ _ _ _ _ _ _ _ _ _ _ _ _ _ _ _ _ _ _ _ _ _ _ _ _ _ _ _ _ _ _ _ _ W3 dn HX.out.1 HX.out.2.1 HX.out.2.2.1.1 HX.out.2.2.1.2 HX.out.2.2.2 _ ?_
        intro u4 u11 u12 u13 u14 u15 u16 u17 u18 u19 u20 u77 u78 u79 u80 u81 u82 u83 u84 u85 u86 u87 u88 u89 u90 u91 u92 u93 u94 u95 u96 u97 u98 u99 u100 u101 u102 u103 u104 u105 u106 u107 u108 u109 u110 u111 u112 u113 u114 u115 u116 u117 u118 u119 u120 u121 u122 u123 u124 u125 u126 u127 u128 u129 u130 u131 u132 u133 u134 u135 u136 u137 u138 u139 u140 u141 u142 u143 u144 u145 u146 u147 u148 u149 u150 u151 u152 u153 u154 u155 u156 u157 u158 u159 u160 u161 u162 u163 u164 u165 u166 u167 u168 u169 u170 u171 u172 u173 u174 u175 u176 u177 u178 u179 u180 u181 u182 u183 u184 u185 u186 u187 u188 u189 u190 u191 u192 u193 u194 u195 u196 u197 u198 u199 u200 u201 u202 u203 u204 u205 u206 u207 u208 u209 u210 u211 u212 u213 u214 u215 u216 u217 u218 u219 u220 u221 u222 u223 u224 u225 u226 u227 u228 u229 u230 u231 u232 u233 u234 u235 u236 w6 h6
        go_wp2
        go_roundw
        case rel => exact ⟨k1, by have := HK1.out; omega, rfl, by have := HK1.out; omega, h6⟩
        case measure => have := HK1.out; simp [RowKit.intOf]; omega
      · clear htn
        go_wp2
        rw [← hW3, HYZ.out]
        refine turnL _ _ _ _ _ _ _ _ _ _ _ _ _ _ _ _ _ _ _ _ _ _ _ _ _ _ _ _ _ _ _ _ _ _ _ _ _ _ _ _ _ _ _ _ _ _ _ _ _ _ _ _ _ _ _ _ _ _ _ _ _ _ _ _ _ _ _ _ _ _ _ _ _ _ _ _ _ _ _ _ _ _ _ _ _ _ _ _ _ _ _ _ _ _ _ _ _ _ _ _ _ _ _ _ _ _ _ _ _ _ _ _ _ _ _ _ _ _ _ _ _ _ _ _ _ _ _ _ _ _ _ _ _ _ _ _ _ _ _ _ _ _ _ _ _ _ _ _ _ _ _ _ _ _ _ _ _ _ _ _ _ _ _ _ _ _ _ _ _ _ _ _ _ _ _ _ _ _ _ _ _ _ _ _ _ _ _ _ _ _ _ _ _ _ _ _ _ _ _ _ _ _ _ _ _ _ _ _ _ _ _ _ _ _ _ _ _ _ _ _ _ _ _ _ _ _ _ _ _ _ _ _ _ W3 dn HX.out.1 HX.out.2.1 HX.out.2.2.1.1 HX.out.2.2.1.2 HX.out.2.2.2 _ ?_
        intro u4 u11 u12 u13 u14 u15 u16 u17 u18 u19 u20 u77 u78 u79 u80 u81 u82 u83 u84 u85 u86 u87 u88 u89 u90 u91 u92 u93 u94 u95 u96 u97 u98 u99 u100 u101 u102 u103 u104 u105 u106 u107 u108 u109 u110 u111 u112 u113 u114 u115 u116 u117 u118 u119 u120 u121 u122 u123 u124 u125 u126 u127 u128 u129 u130 u131 u132 u133 u134 u135 u136 u137 u138 u139 u140 u141 u142 u143 u144 u145 u146 u147 u148 u149 u150 u151 u152 u153 u154 u155 u156 u157 u158 u159 u160 u161 u162 u163 u164 u165 u166 u167 u168 u169 u170 u171 u172 u173 u174 u175 u176 u177 u178 u179 u180 u181 u182 u183 u184 u185 u186 u187 u188 u189 u190 u191 u192 u193 u194 u195 u196 u197 u198 u199 u200 u201 u202 u203 u204 u205 u206 u207 u208 u209 u210 u211 u212 u213 u214 u215 u216 u217 u218 u219 u220 u221 u222 u223 u224 u225 u226 u227 u228 u229 u230 u231 u232 u233 u234 u235 u236 w6 h6
        go_wp2
        go_roundw
        case rel => exact ⟨k1, by have := HK1.out; omega, rfl, by have := HK1.out; omega, h6⟩
        case measure => have := HK1.out; simp [RowKit.intOf]; omega
    · have k2 : ¬ ((k : Int) < (n : Int) ∧ (k : Int) < 250) := by omega
      obtain ⟨nw, P, hLP⟩ := HI.out
      have HF : Hid (Below w.heap.size w wr) := HE.out _ hLP.bel
      clear hLP HI
      by_cases h1 : k < n
      · have j1 : (k : Int) < (n : Int) := by omega
        have j2 : ¬ (k : Int) < 250 := by omega
        clear k2 hk hk2 hkl h1
        go_wp2
        go_ret
        exact ⟨rfl, HF.out⟩
      · have j1 : ¬ (k : Int) < (n : Int) := by omega
        clear k2 hk hk2 hkl h1
        go_wp2
        go_ret
        exact ⟨rfl, HF.out⟩
end Go.Proofs.Ytocahjnibdgmoaa
