/- CasPlays, walked. -/
import Derived.Test.YtoceglbdnbnjpaaDoorCpIM
namespace Go.Proofs.YtoceglbdnbnjpaaDoor
open Go.RowKit Go.Shelf Go.Sort

/-- The texts that are put. -/
def putL (L : List Dd) : List ByteArray := (L.filter fun t => decide (chs t.kd 6 = 0)).map Dd.tx
theorem putL_len (L : List Dd) : (putL L).length ≤ L.length := by
  unfold putL
  rw [List.length_map]
  exact List.length_filter_le _ _
theorem putL_snoc (L : List Dd) (t : Dd) : putL (L ++ [t]) = putL L ++ (if chs t.kd 6 = 0 then [t.tx] else []) := by
  unfold putL
  rw [List.filter_append, List.map_append]
  congr 1
  by_cases h : chs t.kd 6 = 0
  · rw [if_pos h, List.filter_cons_of_pos (by simpa using h)]
    rfl
  · rw [if_neg h, List.filter_cons_of_neg (by simpa using h)]
    rfl
theorem putL_mem {L : List Dd} {s : ByteArray} (h : s ∈ putL L) : ∃ t ∈ L, t.tx = s := by
  obtain ⟨t, ht, e⟩ := List.mem_map.1 h
  exact ⟨t, (List.mem_filter.1 ht).1, e⟩
/-- Both, at the beginning. -/
theorem KB.start {P M rm : Nat} {I : List Nat} {w1 w2 : World} (h : CS w1.heap.size P M rm 0 [] I w2) (hb : Below w1.heap.size w1 w2) : KB w1.heap.size P M w2.heap.size rm 0 [] (prs []) (w2.alloc (.cells #[.int .i64 (rm : Int), .slice none 0 0, .slice none 0 0] 33)) := by
  have hbl : Below w2.heap.size w2 (w2.alloc (.cells #[.int .i64 (rm : Int), .slice none 0 0, .slice none 0 0] 33)) := (Below.refl _ w2).alloc (Nat.le_refl _) _
  refine ⟨0, I, .slice none 0 0, .slice none 0 0, h.up hbl, ⟨hb.size, heap_alloc_new w2 _, fun r hr => ?_, ?_⟩, fun g hg hi => ?_, Nat.le_refl _, (fun e he => by cases he), (fun e he => by cases he), Nat.le_trans hb.size hbl.size⟩
  · simp only [krs, List.mem_cons, List.not_mem_nil, or_false] at hr
    rcases hr with rfl | rfl
    · exact .inl (World.ownsRow_nil _ _ _ _)
    · exact .inl (World.ownsRow_nil _ _ _ _)
  · simp [rid, krs, ob, Value.ownBlock]
  · have : g = w2.heap.size := by simpa [rid, krs, ob, Value.ownBlock] using hg
    have := (h.lt g hi).2
    omega
theorem clash_put {B gb : Nat} {v : Value} {ss : List ByteArray} {w : World} (h : w.ownsRow B 9 1 v ss.length (scs ss)) (hn : ss.length ≤ 1000) (hs : ∀ s ∈ ss, s.size ≤ 1048576) (hg : gb = w.heap.size) :
    Calls Tryd.prog 10 #[.slice (some ⟨gb, 0, none⟩) 1 1] (w.alloc (.cells #[v] 30)) fun e w' => ∃ b, e = .returned (.bool b) ∧ Below w.heap.size w w' := by
  subst hg
  have hb : Below w.heap.size w (w.alloc (.cells #[v] 30)) := (Below.refl _ w).alloc (Nat.le_refl _) _
  have hT : Tx w v ss := tx_own (by omega) h
  refine (Clash_any w.heap.size 0 1 [ss] _ (by simp) (by simp; omega) (fun l hl s hsl => ?_) (fun j hj => ?_)).mono ?_
  · rw [List.mem_singleton] at hl
    subst hl
    have := hs s hsl
    omega
  · have : j = 0 := by simp at hj; omega
    subst this
    exact ⟨v, by rw [Lib.cell_of_heap (heap_alloc_new w _)]; rfl, hT.up hb⟩
  · rintro e w' ⟨b, rfl, _, q⟩
    exact ⟨b, rfl, bl_tr hb q⟩

set_option maxHeartbeats 8000000 in
set_option maxRecDepth 100000 in
theorem plays_out (r : Int) (v : Value) (w : World) (hr : r < 0 ∨ 9007199254740991 < r) (hR : Roots w) :
    Calls Tryd.prog 3 #[.int .i64 r, v] w fun e w' => e = .returned (.bool true) ∧ Below w.heap.size w w' := by
  have HB : Hid (Calls Tryd.prog 6 #[] w fun e w' => e = .returned (.bool true) ∧ Below w.heap.size w w') := casBegun_any w hR
  have HN : Hid (∀ W, Calls Tryd.prog 7 #[.int .i64 r] W fun e w' => e = .returned (.tuple #[.pointer none, .int .i64 3]) ∧ w' = W) := fun W => New_no r W hr
  have HM : Hid (∀ W, Calls Tryd.prog 8 #[.int .i64 r] W fun e w' => e = .returned (.bool false) ∧ w' = W) := fun W => by
    have := RIsNumber_any r W
    rwa [decide_eq_false (by omega)] at this
  clear hr hR
  go_enter Tryd.func3, Tryd.ntmps3
  go_wp2_with (first
    | (go_at_call 6; refine HB.out.mono ?_; rintro e w1 ⟨rfl, hb1⟩)
    | (go_at_call 7; refine (HN.out _).mono ?_; rintro e w2 ⟨rfl, hw2⟩; subst w2)
    | (go_at_call 8; refine (HM.out _).mono ?_; rintro e w3 ⟨rfl, hw3⟩; subst w3)
    | go_in)
  go_ret
  exact ⟨rfl, hb1⟩

set_option maxHeartbeats 8000000 in
set_option maxRecDepth 100000 in
theorem plays_in (rm : Nat) (ao : Option Addr) (cap : Nat) (L : List Dd) (w : World) (hr : rm ≤ 9007199254740991) (h : DdIn w ao L) (hR : Roots w) :
    Calls Tryd.prog 3 #[.int .i64 (rm : Int), .slice ao L.length cap] w fun e w' => e = .returned (.bool true) ∧ Below w.heap.size w w' := by
  have HB : Hid (Calls Tryd.prog 6 #[] w fun e w' => e = .returned (.bool true) ∧ Below w.heap.size w w') := casBegun_any w hR
  have HN : Hid (∀ W, Calls Tryd.prog 7 #[.int .i64 (rm : Int)] W (NwP rm W)) := fun W => New_yes rm W hr
  have HM : Hid (∀ W, Calls Tryd.prog 8 #[.int .i64 (rm : Int)] W fun e w' => e = .returned (.bool true) ∧ w' = W) := fun W => by
    have := RIsNumber_any (rm : Int) W
    rwa [decide_eq_true (by omega)] at this
  have hpn : ∀ (P : Nat) (W : World), (binOp BinOp.eql 24 (kp P) (.pointer none)).run Tryd.prog W = .ok (.bool false) W := fun P W => by kernel_rfl
  have HL : Hid (DdIn w ao L) := h
  have HR : Hid (Roots w) := hR
  obtain ⟨n, en⟩ : ∃ n, n = L.length := ⟨_, rfl⟩
  have HNn : Hid (n = L.length) := en
  have hn1 : n ≤ 1048576 := by have := h.len; omega
  rw [← en]
  clear h hR hr en
  go_enter Tryd.func3, Tryd.ntmps3
  obtain ⟨TL, hTL⟩ : ∃ TL, TL = (subC [true, true, true, true, true, true, true, true, true, false] (Tryd.f3.body.getD .skip)) := ⟨_, rfl⟩
  have HTL : Hid (TL = (subC [true, true, true, true, true, true, true, true, true, false] (Tryd.f3.body.getD .skip))) := hTL
  have hlit : (subC [true, true, true, true, true, true, true, true, true, false] (Tryd.f3.body.getD .skip)) = TL := hTL.symm
  conv at hlit => lhs; whnf
  rw [hlit]
  clear hlit hTL
  go_wp2_with fail
  refine HB.out.mono ?_
  rintro e w1 ⟨rfl, hb1⟩
  have HB1 : Hid (Below w.heap.size w w1) := hb1
  clear hb1
  go_wp2_with fail
  refine (HN.out _).mono ?_
  rintro e w2 ⟨P, M, I, rfl, hc2, hb2⟩
  have HB2 : Hid (Below w1.heap.size w1 w2) := hb2
  have HK3 : Hid (KB w1.heap.size P M w2.heap.size rm 0 [] (prs []) (w2.alloc (.cells #[.int .i64 (rm : Int), .slice none 0 0, .slice none 0 0] 33))) := KB.start hc2 hb2
  have HB3 : Hid (Below w.heap.size w (w2.alloc (.cells #[.int .i64 (rm : Int), .slice none 0 0, .slice none 0 0] 33))) := (HB1.out.trans (hb2.mono HB1.out.size)).alloc (Nat.le_trans HB1.out.size hb2.size) _
  clear hc2 hb2
  go_wp2_with (first
    | (go_at_call 8; refine (HM.out _).mono ?_; rintro e w3 ⟨rfl, hw3⟩; subst w3)
    | fail)
  generalize w2.alloc (.cells #[.int .i64 (rm : Int), .slice none 0 0, .slice none 0 0] 33) = w3 at *
  generalize w2.heap.size = R at *
  clear HB HN HM hpn HB2
  obtain ⟨i0, hi0, hz0, hz1, hz2⟩ := inf_parts infS1
  have HCl : Hid (∀ (W : World), Below w.heap.size w W → ∀ k, k < n → ∃ g o, ao = some ⟨g, o, none⟩ ∧ ∃ hk : k < L.length, Dcl g (o + k * 4) (L[k]) W) := fun W hW k hk => by
    have hkl : k < L.length := by have := HNn.out; omega
    rcases HL.out.at_ with e | ⟨g, o, e, hg, hc⟩
    · rw [e] at hkl; cases hkl
    · obtain ⟨h1, h2, h3, h4⟩ := hc k hkl
      exact ⟨g, o, e, hkl, (hW.cell (p := ⟨g, _, none⟩) hg).trans h1, (hW.cell (p := ⟨g, _, none⟩) hg).trans h2, (hW.cell (p := ⟨g, _, none⟩) hg).trans h3, (hW.cell (p := ⟨g, _, none⟩) hg).trans h4⟩
  go_loopw [8, 9] (fun u i wr => ∃ k : Nat, k ≤ n ∧ k ≤ 40 ∧ i = .int .i64 (k : Int) ∧ Hid (wr.ownsRow w3.heap.size 9 1 u (putL (L.take k)).length (scs (putL (L.take k)))) ∧ Hid (Below w3.heap.size w3 wr)) (fun _ i _ => n - (RowKit.intOf i).toNat)
  case atStart => exact ⟨0, Nat.zero_le _, by omega, rfl, World.ownsRow_nil _ _ _ _, Below.refl _ _⟩
  case round =>
    obtain ⟨k, hk, hk4, rfl, HO, HB⟩ := hrel
    obtain ⟨aa, ca, hv⟩ := row_shape HO.out
    subst hv
    by_cases hkl : k < n ∧ k < 40
    · have j1 : (k : Int) < (n : Int) := by omega
      have j2 : (k : Int) < 40 := by omega
      obtain ⟨g, o, hao, hkL, hcl⟩ := HCl.out wr (HB3.out.trans (HB.out.mono HB3.out.size)) k hkl.1
      subst hao
      obtain ⟨d0, d1, d2, d3⟩ := hcl
      have hkd := HL.out.kd _ (List.getElem_mem hkL)
      have hch := choose_any (L[k]).kd 6 wr hkd.1 hkd.2 (by decide)
      have HP : Hid (putL (L.take (k + 1)) = putL (L.take k) ++ (if chs (L[k]).kd 6 = 0 then [(L[k]).tx] else [])) := by
        show _ = _
        rw [← putL_snoc, ← List.take_succ_eq_append_getElem hkL]
      obtain ⟨k1, hk1⟩ : ∃ k1, k1 = k + 1 := ⟨_, rfl⟩
      have ek1 : (k : Int) + 1 = (k1 : Int) := by omega
      have ek2 : IntKind.i64.wrap (k1 : Int) = (k1 : Int) := by rw [IntKind.wrap_i64]; omega
      rw [← hk1] at HP
      have HK1 : Hid (k1 ≤ n ∧ k1 ≤ 40 ∧ n - k1 < n - k) := ⟨by omega, by omega, by omega⟩
      have HLn : Hid ((putL (L.take k)).length ≤ 40) := by
        have h1 := putL_len (L.take k)
        rw [List.length_take] at h1
        show (putL (L.take k)).length ≤ 40
        omega
      clear hk hk4 hkd d2 d3 hk1 hkl
      by_cases hz : chs (L[k]).kd 6 = 0
      · rw [hz] at hch
        have HP2 : Hid (putL (L.take k1) = putL (L.take k) ++ [(L[k]).tx]) := by show _ = _; rw [HP.out, if_pos hz]
        clear HP hz
        generalize (L[k]).kd = kd at *
        generalize (L[k]).tx = x at *
        go_wp2_with fail
        refine hch.mono ?_
        rintro e w' ⟨rfl, hw'⟩
        subst w'
        clear hch d0
        have HO1 : Hid (wr.ownsRow w3.heap.size 9 1 (.slice aa (putL (L.take k)).length ca) (putL (L.take k)).length (scs (putL (L.take k)))) := HO
        clear HO
        generalize hT : putL (L.take k) = T at *
        clear hT
        go_wp2_with (at_builtin; refine wpList_append_lies _ rfl _ _ 30 rfl w3.heap.size 9 i0 (.string ⟨#[]⟩) 1 16 Tryd.underlying30 hi0 hz0 hz1 hz2 rfl (by decide) _ T.length (scs T) rfl (HO1.out.alloc _) ⟨_, 0, none⟩ 1 1 [.string x] rfl rfl ?c1 ?c2 (by decide) ?c3 ?c4 ?c5 (wr.heap.size + 1) ?c6 ?_)
        case c1 => exact new_one wr x
        case c2 => intro u hu; simp at hu; subst hu; rfl
        case c3 => unfold maxLen; have := HLn.out; omega
        case c4 => have := HLn.out; omega
        case c5 => rw [World.size_alloc]; have := HB.out.size; omega
        case c6 => rw [World.size_alloc]
        intro g1 c1 V hown hgrow hat hlt1
        have HR1 : Hid (V.ownsRow w3.heap.size 9 1 (.slice (some ⟨g1, 0, none⟩) (T.length + 1) c1) (putL (L.take k1)).length (scs (putL (L.take k1)))) := by
          unfold Hid
          rw [HP2.out, scs_snoc, List.length_append]
          exact hown
        have HR2 : Hid (Below w3.heap.size w3 V) := (bl_al HB.out _).grown hgrow (bl_al HB.out _).size (fun j hj => (HO1.out.lt j hj).1)
        clear hown hgrow hat hlt1
        go_wp2
        exact ⟨⟨k1, HK1.out.1, HK1.out.2.1, rfl, HR1, HR2⟩, HK1.out.2.2⟩
      · have hz2 : ¬ ((chs (L[k]).kd 6 : Nat) : Int) = 0 := by omega
        have HP2 : Hid (putL (L.take k1) = putL (L.take k)) := by show _ = _; rw [HP.out, if_neg hz, List.append_nil]
        clear HP hz
        generalize chs (L[k]).kd 6 = cc at *
        generalize (L[k]).kd = kd at *
        generalize (L[k]).tx = x at *
        go_wp2_with fail
        refine hch.mono ?_
        rintro e w' ⟨rfl, hw'⟩
        subst w'
        go_wp2
        exact ⟨⟨k1, HK1.out.1, HK1.out.2.1, rfl, by rw [HP2.out]; exact HO, HB⟩, HK1.out.2.2⟩
    · have k2 : ¬ ((k : Int) < (n : Int) ∧ (k : Int) < 40) := by omega
      have HLn : Hid ((putL (L.take k)).length ≤ 1000) := by
        have h1 := putL_len (L.take k)
        rw [List.length_take] at h1
        show (putL (L.take k)).length ≤ 1000
        omega
      have HZ : Hid (∀ s ∈ putL (L.take k), s.size ≤ 1048576) := fun s hs => by
        obtain ⟨t, ht, rfl⟩ := putL_mem hs
        exact (HL.out.sz t (List.mem_of_mem_take ht)).1
      have HCp : Hid (∀ gb, gb = wr.heap.size → Calls Tryd.prog 10 #[.slice (some ⟨gb, 0, none⟩) 1 1] (wr.alloc (.cells #[.slice aa (putL (L.take k)).length ca] 30)) fun e w' => ∃ b, e = .returned (.bool b) ∧ Below wr.heap.size wr w') := fun gb hgb => clash_put HO.out HLn.out HZ.out hgb
      have HKr : Hid (KB w1.heap.size P M R rm 0 [] (prs []) wr) := HK3.out.up HB.out
      have HBr : Hid (Below w.heap.size w wr) := HB3.out.trans (HB.out.mono HB3.out.size)
      clear HLn HZ HO HB
      generalize (putL (L.take k)).length = pl at *
      have HCq : Hid (∀ gb, gb = wr.heap.size → Calls Tryd.prog 10 #[.slice (some ⟨gb, 0, none⟩) 1 1] (wr.alloc (.cells #[.slice aa pl ca] 30)) fun e w' => ∃ b, e = .returned (.bool b) ∧ Hid (Below w.heap.size w w' ∧ PlI w w1.heap.size P M R rm 0 w')) := fun gb hgb => (HCp.out gb hgb).mono fun e w' ⟨b, q1, q2⟩ => ⟨b, q1, HBr.out.trans (q2.mono HBr.out.size), ⟨[], HKr.out.up q2⟩, HBr.out.trans (q2.mono HBr.out.size)⟩
      clear HCp
      by_cases h1 : k < n
      · have j1 : (k : Int) < (n : Int) := by omega
        have j2 : ¬ (k : Int) < 40 := by omega
        clear k2 hk hk4 hkl h1
        go_wp2_with fail
        refine (HCq.out _ rfl).mono ?_
        rintro e w4 ⟨b, rfl, HF⟩
        clear HCq
        cases b with
        | true =>
          go_wp2
          go_ret
          exact ⟨rfl, HF.out.1⟩
        | false =>
          go_wp2
          rw [HTL.out]
          refine loop2 HF.out.2 HL.out HR.out HB1.out.size HNn.out _ ?_
          intro u4 u10 u11 u12 u13 u14 u15 u16 u17 u18 u19 u20 u21 u22 u23 u24 u78 u79 u80 u81 u82 u83 u84 u85 u86 u87 u88 u89 u90 u91 u92 u93 u94 u95 u96 u97 u98 u99 u100 u101 u102 u103 u104 u105 u106 u107 u108 u109 u110 u111 u112 u113 u114 u115 u116 u117 u118 u119 u120 u121 u122 u123 u124 u125 u126 u127 u128 u129 u130 u131 u132 u133 u134 u135 u136 u137 u138 u139 u140 u141 u142 u143 u144 u145 u146 u147 u148 u149 u150 u151 u152 u153 u154 u155 u156 u157 u158 u159 u160 u161 u162 u163 u164 u165 u166 u167 u168 u169 u170 u171 u172 u173 u174 u175 u176 u177 u178 u179 u180 u181 u182 u183 u184 u185 u186 u187 u188 u189 u190 u191 u192 u193 u194 u195 u196 u197 u198 u199 u200 u201 u202 u203 u204 u205 u206 u207 u208 u209 u210 u211 u212 u213 u214 u215 u216 u217 u218 u219 u220 u221 u222 u223 u224 u225 u226 u227 u228 u229 u230 u231 u232 u233 u234 u235 u236 u237 u238 u239 u240 u241 u242 u243 u244 u245 u246 u247 u248 u249 u250 u251 u252 u253 u254 u255 u256 u257 u258 u259 u260 u261 u262 u263 u264 u265 u266 u267 u268 u269 u270 u271 u272 u273 u274 u275 u276 u277 u278 u279 u280 u281 u282 u283 u284 u285 u286 w5 h5
          have HF5 : Hid (Below w.heap.size w w5) := h5
          clear h5
          go_wp2
          go_ret
          exact ⟨rfl, HF5.out⟩
      · have j1 : ¬ (k : Int) < (n : Int) := by omega
        clear k2 hk hk4 hkl h1
        go_wp2_with fail
        refine (HCq.out _ rfl).mono ?_
        rintro e w4 ⟨b, rfl, HF⟩
        clear HCq
        cases b with
        | true =>
          go_wp2
          go_ret
          exact ⟨rfl, HF.out.1⟩
        | false =>
          go_wp2
          rw [HTL.out]
          refine loop2 HF.out.2 HL.out HR.out HB1.out.size HNn.out _ ?_
          intro u4 u10 u11 u12 u13 u14 u15 u16 u17 u18 u19 u20 u21 u22 u23 u24 u78 u79 u80 u81 u82 u83 u84 u85 u86 u87 u88 u89 u90 u91 u92 u93 u94 u95 u96 u97 u98 u99 u100 u101 u102 u103 u104 u105 u106 u107 u108 u109 u110 u111 u112 u113 u114 u115 u116 u117 u118 u119 u120 u121 u122 u123 u124 u125 u126 u127 u128 u129 u130 u131 u132 u133 u134 u135 u136 u137 u138 u139 u140 u141 u142 u143 u144 u145 u146 u147 u148 u149 u150 u151 u152 u153 u154 u155 u156 u157 u158 u159 u160 u161 u162 u163 u164 u165 u166 u167 u168 u169 u170 u171 u172 u173 u174 u175 u176 u177 u178 u179 u180 u181 u182 u183 u184 u185 u186 u187 u188 u189 u190 u191 u192 u193 u194 u195 u196 u197 u198 u199 u200 u201 u202 u203 u204 u205 u206 u207 u208 u209 u210 u211 u212 u213 u214 u215 u216 u217 u218 u219 u220 u221 u222 u223 u224 u225 u226 u227 u228 u229 u230 u231 u232 u233 u234 u235 u236 u237 u238 u239 u240 u241 u242 u243 u244 u245 u246 u247 u248 u249 u250 u251 u252 u253 u254 u255 u256 u257 u258 u259 u260 u261 u262 u263 u264 u265 u266 u267 u268 u269 u270 u271 u272 u273 u274 u275 u276 u277 u278 u279 u280 u281 u282 u283 u284 u285 u286 w5 h5
          have HF5 : Hid (Below w.heap.size w w5) := h5
          clear h5
          go_wp2
          go_ret
          exact ⟨rfl, HF5.out⟩
end Go.Proofs.YtoceglbdnbnjpaaDoor
