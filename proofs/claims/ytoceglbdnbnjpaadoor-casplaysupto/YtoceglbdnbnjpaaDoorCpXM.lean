/- The store's Missing; textIs; the document's IsNumber. -/
import Derived.Test.YtoceglbdnbnjpaaDoorCpSM
namespace Go.Proofs.YtoceglbdnbnjpaaDoor
open Go.RowKit Go.Shelf Go.Sort

theorem RIsNumber_any (n : Int) (w : World) : Calls Tryd.prog 8 #[.int .i64 n] w fun e w' => e = .returned (.bool (decide (0 ≤ n ∧ n ≤ 9007199254740991))) ∧ w' = w := by
  by_cases h : 0 ≤ n
  · by_cases h2 : n ≤ 9007199254740991
    · go_enter Tryd.func8, Tryd.ntmps8
      go_wp2
      go_ret
      exact ⟨by simp [h, h2], rfl⟩
    · go_enter Tryd.func8, Tryd.ntmps8
      go_wp2
      go_ret
      exact ⟨by simp [h2], rfl⟩
  · have hd : decide (0 ≤ n) = false := decide_eq_false h
    go_enter Tryd.func8, Tryd.ntmps8
    go_wp2
    go_ret
    exact ⟨by simp, rfl⟩

theorem textIs_ok (s : ByteArray) (w : World) : Calls Tryd.prog 16 #[.string s, .int .i64 0, .int .i64 0, .string s] w fun e w' => e = .returned (.bool true) ∧ w' = w := by
  have hq : (s.toList == s.toList) = true := by simp
  go_enter Tryd.func16, Tryd.ntmps16
  go_wp2
  go_ret
  exact ⟨by simp, rfl⟩
theorem textIs_no (c : Int) (hc : (c != 0) = true) (s : ByteArray) (w : World) : Calls Tryd.prog 16 #[.string ⟨#[]⟩, .int .i64 c, .int .i64 c, .string s] w fun e w' => e = .returned (.bool true) ∧ w' = w := by
  go_enter Tryd.func16, Tryd.ntmps16
  go_wp2
  go_ret
  exact ⟨by simp, rfl⟩

/-- Which ones aren't there. -/
def misL (E : List Ent) (xs : List ByteArray) : List ByteArray := xs.filter fun d => decide (∀ e ∈ E, e.dg ≠ d)
theorem misL_len (E : List Ent) (xs : List ByteArray) : (misL E xs).length ≤ xs.length := List.length_filter_le _ _
theorem misL_snoc (E : List Ent) (xs : List ByteArray) (x : ByteArray) : misL E (xs ++ [x]) = misL E xs ++ (if ∀ e ∈ E, e.dg ≠ x then [x] else []) := by
  unfold misL
  rw [List.filter_append]
  congr 1
  by_cases h : ∀ e ∈ E, e.dg ≠ x
  · rw [if_pos h, List.filter_cons_of_pos (by simpa using h), List.filter_nil]
  · rw [if_neg h, List.filter_cons_of_neg (by simpa using h), List.filter_nil]

section
variable {B P M rm tn : Nat} {E : List Ent} {I : List Nat} {w : World} {v : Value} {xs : List ByteArray}
set_option maxHeartbeats 2000000 in
set_option maxRecDepth 100000 in
theorem Missing_many (h : Tx w v xs) (hl : 2000 < xs.length) :
    Calls Tryd.prog 45 #[kp P, v] w fun e w' => e = .returned (.tuple #[.slice none 0 0, .int .i64 2]) ∧ w' = w := by
  obtain ⟨a, cap, rfl⟩ := h.shape
  have hi : (2000 : Int) < (xs.length : Int) := by omega
  clear h hl
  go_enter Tryd.func45, Tryd.ntmps45
  go_wp2
  go_ret2
  exact ⟨rfl, rfl⟩
set_option maxHeartbeats 2000000 in
set_option maxRecDepth 100000 in
theorem Missing_form (h : Tx w v xs) (hl : xs.length ≤ 2000) (ha : allD xs = false) :
    Calls Tryd.prog 45 #[kp P, v] w fun e w' => e = .returned (.tuple #[.slice none 0 0, .int .i64 1]) ∧ w' = w := by
  have hc := h.cn
  rw [ha] at hc
  have HC : Hid (Calls Tryd.prog 60 #[v, .func (.func 57) #[] #[]] w fun e w' => e = .returned (.bool true) ∧ w' = w) := hc
  obtain ⟨a, cap, rfl⟩ := h.shape
  have hi : ¬ (2000 : Int) < (xs.length : Int) := by omega
  clear h hl ha hc
  go_enter Tryd.func45, Tryd.ntmps45
  go_wp2_with fail
  refine HC.out.mono ?_
  rintro e w' ⟨rfl, rfl⟩
  go_wp2
  go_ret2
  exact ⟨rfl, rfl⟩

def MisP (E : List Ent) (xs : List ByteArray) (w : World) (e : Ending) (w' : World) : Prop := ∃ u, e = .returned (.tuple #[u, .int .i64 0]) ∧ Tx w' u (misL E xs) ∧ Below w.heap.size w w'
set_option maxHeartbeats 8000000 in
set_option maxRecDepth 100000 in
theorem Missing_ok (hS : CS B P M rm tn E I w) (hdg : ∀ e ∈ E, digOk e.dg = true) (h : Tx w v xs) (hl : xs.length ≤ 2000) (ha : allD xs = true) :
    Calls Tryd.prog 45 #[kp P, v] w (MisP E xs w) := by
  have hc := h.cn
  rw [ha] at hc
  have HC : Hid (Calls Tryd.prog 60 #[v, .func (.func 57) #[] #[]] w fun e w' => e = .returned (.bool false) ∧ w' = w) := hc
  have hi : ¬ (2000 : Int) < (xs.length : Int) := by omega
  rcases h.2 with ⟨rfl, a, cap, rfl⟩ | ⟨h0, g, o, cap, rfl, hcap, hrow⟩
  · clear hi h hl ha hc
    go_enter Tryd.func45, Tryd.ntmps45
    go_wp2_with fail
    refine HC.out.mono ?_
    rintro e w' ⟨rfl, rfl⟩
    go_wp2
    refine wp_loop_rounds 1 ?_
    rw [rounds_succ]
    go_wp2
    go_ret2
    exact ⟨_, rfl, ⟨Nat.zero_le _, .inl ⟨rfl, none, 0, rfl⟩⟩, Below.refl _ _⟩
  · obtain ⟨i0, hi0, hz0, hz1, hz2⟩ := inf_parts infS1
    have hgw : g < w.heap.size := World.block_lt_of_cell? w ⟨g, o + 0, none⟩ (hrow 0 h0)
    have HX : Hid (∀ Y, Below w.heap.size w Y → ∀ k (hk : k < xs.length), Y.cell? ⟨g, o + k, none⟩ = some (.string xs[k])) := fun Y hY k hk => (hrow.up hY hgw) k hk
    have HDX : Hid (∀ k (hk : k < xs.length), digOk xs[k] = true) := fun k hk => List.all_eq_true.1 ha _ (List.getElem_mem hk)
    have HL : Hid (∀ Y d, Below w.heap.size w Y → digOk d = true → Calls Tryd.prog 42 #[kp P, .string d] Y fun r w' => (∃ u k, r = .returned (.tuple #[u, .int .i64 k]) ∧ (k = 0 ∧ ¬ (∀ e ∈ E, e.dg ≠ d) ∨ k = 5 ∧ ∀ e ∈ E, e.dg ≠ d)) ∧ w' = Y) := fun Y d hY hd => by
      by_cases hn : ∀ e ∈ E, e.dg ≠ d
      · exact (look_no (hS.up hY) hn hd).mono fun r w' ⟨q1, q2⟩ => ⟨⟨_, _, q1, .inr ⟨rfl, hn⟩⟩, q2⟩
      · obtain ⟨e, he, rfl⟩ : ∃ e ∈ E, e.dg = d := Classical.byContradiction fun q => hn fun e he q2 => q ⟨e, he, q2⟩
        exact (look_yes (hS.up hY) he (hdg e he)).mono fun r w' ⟨q1, q2⟩ => ⟨⟨_, _, q1, .inl ⟨rfl, hn⟩⟩, q2⟩
    have HXL : Hid (xs.length ≤ 2000) := hl
    clear h hl ha hc hS hdg hrow hcap h0
    go_enter Tryd.func45, Tryd.ntmps45
    go_wp2_with fail
    refine HC.out.mono ?_
    rintro e w' ⟨rfl, rfl⟩
    go_wp2
    clear HC
    go_loopw [6, 18] (fun u c wr => ∃ k : Nat, k ≤ xs.length ∧ c = .int .i64 (k : Int) ∧ Hid (wr.ownsRow w'.heap.size 9 1 u (misL E (xs.take k)).length (scs (misL E (xs.take k)))) ∧ Hid (Below w'.heap.size w' wr)) (fun _ c _ => xs.length - (RowKit.intOf c).toNat)
    case atStart => exact ⟨0, Nat.zero_le _, rfl, World.ownsRow_nil _ _ _ _, Below.refl _ _⟩
    case round =>
      obtain ⟨k, hk, rfl, HO, HB⟩ := hrel
      obtain ⟨au, cu, hv⟩ := row_shape HO.out
      subst hv
      by_cases hlt : k < xs.length
      · have hki : (k : Int) < (xs.length : Int) := by omega
        have hc := HX.out _ HB.out k hlt
        have hLk := HL.out wr xs[k] HB.out (HDX.out k hlt)
        have HT := misL_snoc E (xs.take k) xs[k]
        rw [← List.take_succ_eq_append_getElem hlt] at HT
        have HTl : (misL E (xs.take k)).length ≤ 2000 := Nat.le_trans (misL_len _ _) (by rw [List.length_take]; have := HXL.out; omega)
        obtain ⟨k1, hk1⟩ : ∃ k1, k1 = k + 1 := ⟨_, rfl⟩
        have ek1 : (k : Int) + 1 = (k1 : Int) := by omega
        have ek2 : IntKind.i64.wrap (k1 : Int) = (k1 : Int) := by rw [IntKind.wrap_i64]; have := HXL.out; omega
        rw [← hk1] at HT
        have HK1 : Hid (k1 ≤ xs.length ∧ xs.length - k1 < xs.length - k) := ⟨by omega, by omega⟩
        have HT2 : Hid (misL E (xs.take k1) = misL E (xs.take k) ++ (if ∀ e ∈ E, e.dg ≠ xs[k] then [xs[k]] else [])) := HT
        have HLk : Hid (Calls Tryd.prog 42 #[kp P, .string xs[k]] wr fun r w' => (∃ u k', r = .returned (.tuple #[u, .int .i64 k']) ∧ (k' = 0 ∧ ¬ (∀ e ∈ E, e.dg ≠ xs[k]) ∨ k' = 5 ∧ ∀ e ∈ E, e.dg ≠ xs[k])) ∧ w' = wr) := hLk
        generalize xs[k] = x at hc HT2 HLk
        generalize misL E (xs.take k) = T at HO HT2 HTl
        clear HT hLk hk1
        go_wp2_with fail
        refine HLk.out.mono ?_
        rintro e w2 ⟨⟨u, k', rfl, hcase⟩, rfl⟩
        rcases hcase with ⟨rfl, hn⟩ | ⟨rfl, hn⟩
        · have HF : Hid (misL E (xs.take k1) = T) := by
            unfold Hid
            rw [HT2.out, if_neg hn, List.append_nil]
          clear hn
          go_wp2
          all_goals exact ⟨⟨k1, HK1.out.1, rfl, by rw [HF.out]; exact HO.out, HB⟩, HK1.out.2⟩
        · have HF : Hid (misL E (xs.take k1) = T ++ [x]) := by
            unfold Hid
            rw [HT2.out, if_pos hn]
          clear hn
          go_wp2_with (at_builtin; refine wpList_append_lies _ rfl _ _ 30 rfl w'.heap.size 9 i0 (.string ⟨#[]⟩) 1 16 Tryd.underlying30 hi0 hz0 hz1 hz2 rfl (by decide) _ T.length (scs T) rfl (HO.out.alloc _) ⟨_, 0, none⟩ 1 1 [.string x] rfl rfl ?c1 ?c2 (by decide) ?c3 ?c4 ?c5 (w2.heap.size + 1) ?c6 ?_)
          case c1 => exact new_one w2 x
          case c2 => intro u hu; simp at hu; subst hu; rfl
          case c3 => unfold maxLen; omega
          case c4 => omega
          case c5 => rw [World.size_alloc]; have := HB.out.size; omega
          case c6 => rw [World.size_alloc]
          intro g1 cap1 w1 hown1 hgrow1 hat1 hlt1
          have HO1 : Hid (w1.ownsRow w'.heap.size 9 1 (.slice (some ⟨g1, 0, none⟩) (T.length + 1) cap1) (misL E (xs.take k1)).length (scs (misL E (xs.take k1))) ∧ Below w'.heap.size w' w1) := by
            refine ⟨?_, (bl_al HB.out _).grown hgrow1 (bl_al HB.out _).size (fun j hj => (HO.out.lt j hj).1)⟩
            rw [HF.out, scs_snoc, List.length_append]
            exact hown1
          clear hown1 hgrow1 hat1 hlt1
          go_wp2
          exact ⟨⟨k1, HK1.out.1, rfl, HO1.out.1, HO1.out.2⟩, HK1.out.2⟩
      · have hkn : k = xs.length := by omega
        subst hkn
        have HF : Hid (misL E (xs.take xs.length) = misL E xs) := by unfold Hid; rw [List.take_length]
        have hx : ¬ (xs.length : Int) < (xs.length : Int) := by omega
        have HTl : Hid ((misL E xs).length ≤ 4611686018427387904) := by
          have := misL_len E xs
          have := HXL.out
          show _ ≤ _
          omega
        have HO2 := HO.out
        rw [HF.out] at HO2
        have HX2 : Hid (Tx wr (.slice au (misL E xs).length cu) (misL E xs)) := tx_own HTl.out HO2
        clear HO2
        go_wp2
        go_ret2
        exact ⟨_, rfl, HX2.out, HB.out⟩
end
end Go.Proofs.YtoceglbdnbnjpaaDoor
