/- LogJoins, its second form: for every list of texts and every text behind it that together hold at most so much (the row's bound), the log of the list, with that text behind it, is read as its entries and those of what is behind it; both read behind the call as they read before. -/
import Derived.Test.YtcfplkfddcblnaaLogArg
namespace Go.Proofs.Ytcfplkfddcblnaa
open Go.ChangeShapes Go.WideShapes Go.ChangeAt Go.RowKit Go.Shelf
open Go.ChangeMaps (open_string shut_string)

theorem lists_take (ss : List ByteArray) (k : Nat) (hk : k < ss.length) : flat (lists (ss.take (k + 1))) = flat (lists (ss.take k)) ++ ent ss[k].data.toList := by
  rw [List.take_succ_eq_append_getElem hk]
  simp only [lists, List.map_append, List.map_cons, List.map_nil]
  rw [flat_snoc]
theorem total_take (ss : List ByteArray) (k : Nat) : total (ss.take k) ≤ total ss := by
  induction ss generalizing k with
  | nil => simp [total]
  | cons s l ih =>
    cases k with
    | zero => simp [total]
    | succ k => simp only [List.take_succ_cons, total]; have := ih k; omega
theorem lists_short (ss : List ByteArray) (h : ∀ s ∈ ss, s.size ≤ 100000) : Short (lists ss) := by
  intro t ht
  obtain ⟨s, hs, rfl⟩ := List.mem_map.1 ht
  rw [← size_of (s := s) rfl]
  exact h s hs
theorem short_append {l m : List (List UInt8)} (h : Short l) (k : Short m) : Short (l ++ m) := fun t ht => by
  rcases List.mem_append.1 ht with h1 | h1
  · exact h t h1
  · exact k t h1

set_option maxHeartbeats 8000000 in
set_option maxRecDepth 100000 in
theorem ljo_walk (v : Value) (ss : List ByteArray) (bh : ByteArray) (w : World) (ht : TextsN w v ss) (hT : total ss ≤ 1048576) (hbh : bh.size ≤ 1048576) :
    Calls Try.prog 5 #[v, .string bh] w fun e w' => e = .returned (.bool true) ∧ Below w.heap.size w w' := by
  have HT : Hid (TextsN w v ss) := ht
  obtain ⟨⟨_, a, cap, rfl, hc⟩, _⟩ := ht
  have hsl := total_len ss
  have hli : (ss.length : Int) ≤ 1048576 := by omega
  have HC : Hid (ss = [] ∨ ∃ g o, a = some ⟨g, o, none⟩ ∧ ∀ j (hj : j < ss.length), w.cell? ⟨g, o + j, none⟩ = some (.string ss[j])) := hc
  clear hc
  go_enter Try.func5, Try.ntmps5
  go_wp2_with fail
  refine (logBegun_any w).mono ?_
  rintro e w1 ⟨rfl, hb1⟩
  have B1 : Hid (Below w.heap.size w w1) := hb1
  clear hb1
  go_wp2
  go_loopw [5, 6] (fun sv i wr => ∃ (k : Nat) (S : ByteArray), k ≤ ss.length ∧ S = ⟨(flat (lists (ss.take k))).toArray⟩ ∧ sv = .string S ∧ i = .int .i64 k ∧ (∀ s ∈ ss.take k, s.size ≤ 100000) ∧ Below w.heap.size w wr) (fun _ i _ => ss.length - (intOf i).toNat)
  case atStart => exact ⟨0, ⟨#[]⟩, Nat.zero_le _, rfl, rfl, rfl, by simp, B1.out⟩
  case round =>
    clear B1
    obtain ⟨k, S, hk, hS, rfl, rfl, hsh, hb⟩ := hrel
    have HS : Hid (S = ⟨(flat (lists (ss.take k))).toArray⟩) := hS
    have HSH : Hid (∀ s ∈ ss.take k, s.size ≤ 100000) := hsh
    have HB : Hid (Below w.heap.size w wr) := hb
    have hSz : S.size ≤ 14680064 := by
      rw [hS, size_of (l := flat (lists (ss.take k))) rfl]
      have h1 := flat_total (ss.take k) hsh
      have h2 := total_take ss k
      omega
    clear hS hsh hb
    by_cases hlt : k < ss.length
    · have i2 : (k : Int) < (ss.length : Int) := by omega
      rcases HC.out with h0 | ⟨g, o, rfl, hcell⟩
      · rw [h0] at hlt; simp at hlt
      have hg0 : g < w.heap.size := World.block_lt_of_cell? w ⟨g, o + k, none⟩ (hcell k hlt)
      have c1 : wr.cell? ⟨g, o + k, none⟩ = some (.string ss[k]) := (HB.out.cell (p := ⟨g, o + k, none⟩) hg0).trans (hcell k hlt)
      clear hcell
      by_cases hx : ss[k].size ≤ 100000
      · have HA : Hid (Calls Try.prog 9 #[.string S, .string ss[k]] wr fun e w' => e = .returned (.tuple #[.string ⟨(flat (lists (ss.take (k + 1)))).toArray⟩, .int .i64 0]) ∧ Below wr.heap.size wr w') := by
          have := Append_yes S ss[k] wr (by omega) hx
          rw [HS.out] at this ⊢
          rw [lists_take ss k hlt]
          exact this
        have HSN : Hid (∀ s ∈ ss.take (k + 1), s.size ≤ 100000) := by
          intro s hs
          rw [List.take_succ_eq_append_getElem hlt] at hs
          rcases List.mem_append.1 hs with h1 | h1
          · exact HSH.out s h1
          · simp at h1; rw [h1]; exact hx
        obtain ⟨S2, hS2⟩ : ∃ S2 : ByteArray, S2 = ⟨(flat (lists (ss.take (k + 1)))).toArray⟩ := ⟨_, rfl⟩
        rw [← hS2] at HA
        have HS2 : Hid (S2 = ⟨(flat (lists (ss.take (k + 1)))).toArray⟩) := hS2
        clear hS2
        generalize ss[k] = y at c1 HA hx
        clear hx
        go_wp2_with fail
        refine HA.out.mono ?_
        rintro e w2 ⟨rfl, hb2⟩
        have B2 : Hid (Below w.heap.size w w2) := HB.out.trans (hb2.mono HB.out.size)
        clear hb2
        go_wp2
        exact ⟨⟨k + 1, S2, by omega, HS2.out, rfl, by go_num, HSN.out, B2.out⟩, by simp [intOf]; omega⟩
      · have HA : Hid (Calls Try.prog 9 #[.string S, .string ss[k]] wr fun e w' => e = .returned (.tuple #[.string ⟨#[]⟩, .int .i64 2]) ∧ w' = wr) := Append_no S ss[k] wr (by omega)
        generalize ss[k] = y at c1 HA hx
        clear hx
        go_wp2_with fail
        refine HA.out.mono ?_
        rintro e w2 ⟨rfl, rfl⟩
        go_wp2
        go_ret
        exact ⟨rfl, HB.out⟩
    · obtain rfl : k = ss.length := by omega
      have HS3 : Hid (S = ⟨(flat (lists ss)).toArray⟩) := by have := HS.out; rwa [List.take_length] at this
      have HSH3 : Hid (∀ s ∈ ss, s.size ≤ 100000) := by have := HSH.out; rwa [List.take_length] at this
      clear HS HSH
      obtain ⟨l, r, hl, hr, h⟩ := flat_all _ bh.data.toList (Nat.le_refl _)
      have hfl : (flat l).length ≤ bh.size := by rw [size_of h, List.length_append]; omega
      have hll : 6 * l.length ≤ bh.size := Nat.le_trans (flat_len l) hfl
      obtain ⟨X, hX⟩ : ∃ X : ByteArray, X = ⟨(flat (lists ss) ++ bh.data.toList).toArray⟩ := ⟨_, rfl⟩
      have k1 := cat2 S bh X (by rw [HS3.out, hX]) (by omega)
      have HSz : Hid ((flat (lists ss)).length = S.size) := by show _ = _; rw [HS3.out]; exact (size_of (s := ⟨(flat (lists ss)).toArray⟩) (l := flat (lists ss)) rfl).symm
      have HF : Hid ((flat (lists ss ++ l)).length = S.size + (flat l).length) := by show _ = _; rw [flat_append, List.length_append, HSz.out]
      have HR1 : Hid (∀ w, Calls Try.prog 13 #[.string bh] w fun e w' => ∃ v, e = .returned (.tuple #[v, .int .i64 ((flat l).length : Nat)]) ∧ w'.ownsRow w.heap.size 9 1 v l.length (strs l) ∧ Below w.heap.size w w') := fun w => Read_any bh l r w (by omega) h hl hr
      have HR2 : Hid (∀ w, Calls Try.prog 13 #[.string X] w fun e w' => ∃ v, e = .returned (.tuple #[v, .int .i64 ((S.size + (flat l).length : Nat) : Int)]) ∧ w'.ownsRow w.heap.size 9 1 v (lists ss ++ l).length (strs (lists ss ++ l)) ∧ Below w.heap.size w w') := fun w => by
        have := Read_any X (lists ss ++ l) r w (by rw [hX, size_of (l := flat (lists ss) ++ bh.data.toList) rfl, List.length_append, HSz.out]; have := size_of (s := bh) rfl; omega) (by rw [hX, flat_append, h]; simp) (short_append (lists_short ss HSH3.out) hl) hr
        rwa [HF.out] at this
      have hlen2 : (lists ss ++ l).length ≤ 4611686018427387904 := by rw [List.length_append, lists_len]; omega
      have hlen1 : l.length ≤ 4611686018427387904 := by omega
      generalize (flat l).length = n at hfl HR1 HR2
      have hni : (n : Int) ≤ (bh.size : Int) := by omega
      have hbi : (bh.size : Int) ≤ 1048576 := by omega
      have hSi : (S.size : Int) ≤ 14680064 := by omega
      have hadd : ((S.size + n : Nat) : Int) = (S.size : Int) + (n : Int) := by push_cast; rfl
      rw [hadd] at HR2
      clear h hl hr hX HS3 HF HSz hfl hadd
      go_wp2_with fail
      refine (HR1.out wr).mono ?_
      rintro e w2 ⟨v2, rfl, ho2, hb2⟩
      have O2 : Hid (w2.ownsRow wr.heap.size 9 1 v2 l.length (strs l)) := ho2
      have B2 : Hid (Below w.heap.size w w2) := HB.out.trans (hb2.mono HB.out.size)
      clear ho2 hb2 HR1
      go_wp2_with fail
      refine (HR2.out w2).mono ?_
      rintro e w3 ⟨v3, rfl, ho3, hb3⟩
      have O3 : Hid (w3.ownsRow w2.heap.size 9 1 v3 (lists ss ++ l).length (strs (lists ss ++ l))) := ho3
      have P3 : Hid (w3.ownsRow wr.heap.size 9 1 v2 l.length (strs l)) := own_below O2.out hb3
      have B3 : Hid (Below w.heap.size w w3) := B2.out.trans (hb3.mono B2.out.size)
      clear ho3 hb3 HR2 O2 B2
      have A0 : Hid ((w3.alloc (.cells #[] 9)).ownsRow w3.heap.size 9 1 (.slice (some ⟨w3.heap.size, 0, none⟩) 0 0) 0 []) := World.ownsRow_made w3 #[] 0 (Nat.le_refl _) (by decide) rfl
      have L0 : Hid (Below w3.heap.size w3 (w3.alloc (.cells #[] 9))) := (Below.refl _ _).alloc (Nat.le_refl _) _
      have T0 : Hid (TextsN (w3.alloc (.cells #[] 9)) (.slice a ss.length cap) ss) := HT.out.up (B3.out.trans (L0.out.mono B3.out.size))
      go_wp2_with (first
        | (refine wpList_append_texts rfl (Operand.tmp 46) (Operand.tmp 47) rfl w3.heap.size _ 0 [] rfl A0.out _ ss rfl T0.out ?c1 ?c2 ?_))
      case c1 => omega
      case c2 => simp
      intro v4 w4 ho4 hg4
      have B4 : Hid (Below w3.heap.size w3 w4) := L0.out.grown hg4 (by simp) (fun j hj => (A0.out.lt j hj).1)
      have O4 : Hid (w4.ownsRow w3.heap.size 9 1 v4 ss.length (ss.map Value.string)) := ho4
      have T4 : Hid (TextsN w4 v2 (l.map fun t => ⟨t.toArray⟩)) := own_textsN (own_below P3.out B4.out) hlen1
      clear ho4 hg4 A0 L0 T0
      have hz4 := B4.out.size
      go_wp2_with (first
        | (refine wpList_append_texts rfl (Operand.tmp 48) (Operand.tmp 49) rfl w3.heap.size _ ss.length (ss.map Value.string) rfl O4.out _ _ rfl T4.out ?c1 ?c2 ?_))
      case c1 => rw [List.length_map]; omega
      case c2 => exact hz4
      intro v5 w5 ho5 hg5
      have B5 : Hid (Below w3.heap.size w3 w5) := B4.out.grown hg5 hz4 (fun j hj => (O4.out.lt j hj).1)
      have O5 : Hid (w5.ownsRow w3.heap.size 9 1 v5 (lists ss ++ l).length (strs (lists ss ++ l))) := by
        have e1 : (lists ss ++ l).length = ss.length + l.length := by rw [List.length_append, lists_len]
        have e2 : strs (lists ss ++ l) = ss.map Value.string ++ l.map (Value.string ∘ fun t => (⟨t.toArray⟩ : ByteArray)) := by
          rw [← lists_strs]
          simp [strs, Function.comp_def]
        rw [e1, e2]
        exact ho5
      have P5 : Hid (w5.ownsRow w2.heap.size 9 1 v3 (lists ss ++ l).length (strs (lists ss ++ l))) := own_below O3.out B5.out
      have C5 : Hid (Below w.heap.size w w5) := B3.out.trans (B5.out.mono B3.out.size)
      clear ho5 hg5 B4 O4 T4 B5 O3 P3 B3
      go_wp2_with fail
      refine (same_any _ _ _ _ _ (own_texts P5.out hlen2) (own_texts O5.out hlen2)).mono ?_
      rintro e w6 ⟨rfl, q, rfl⟩
      have B6 : Hid (Below w.heap.size w (w5.drewN q)) := ⟨C5.out.os, C5.out.tape, C5.out.output, C5.out.size, C5.out.block⟩
      rw [decide_eq_true rfl]
      go_wp2
      go_ret
      exact ⟨by simp, B6.out⟩

set_option maxRecDepth 100000 in
theorem ljo_lifted (os : Os) (started : os.Started) (H : Type) (enc : TypeId × Value → H) (F : Stop.Interp) :
    ReturnsInHanded {} Try.checked os 5 .any ((Rows.OpenSpec.upto Rows.logJoinsSpec).pre6 enc Try.prog Try.f5 Rows.logJoinsUptoRow.domain false) (((Rows.OpenSpec.upto Rows.logJoinsSpec).at F).post enc Try.prog Try.f5 false true false false) := by
  refine returnsInHanded_of_cond (C := Try.checked) (s := Rows.OpenSpec.upto Rows.logJoinsSpec) (k := Rows.uptoSmall) rfl own started (by kernel_rfl) Try.func5
    (OpenSpec.witness (enc := enc) (C := Try.checked) (s := Rows.OpenSpec.upto Rows.logJoinsSpec) (k := Rows.uptoSmall) rfl false ⟨#[], #[.slice none 0 0, .string ByteArray.empty], []⟩ 8 (by kernel_rfl) (by kernel_rfl) (by kernel_rfl)
      (x := ([.nil, .lit (.string [])], [], [])) (by kernel_rfl) rfl (by kernel_rfl)) ?_
  intro W base args ds gs before hval0 hW _ hk _
  have hval : ∀ (j : Nat) t v, Try.f5.params[j]? = some t → args[j]? = some v → Value.okWide Try.prog W .any base t v := hval0
  have hW' := hW
  obtain ⟨p, q, hA0, hV, rfl, hfz, hnd⟩ := hW
  have hA : DataW.TrodAll enc Try.prog W 0 (fun _ => true) true Try.f5.params.toList args.toList ds p := hA0
  rw [Try.params5] at hA hval
  obtain ⟨v0, v1, d0, d1, p0, p1, rfl, rfl, rfl, h0, h1⟩ := trodAll_two hA
  obtain ⟨rfl, rfl⟩ := trodVars_none hV
  obtain ⟨a1, rfl, rfl, rfl, w1⟩ := open_string Try.underlying9 (hval 1 9 v1 rfl rfl) h1
  have h2 := of_decide_eq_true hk
  simp only [List.cons_append, List.nil_append, Rows.uptoBulkAll, Rows.uptoBulk] at h2
  obtain ⟨ss, ht, hT⟩ := arg_textsN (hval 0 29 v0 rfl rfl) h0 (by omega)
  have hr : a1.size ≤ 1048576 := by
    rw [size_of (s := a1) rfl]
    omega
  have lt0 : ∀ x ∈ p0, x.block < W.heap.size := by obtain ⟨m, hm⟩ := h0; exact DataW.trod_lt m _ _ _ hm
  clear hA0 hval0
  refine (ljo_walk v0 ss a1 W ht (by omega) hr).mono fun e W' ⟨he, bel⟩ => ?_
  subst he
  exact ⟨_, rfl, _, _, _, [], _, [], hW', trodAll_mk1 (shut_bool Try.underlying4 _), trodAll_mk2 (Below.trod laidOut (by kernel_rfl) (of_decide_eq_true (by kernel_rfl)) h0 bel lt0) (shut_string Try.underlying9 w1), rfl, bel.frame _, fun h => by cases h⟩

theorem logJoins_holds : Rows.LogJoinsUptoSaid :=
  OpenClaim.holds_of_cond 5 Try.f5 rfl rfl rfl rfl rfl rfl rfl ⟨rfl, rfl, rfl, rfl, rfl⟩ rfl rfl rfl rfl rfl (by kernel_rfl) Try.func5 (by kernel_rfl)
    (of_decide_eq_true (by kernel_rfl)) (by unfold Func.isWrapper; first | (rw [if_pos (by decide +kernel)]; kernel_rfl) | (rw [if_neg (by decide +kernel)]; exact ⟨rfl, rfl⟩))
    (fun os started H enc _ F => ljo_lifted os started H enc F)
#print axioms logJoins_holds
end Go.Proofs.Ytcfplkfddcblnaa
