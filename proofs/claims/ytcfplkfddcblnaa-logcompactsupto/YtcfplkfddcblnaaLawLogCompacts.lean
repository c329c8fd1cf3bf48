/- LogCompacts, its second form: for every log and every list of texts that together hold at most so much (the row's bound), Compact answers just what the document says, errors too; both read behind the call as they read before. -/
import Derived.Test.YtcfplkfddcblnaaLogK
import Derived.Test.YtcfplkfddcblnaaRefL
namespace Go.Proofs.Ytcfplkfddcblnaa
open Go.ChangeShapes Go.WideShapes Go.ChangeAt Go.RowKit Go.Shelf
open Go.ChangeMaps (open_string shut_string)

set_option maxHeartbeats 2000000 in
set_option maxRecDepth 100000 in
theorem lco_no (s : ByteArray) (v : Value) (ss : List ByteArray) (w : World) (h : IsTexts w v ss) (hno : ¬ okTexts ss) :
    Calls Try.prog 6 #[.string s, v] w fun e w' => e = .returned (.bool true) ∧ Below w.heap.size w w' := by
  have H : Hid (IsTexts w v ss) := h
  have HN : Hid (¬ okTexts ss) := hno
  obtain ⟨_, a, cap, rfl, _⟩ := h
  clear hno
  go_enter Try.func6, Try.ntmps6
  go_wp2_with fail
  refine (Compact_no s _ ss w H.out HN.out).mono ?_
  rintro e w' ⟨rfl, rfl⟩
  go_wp2_with fail
  refine ((cl_any 2000 _ ss _ H.out).2 HN.out).mono ?_
  rintro e w' ⟨rfl, rfl⟩
  go_wp2_with fail
  refine (logBegun_any _).mono ?_
  rintro e w1 ⟨rfl, hb1⟩
  have B1 : Hid (Below _ _ w1) := hb1
  clear hb1
  go_wp2_with fail
  refine (textIs_no 2 _ _ (by decide)).mono ?_
  rintro e w2 ⟨rfl, rfl⟩
  go_wp2
  go_ret
  exact ⟨rfl, B1.out⟩

set_option maxHeartbeats 8000000 in
set_option maxRecDepth 100000 in
theorem lco_yes (s : ByteArray) (v : Value) (ss : List ByteArray) (w : World) (h : IsTexts w v ss) (hok : okTexts ss) (hs : s.size ≤ 1048576) :
    Calls Try.prog 6 #[.string s, v] w fun e w' => e = .returned (.bool true) ∧ Below w.heap.size w w' := by
  have H : Hid (IsTexts w v ss) := h
  have HOK : Hid (okTexts ss) := hok
  obtain ⟨_, a, cap, rfl, hc⟩ := h
  have HC : Hid (ss = [] ∨ ∃ g o, a = some ⟨g, o, none⟩ ∧ ∀ j (hj : j < ss.length), w.cell? ⟨g, o + j, none⟩ = some (.string ss[j])) := hc
  have hli : (ss.length : Int) ≤ 2000 := by have := hok.1; omega
  obtain ⟨l, r, hl, hr, hd⟩ := flat_all _ s.data.toList (Nat.le_refl _)
  have HKP : Hid (Calls Try.prog 16 #[.string s, .slice a ss.length cap] w fun e w' => e = .returned (.tuple #[.string ⟨(flat (lists ss) ++ r).toArray⟩, .int .i64 0]) ∧ Below w.heap.size w w') := Compact_yes s _ ss l r w H.out hok (by omega) hd hl hr
  have HLE : Hid (∀ w, Calls Try.prog 14 #[.string s] w fun e w' => ∃ v, e = .returned (.tuple #[v, .int .i64 ((flat l).length : Nat)]) ∧ w'.ownsRow w.heap.size 9 1 v l.length (strs l) ∧ Below w.heap.size w w') := fun w => LogEntries_any s l r w (by omega) hd hl hr
  have hfl : (flat l).length ≤ s.size := by rw [size_of hd, List.length_append]; omega
  obtain ⟨R, hR⟩ : ∃ R : ByteArray, R = ⟨r.toArray⟩ := ⟨_, rfl⟩
  have hsx := sub_from s (flat l).length ((flat l).length : Int) rfl hfl
  rw [extract_end s (flat l) r hd, ← hR] at hsx
  have HR : Hid (R.data.toList = r) := by show _ = _; rw [hR]
  have hRz : R.size ≤ 1048576 := by
    rw [hR, size_of (s := ⟨r.toArray⟩) (l := r) rfl]
    have := size_of hd
    rw [List.length_append] at this
    omega
  obtain ⟨X, hX⟩ : ∃ X : ByteArray, X = ⟨(flat (lists ss) ++ r).toArray⟩ := ⟨_, rfl⟩
  rw [← hX] at HKP
  have HX : Hid (X.data.toList = flat (lists ss) ++ r) := by show _ = _; rw [hX]
  have HFB : Hid (∀ k, (flat (lists (ss.take k))).length ≤ 200030000) := fun k => by
    have h1 : ∀ (tt : List ByteArray), (∀ s ∈ tt, s.size ≤ 100000) → (flat (lists tt)).length ≤ 100015 * tt.length := by
      intro tt
      induction tt with
      | nil => intro _; simp [lists, flat]
      | cons x tt ih =>
        intro hx
        have e : lists (x :: tt) = x.data.toList :: lists tt := rfl
        have h2 := ih fun y hy => hx y (List.mem_cons_of_mem _ hy)
        have h3 := hx x (List.mem_cons_self ..)
        have h4 := size_of (s := x) rfl
        have h8 := pk_len8 x.data.toList.length (by omega)
        rw [e]
        simp only [flat, List.length_append, ent_len, List.length_cons]
        omega
    have h2 := h1 (ss.take k) fun x hx => hok.2 x (List.mem_of_mem_take hx)
    have h3 : (ss.take k).length ≤ 2000 := by rw [List.length_take]; have := hok.1; omega
    have h4 : 100015 * (ss.take k).length ≤ 100015 * 2000 := Nat.mul_le_mul_left _ h3
    omega
  generalize (flat l).length = n at hfl HLE hsx
  have hni : (n : Int) ≤ (s.size : Int) := by omega
  clear hc hok hd hl hr hR hX
  go_enter Try.func6, Try.ntmps6
  go_wp2_with fail
  refine HKP.out.mono ?_
  rintro e w1 ⟨rfl, hb1⟩
  have B1 : Hid (Below w.heap.size w w1) := hb1
  have H1 : Hid (IsTexts w1 (.slice a ss.length cap) ss) := texts_of (texts_below (old_of _ _ _ H.out) hb1) H.out.1
  clear hb1
  go_wp2_with fail
  refine ((cl_any 2000 _ ss w1 H1.out).1 HOK.out).mono ?_
  rintro e w2 ⟨rfl, rfl⟩
  go_wp2
  go_loopw [8, 9] (fun sv i wr => ∃ (k : Nat) (S : ByteArray), k ≤ ss.length ∧ S.data.toList = flat (lists (ss.take k)) ∧ sv = .string S ∧ i = .int .i64 k ∧ Below w.heap.size w wr) (fun _ i _ => ss.length - (intOf i).toNat)
  case atStart => exact ⟨0, ⟨#[]⟩, Nat.zero_le _, rfl, rfl, rfl, B1.out⟩
  case round =>
    clear B1 H1
    obtain ⟨k, S, hk, hS, rfl, rfl, hb⟩ := hrel
    have HS : Hid (S.data.toList = flat (lists (ss.take k))) := hS
    have HB : Hid (Below w.heap.size w wr) := hb
    have hSz : S.size ≤ 200030000 := by rw [size_of hS]; exact HFB.out k
    clear hS hb
    by_cases hlt : k < ss.length
    · have i2 : (k : Int) < (ss.length : Int) := by omega
      rcases HC.out with h0 | ⟨g, o, rfl, hcell⟩
      · rw [h0] at hlt; simp at hlt
      have hg0 : g < w.heap.size := World.block_lt_of_cell? w ⟨g, o + k, none⟩ (hcell k hlt)
      have c1 : wr.cell? ⟨g, o + k, none⟩ = some (.string ss[k]) := (HB.out.cell (p := ⟨g, o + k, none⟩) hg0).trans (hcell k hlt)
      have hx := HOK.out.2 ss[k] (List.getElem_mem hlt)
      obtain ⟨E, hE⟩ : ∃ E : ByteArray, E = ⟨(ent ss[k].data.toList).toArray⟩ := ⟨_, rfl⟩
      obtain ⟨S2, hS2⟩ : ∃ S2 : ByteArray, S2 = ⟨(flat (lists (ss.take (k + 1)))).toArray⟩ := ⟨_, rfl⟩
      have HE : Hid (∀ w, Calls Try.prog 10 #[.string ss[k]] w fun e w' => e = .returned (.string E) ∧ Below w.heap.size w w') := fun w => by rw [hE]; exact EntryOf_any ss[k] w (by omega)
      have k1 := cat2 S E S2 (by rw [hE, hS2, HS.out, lists_take ss k hlt]) (by
        have h1 := HFB.out (k + 1)
        rw [lists_take ss k hlt, List.length_append] at h1
        rw [hE, size_of (s := ⟨(ent ss[k].data.toList).toArray⟩) (l := ent ss[k].data.toList) rfl]
        omega)
      have HS2 : Hid (S2.data.toList = flat (lists (ss.take (k + 1)))) := by show _ = _; rw [hS2]
      generalize ss[k] = y at c1 HE hx
      clear hcell hx hE hS2
      go_wp2_with fail
      refine (HE.out _).mono ?_
      rintro e w3 ⟨rfl, hb3⟩
      have B3 : Hid (Below w.heap.size w w3) := HB.out.trans (hb3.mono HB.out.size)
      clear hb3 HE
      go_wp2
      exact ⟨⟨k + 1, S2, by omega, HS2.out, rfl, by go_num, B3.out⟩, by simp [intOf]; omega⟩
    · obtain rfl : k = ss.length := by omega
      have k1 := cat2 S R X (by rw [HX.out, HR.out, HS.out, List.take_length]) (by omega)
      clear HS
      go_wp2_with fail
      refine (HLE.out _).mono ?_
      rintro e w3 ⟨v3, rfl, ho3, hb3⟩
      have B3 : Hid (Below w.heap.size w w3) := HB.out.trans (hb3.mono HB.out.size)
      clear hb3 ho3 HLE
      go_wp2_with fail
      refine (logBegun_any w3).mono ?_
      rintro e w4 ⟨rfl, hb4⟩
      have B4 : Hid (Below w.heap.size w w4) := B3.out.trans (hb4.mono B3.out.size)
      clear hb4
      go_wp2_with fail
      refine (textIs_ok _ _).mono ?_
      rintro e w5 ⟨rfl, rfl⟩
      go_wp2
      go_ret
      exact ⟨rfl, B4.out⟩

theorem lco_walk (s : ByteArray) (v : Value) (ss : List ByteArray) (w : World) (h : IsTexts w v ss) (hs : s.size ≤ 1048576) :
    Calls Try.prog 6 #[.string s, v] w fun e w' => e = .returned (.bool true) ∧ Below w.heap.size w w' := by
  by_cases hok : okTexts ss
  · exact lco_yes s v ss w h hok hs
  · exact lco_no s v ss w h hok

set_option maxRecDepth 100000 in
theorem lco_lifted (os : Os) (started : os.Started) (H : Type) (enc : TypeId × Value → H) (F : Stop.Interp) :
    ReturnsInHanded {} Try.checked os 6 .any ((Rows.OpenSpec.upto Rows.logCompactsSpec).pre6 enc Try.prog Try.f6 Rows.logCompactsUptoRow.domain false) (((Rows.OpenSpec.upto Rows.logCompactsSpec).at F).post enc Try.prog Try.f6 false true false false) := by
  refine returnsInHanded_of_cond (C := Try.checked) (s := Rows.OpenSpec.upto Rows.logCompactsSpec) (k := Rows.uptoSmall) rfl own started (by kernel_rfl) Try.func6
    (OpenSpec.witness (enc := enc) (C := Try.checked) (s := Rows.OpenSpec.upto Rows.logCompactsSpec) (k := Rows.uptoSmall) rfl false ⟨#[], #[.string ByteArray.empty, .slice none 0 0], []⟩ 8 (by kernel_rfl) (by kernel_rfl) (by kernel_rfl)
      (x := ([.lit (.string []), .nil], [], [])) (by kernel_rfl) rfl (by kernel_rfl)) ?_
  intro W base args ds gs before hval0 hW _ hk _
  have hval : ∀ (j : Nat) t v, Try.f6.params[j]? = some t → args[j]? = some v → Value.okWide Try.prog W .any base t v := hval0
  have hW' := hW
  obtain ⟨p, q, hA0, hV, rfl, hfz, hnd⟩ := hW
  have hA : DataW.TrodAll enc Try.prog W 0 (fun _ => true) true Try.f6.params.toList args.toList ds p := hA0
  rw [Try.params6] at hA hval
  obtain ⟨v0, v1, d0, d1, p0, p1, rfl, rfl, rfl, h0, h1⟩ := trodAll_two hA
  obtain ⟨rfl, rfl⟩ := trodVars_none hV
  obtain ⟨a0, rfl, rfl, rfl, w0⟩ := open_string Try.underlying9 (hval 0 9 v0 rfl rfl) h0
  have h2 := of_decide_eq_true hk
  simp only [List.cons_append, List.nil_append, Rows.uptoBulkAll, Rows.uptoBulk] at h2
  obtain ⟨ss, ht, hT⟩ := arg_textsN (hval 1 29 v1 rfl rfl) h1 (by omega)
  have hr : a0.size ≤ 1048576 := by
    rw [size_of (s := a0) rfl]
    omega
  have lt1 : ∀ x ∈ p1, x.block < W.heap.size := by obtain ⟨m, hm⟩ := h1; exact DataW.trod_lt m _ _ _ hm
  clear hA0 hval0
  refine (lco_walk a0 v1 ss W ht.1 hr).mono fun e W' ⟨he, bel⟩ => ?_
  subst he
  exact ⟨_, rfl, _, _, _, [], _, [], hW', trodAll_mk1 (shut_bool Try.underlying4 _), trodAll_mk2 (shut_string Try.underlying9 w0) (Below.trod laidOut (by kernel_rfl) (of_decide_eq_true (by kernel_rfl)) h1 bel lt1), rfl, bel.frame _, fun h => by cases h⟩

theorem logCompacts_holds : Rows.LogCompactsUptoSaid :=
  OpenClaim.holds_of_cond 6 Try.f6 rfl rfl rfl rfl rfl rfl rfl ⟨rfl, rfl, rfl, rfl, rfl⟩ rfl rfl rfl rfl rfl (by kernel_rfl) Try.func6 (by kernel_rfl)
    (of_decide_eq_true (by kernel_rfl)) (by unfold Func.isWrapper; first | (rw [if_pos (by decide +kernel)]; kernel_rfl) | (rw [if_neg (by decide +kernel)]; exact ⟨rfl, rfl⟩))
    (fun os started H enc _ F => lco_lifted os started H enc F)
#print axioms logCompacts_holds
end Go.Proofs.Ytcfplkfddcblnaa
