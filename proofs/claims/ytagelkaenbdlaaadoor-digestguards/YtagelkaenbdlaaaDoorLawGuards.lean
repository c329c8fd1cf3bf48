/- DigestGuards holds, its two listed variables tied to the program's text: for every list of texts that can be read, all numbers and every text, where no two texts that are summed have one digest, a proof shows its text, no other text, and at no other place another one; the list reads behind the call as it read before; no condition of ours. -/
import Derived.Test.YtagelkaenbdlaaaDoorGdM
import Derived.Test.YtagelkaenbdlaaaDoorClash
import Derived.Test.YtagelkaenbdlaaaDoorLawProofs
import Derived.Test.YtagelkaenbdlaaaDoorShS
namespace Go.Proofs.YtagelkaenbdlaaaDoor
open Go.ChangeShapes Go.WideShapes Go.ChangeAt Go.RowKit
open Go.ChangeMaps (open_string shut_string)

set_option maxHeartbeats 1000000 in
theorem choose_any (c : Int) (m : Nat) (w : World) (h0 : -9223372036854775808 ≤ c) (h1 : c ≤ 9223372036854775807) (hm : 0 < m) (hm2 : m ≤ 1099511627776) :
    Calls Tryd.prog 22 #[.int .i64 c, .int .i64 m] w fun e w' => (∃ r : Nat, r < m ∧ e = .returned (.int .i64 (r : Int))) ∧ w' = w := by
  have hmi : (0 : Int) < (m : Int) := by omega
  have hm0 : ((m : Int) == 0) = false := by simp; omega
  have key : ∀ d : Int, 0 ≤ d → ∃ r : Nat, r < m ∧ d.tmod (m : Int) = (r : Int) ∧ d % (m : Int) = (r : Int) := fun d hd => by
    have h2 := Int.emod_nonneg d (show (m : Int) ≠ 0 by omega)
    have h3 := Int.emod_lt_of_pos d hmi
    refine ⟨(d % (m : Int)).toNat, by omega, ?_, by omega⟩
    rw [Int.tmod_eq_emod_of_nonneg hd]
    omega
  by_cases hc : c < 0
  · obtain ⟨d, hd⟩ : ∃ d : Int, d = -(c + 1) := ⟨_, rfl⟩
    obtain ⟨r, hr, hr1, hr2⟩ := key d (by omega)
    have x1 : wrap64 (c + 1) = c + 1 := by unfold wrap64; omega
    have x2 : IntKind.i64.wrap (c + 1) = c + 1 := by rw [IntKind.wrap_i64]; omega
    have x3 : wrap64 (-(c + 1)) = d := by unfold wrap64; omega
    have x4 : IntKind.i64.wrap (-(c + 1)) = d := by rw [IntKind.wrap_i64]; omega
    have hd0 : 0 ≤ d := by omega
    clear key hd h0 h1 hm2
    go_enter Tryd.func22, Tryd.ntmps22
    go_wp2
    go_ret
    exact ⟨⟨r, hr, by simp⟩, rfl⟩
  · obtain ⟨r, hr, hr1, hr2⟩ := key c (by omega)
    have hc0 : 0 ≤ c := by omega
    clear key h1 hm2 hc
    go_enter Tryd.func22, Tryd.ntmps22
    go_wp2
    go_ret
    exact ⟨⟨r, hr, by simp⟩, rfl⟩

theorem eq_bytes {a b : ByteArray} : (a.toList == b.toList) = true ↔ a = b := by
  constructor
  · intro h
    exact b_ext (by simpa using h)
  · intro h
    rw [h]
    simp
theorem shows_root (ss : List ByteArray) (i : Nat) (hi : i < ss.length) : showsB (rootB ss) ss[i] i ss.length (proofL ss i) = true := by
  unfold showsB
  rw [show decide ((proofL ss i).length = (sidesL i ss.length).length) = true from by simp [proof_sides _ ss i (Nat.le_refl _)], Bool.true_and, show_root ss i hi]
  simp
/-- Where no two texts have one digest: what is shown at a place stands there. -/
theorem shows_there (ss : List ByteArray) (i k : Nat) (hk : k < ss.length) (t : ByteArray) (L : List ByteArray) (hL : InjL L) (h1 : ∀ x ∈ summedL ss, x ∈ L) (h2 : ∀ x ∈ shownT t k ss.length (proofL ss i), x ∈ L) (h : showsB (rootB ss) t k ss.length (proofL ss i) = true) : t = ss[k] := by
  unfold showsB at h
  rw [Bool.and_eq_true, decide_eq_true_eq] at h
  exact guard_key L hL _ ss k hk (proofL ss i) t (Nat.le_refl _) h.1 (proofL_dig _ ss i (Nat.le_refl _)) h1 h2 (eq_bytes.1 h.2)

theorem pt_size (a b : ByteArray) (ha : digOk a = true) (hb : digOk b = true) : (ptB a b).size = 65 := by
  unfold ptB
  rw [d_size (s := ⟨(1 :: ((rawB a).data.toList ++ (rawB b).data.toList)).toArray⟩) (l := 1 :: ((rawB a).data.toList ++ (rawB b).data.toList)) rfl, List.length_cons, List.length_append, s_len, s_len, rawB_size, rawB_size, dig_size ha, dig_size hb]
theorem leafT_size (t : ByteArray) : (leafT t).size = t.size + 1 := by
  unfold leafT
  rw [d_size (s := ⟨(0 :: t.data.toList).toArray⟩) (l := 0 :: t.data.toList) rfl, List.length_cons, s_len]
theorem upT_size : ∀ (sr : List Bool) (ps : List ByteArray) (a : ByteArray), digOk a = true → (∀ p ∈ ps, digOk p = true) → ∀ x ∈ upT a sr ps, x.size = 65 := by
  intro sr
  induction sr with
  | nil => intro ps a _ _ x hx; cases ps <;> simp [upT] at hx
  | cons s sr ih =>
    intro ps a ha hp x hx
    match ps with
    | [] => simp [upT] at hx
    | p :: ps =>
      simp only [upT, List.mem_cons] at hx
      rcases hx with rfl | hx
      · cases s
        · exact pt_size a p ha (hp p (by simp))
        · exact pt_size p a (hp p (by simp)) ha
      · exact ih ps _ (stepB_dig _ _ _) (fun q hq => hp q (by simp [hq])) x hx
theorem shownT_size (t : ByteArray) (i n : Nat) (ps : List ByteArray) (ht : t.size ≤ 140737488351232) (hp : ∀ p ∈ ps, digOk p = true) : ∀ x ∈ shownT t i n ps, x.size ≤ 140737488351300 := by
  intro x hx
  rcases List.mem_cons.1 hx with rfl | hx
  · rw [leafT_size]; omega
  · rw [upT_size _ _ _ (leafB_dig t) hp x hx]; decide
theorem summedL_size : ∀ (n : Nat) (ss : List ByteArray), ss.length ≤ n → 0 < ss.length → (∀ s ∈ ss, s.size ≤ 100000) → ∀ x ∈ summedL ss, x.size ≤ 140737488351300 := by
  intro n
  induction n with
  | zero => intro ss h h0; omega
  | succ n ih =>
    intro ss h h0 hs x hx
    by_cases h1 : ss.length = 1
    · match ss, h1 with
      | [s], _ =>
        rw [summedL_one] at hx
        simp at hx
        subst hx
        rw [leafT_size]
        have := hs s (by simp)
        omega
    · have hl := side_lt ss.length (by omega)
      have hp := side_pos ss.length
      rw [summedL_split ss (by omega)] at hx
      rcases List.mem_append.1 hx with h2 | h2
      · rcases List.mem_append.1 h2 with h3 | h3
        · exact ih _ (by rw [List.length_take]; omega) (by rw [List.length_take]; omega) (fun s hs' => hs s (List.mem_of_mem_take hs')) x h3
        · exact ih _ (by rw [List.length_drop]; omega) (by rw [List.length_drop]; omega) (fun s hs' => hs s (List.mem_of_mem_drop hs')) x h3
      · simp at h2
        subst h2
        rw [pt_size _ _ (rootB_dig _) (rootB_dig _)]
        decide
theorem shownT_len (t : ByteArray) (i n : Nat) (ps : List ByteArray) (hn : n ≤ 2000) (h0 : 0 < n) : (shownT t i n ps).length ≤ 2000 := by
  unfold shownT
  rw [List.length_cons]
  have h1 := upT_len (sidesL i n).reverse ps (leafB t)
  have h2 := sidesL_len _ i n (Nat.le_refl _) h0
  rw [List.length_reverse] at h1
  omega

theorem clash3 (w7 : World) (v1 v2 v3 : Value) (l1 l2 l3 : List ByteArray) (h1 : Tx w7 v1 l1) (h2 : Tx w7 v2 l2) (h3 : Tx w7 v3 l3) (z1 : ∀ x ∈ l1, x.size ≤ 140737488351300) (z2 : ∀ x ∈ l2, x.size ≤ 140737488351300) (z3 : ∀ x ∈ l3, x.size ≤ 140737488351300) (hn : l1.length + l2.length + l3.length ≤ 1000000) :
    Calls Tryd.prog 23 #[.slice (some ⟨w7.heap.size, 0, none⟩) 3 3] (w7.alloc (.cells #[v1, v2, v3] 25)) fun e w' => ∃ b, e = .returned (.bool b) ∧ (b = false → InjL (l1 ++ l2 ++ l3)) ∧ Below w7.heap.size w7 w' := by
  have hb : Below w7.heap.size w7 (w7.alloc (.cells #[v1, v2, v3] 25)) := bl_al (Below.refl _ _) _
  refine (Clash_any w7.heap.size 0 3 [l1, l2, l3] (w7.alloc (.cells #[v1, v2, v3] 25)) (by simp) (by simp; omega) ?_ ?_).mono ?_
  · intro l hl s hs
    simp at hl
    rcases hl with rfl | rfl | rfl
    · exact z1 s hs
    · exact z2 s hs
    · exact z3 s hs
  · intro j hj
    match j, hj with
    | 0, _ => exact ⟨v1, al_at w7 _ _ _ 0 _ rfl rfl, h1.up hb⟩
    | 1, _ => exact ⟨v2, al_at w7 _ _ _ 1 _ rfl rfl, h2.up hb⟩
    | 2, _ => exact ⟨v3, al_at w7 _ _ _ 2 _ rfl rfl, h3.up hb⟩
  · rintro e w' ⟨b, rfl, hi, hbl⟩
    refine ⟨b, rfl, fun h => ?_, bl_tr hb hbl⟩
    have := hi h
    simpa [List.append_assoc] using this

set_option maxHeartbeats 1000000 in
theorem grd_no (v : Value) (ss : List ByteArray) (i k : Int) (other : ByteArray) (w : World) (h : Tx w v ss) (hno : ¬ okD ss) (hm : Roots w) :
    Calls Tryd.prog 7 #[v, .int .i64 i, .int .i64 k, .string other] w fun e w' => e = .returned (.bool true) ∧ Below w.heap.size w w' := by
  have HM : Hid (Roots w) := hm
  have HP : Hid (∀ Y, Below w.heap.size w Y → Calls Tryd.prog 12 #[v] Y fun e w' => e = .returned (.tuple #[.string ⟨#[]⟩, .int .i64 2]) ∧ w' = Y) := fun Y hY => Root_no v ss Y (h.up hY) hno
  obtain ⟨a, cap, rfl⟩ := h.shape
  clear hm h hno
  go_enter Tryd.func7, Tryd.ntmps7
  go_wp2_with fail
  refine (digestBegun_any _ HM.out).mono ?_
  rintro e w1 ⟨rfl, hb1⟩
  have B1 : Hid (Below _ _ w1) := hb1
  clear hb1
  go_wp2_with fail
  refine (HP.out _ B1.out).mono ?_
  rintro e w' ⟨rfl, rfl⟩
  go_wp2
  go_ret
  exact ⟨by simp, B1.out⟩

set_option maxHeartbeats 1000000 in
theorem grd_zero (v : Value) (i k : Int) (other : ByteArray) (w : World) (h : Tx w v []) (hm : Roots w) :
    Calls Tryd.prog 7 #[v, .int .i64 i, .int .i64 k, .string other] w fun e w' => e = .returned (.bool true) ∧ Below w.heap.size w w' := by
  have HM : Hid (Roots w) := hm
  have HP : Hid (∀ Y, Below w.heap.size w Y → Calls Tryd.prog 12 #[v] Y fun e w' => e = .returned (.tuple #[.string (rootB []), .int .i64 0]) ∧ Below Y.heap.size Y w') := fun Y hY => Root_yes v [] Y (h.up hY) ⟨by simp, by simp⟩ (hm.up hY)
  obtain ⟨a, cap, rfl⟩ := h.shape
  generalize rootB [] = r at HP
  clear hm h
  go_enter Tryd.func7, Tryd.ntmps7
  go_wp2_with fail
  refine (digestBegun_any _ HM.out).mono ?_
  rintro e w1 ⟨rfl, hb1⟩
  have B1 : Hid (Below _ _ w1) := hb1
  clear hb1
  go_wp2_with fail
  refine (HP.out _ B1.out).mono ?_
  rintro e w2 ⟨rfl, hb2⟩
  have B2 : Hid (Below w.heap.size w w2) := bl_tr B1.out hb2
  clear hb2
  go_wp2
  go_ret
  exact ⟨by simp, B2.out⟩

theorem tx_form {w w' : World} {e : Ending} {u : Value} {L : List ByteArray} (he : e = .returned u) (h : Tx w' u L) (hb : Below w.heap.size w w') : ∃ a c, e = .returned (.slice a L.length c) ∧ Tx w' (.slice a L.length c) L ∧ Below w.heap.size w w' := by
  obtain ⟨a, c, rfl⟩ := h.shape
  exact ⟨a, c, he, h, hb⟩

set_option maxHeartbeats 8000000 in
set_option maxRecDepth 100000 in
theorem grd_main (g o cap : Nat) (ss : List ByteArray) (i k : Int) (other : ByteArray) (w : World) (hok : okD ss) (h0 : 0 < ss.length) (hc : ss.length ≤ cap) (hrow : Row w g o ss) (hot : other.size ≤ 140737488351232)
    (hi0 : -9223372036854775808 ≤ i) (hi1 : i ≤ 9223372036854775807) (hk0 : -9223372036854775808 ≤ k) (hk1 : k ≤ 9223372036854775807) (hm : Roots w) :
    Calls Tryd.prog 7 #[.slice (some ⟨g, o, none⟩) ss.length cap, .int .i64 i, .int .i64 k, .string other] w fun e w' => e = .returned (.bool true) ∧ Below w.heap.size w w' := by
  have HM : Hid (Roots w) := hm
  have hT : Tx w (.slice (some ⟨g, o, none⟩) ss.length cap) ss := ⟨by have := hok.1; omega, Or.inr ⟨h0, g, o, cap, rfl, hc, hrow⟩⟩
  have hgw : g < w.heap.size := World.block_lt_of_cell? w ⟨g, o + 0, none⟩ (hrow 0 h0)
  have HR : Hid (∀ Y, Below w.heap.size w Y → Calls Tryd.prog 12 #[.slice (some ⟨g, o, none⟩) ss.length cap] Y fun e w' => e = .returned (.tuple #[.string (rootB ss), .int .i64 0]) ∧ Below Y.heap.size Y w') := fun Y hY => Root_yes _ ss Y (hT.up hY) hok (hm.up hY)
  have HP : Hid (∀ (i : Nat) Y, i < ss.length → Below w.heap.size w Y → Calls Tryd.prog 16 #[.slice (some ⟨g, o, none⟩) ss.length cap, .int .i64 i] Y fun e w' => ∃ u, e = .returned (.tuple #[u, .int .i64 0]) ∧ w'.ownsRow Y.heap.size 9 1 u (proofL ss i).length (scs (proofL ss i)) ∧ Below Y.heap.size Y w') := fun i Y hi hY => Proof_yes _ ss i Y (hT.up hY) hok hi (hm.up hY)
  have HSU : Hid (∀ Y, Below w.heap.size w Y → Calls Tryd.prog 24 #[.slice (some ⟨g, o, none⟩) ss.length cap] Y fun e w' => ∃ a c, e = .returned (.slice a (summedL ss).length c) ∧ Tx w' (.slice a (summedL ss).length c) (summedL ss) ∧ Below Y.heap.size Y w') := fun Y hY =>
    (Summed_any _ g o cap ss Y (Nat.le_refl _) h0 hok.1 hc hok.2 (hrow.up hY hgw)).mono fun e w' ⟨gg, cc, he, ho, hb⟩ => ⟨_, _, he, tx_own (by have := summedL_len _ ss (Nat.le_refl _) h0; have := hok.1; omega) ho, hb⟩
  have HC : Hid (∀ Y, Below w.heap.size w Y → ∀ j (hj : j < ss.length), Y.cell? ⟨g, o + j, none⟩ = some (.string ss[j])) := fun Y hY j hj => (hrow.up hY hgw) j hj
  have HOK : Hid (okD ss) := hok
  have HOT : Hid (other.size ≤ 140737488351232) := hot
  have hss : ss.length ≤ 2000 := hok.1
  have hsi : (ss.length : Int) ≤ 2000 := by omega
  have hs0 : (0 : Int) < (ss.length : Int) := by omega
  have hsn : ((ss.length : Int) == 0) = false := beq_eq_false_iff_ne.2 (by omega)
  have HCI : Hid (∀ Y, Calls Tryd.prog 22 #[.int .i64 i, .int .i64 ss.length] Y fun e w' => (∃ r : Nat, r < ss.length ∧ e = .returned (.int .i64 (r : Int))) ∧ w' = Y) := fun Y => choose_any i ss.length Y hi0 hi1 h0 (by omega)
  have HCK : Hid (∀ Y, Calls Tryd.prog 22 #[.int .i64 k, .int .i64 ss.length] Y fun e w' => (∃ r : Nat, r < ss.length ∧ e = .returned (.int .i64 (r : Int))) ∧ w' = Y) := fun Y => choose_any k ss.length Y hk0 hk1 h0 (by omega)
  clear hm hT hok hot hrow hi0 hi1 hk0 hk1
  go_enter Tryd.func7, Tryd.ntmps7
  go_wp2_with fail
  refine (digestBegun_any _ HM.out).mono ?_
  rintro e w1 ⟨rfl, hb1⟩
  have B1 : Hid (Below w.heap.size w w1) := hb1
  clear hb1
  go_wp2_with fail
  refine (HR.out _ B1.out).mono ?_
  rintro e w2 ⟨rfl, hb2⟩
  have B2 : Hid (Below w.heap.size w w2) := bl_tr B1.out hb2
  clear hb2
  go_wp2_with fail
  refine (HCI.out _).mono ?_
  rintro e w' ⟨⟨x, hx, rfl⟩, rfl⟩
  go_wp2_with fail
  refine (HCK.out _).mono ?_
  rintro e w' ⟨⟨y, hy, rfl⟩, rfl⟩
  clear HCI HCK
  go_wp2_with fail
  refine (HP.out x _ hx B2.out).mono ?_
  rintro e w3 ⟨u, rfl, hown3, hb3⟩
  have hpl := proofL_len _ ss x (Nat.le_refl _) h0
  have HU : Hid (Tx w3 u (proofL ss x)) := tx_own (by omega) hown3
  have B3 : Hid (Below w.heap.size w w3) := bl_tr B2.out hb3
  have HPD : Hid (allD (proofL ss x) = true ∧ ∀ p ∈ proofL ss x, digOk p = true) := ⟨List.all_eq_true.2 (proofL_dig _ ss x (Nat.le_refl _)), proofL_dig _ ss x (Nat.le_refl _)⟩
  clear hown3 hb3 HP HR
  obtain ⟨ua, ucap, hu⟩ := HU.out.shape
  subst hu
  have hxi : (x : Int) < (ss.length : Int) := by omega
  have hyi : (y : Int) < (ss.length : Int) := by omega
  have cx3 := HC.out w3 B3.out x hx
  have HXZ : Hid (ss[x].size ≤ 100000) := HOK.out.2 _ (List.getElem_mem hx)
  have HS1 : Hid (∀ Y, Below w3.heap.size w3 Y → Calls Tryd.prog 19 #[.string (rootB ss), .string ss[x], .int .i64 x, .int .i64 ss.length, .slice ua (proofL ss x).length ucap] Y fun e w' => e = .returned (.tuple #[.bool true, .int .i64 0]) ∧ Below Y.heap.size Y w') := fun Y hY => by
    have := Shows_yes (rootB ss) ss[x] x ss.length _ (proofL ss x) Y (HU.out.up hY) (rootB_dig _) HPD.out.1 HXZ.out hss hx (HM.out.up (bl_tr B3.out hY))
    rwa [shows_root ss x hx] at this
  have HS2 : Hid (∀ Y, Below w3.heap.size w3 Y → Calls Tryd.prog 19 #[.string (rootB ss), .string ss[x], .int .i64 y, .int .i64 ss.length, .slice ua (proofL ss x).length ucap] Y fun e w' => e = .returned (.tuple #[.bool (showsB (rootB ss) ss[x] y ss.length (proofL ss x)), .int .i64 0]) ∧ Below Y.heap.size Y w') := fun Y hY =>
    Shows_yes (rootB ss) ss[x] y ss.length _ (proofL ss x) Y (HU.out.up hY) (rootB_dig _) HPD.out.1 HXZ.out hss hy (HM.out.up (bl_tr B3.out hY))
  have HS3 : Hid (other.size ≤ 100000 → ∀ Y, Below w3.heap.size w3 Y → Calls Tryd.prog 19 #[.string (rootB ss), .string other, .int .i64 x, .int .i64 ss.length, .slice ua (proofL ss x).length ucap] Y fun e w' => e = .returned (.tuple #[.bool (showsB (rootB ss) other x ss.length (proofL ss x)), .int .i64 0]) ∧ Below Y.heap.size Y w') := fun hz Y hY =>
    Shows_yes (rootB ss) other x ss.length _ (proofL ss x) Y (HU.out.up hY) (rootB_dig _) HPD.out.1 hz hss hx (HM.out.up (bl_tr B3.out hY))
  have HS4 : Hid (¬ other.size ≤ 100000 → ∀ Y, Below w3.heap.size w3 Y → Calls Tryd.prog 19 #[.string (rootB ss), .string other, .int .i64 x, .int .i64 ss.length, .slice ua (proofL ss x).length ucap] Y fun e w' => e = .returned (.tuple #[.bool false, .int .i64 2]) ∧ w' = Y) := fun hz Y hY =>
    Shows_many (rootB ss) other x ss.length _ (proofL ss x) Y (HU.out.up hY) (rootB_dig _) HPD.out.1 (fun h => hz h.1)
  have HW1 : Hid (∀ Y, Below w3.heap.size w3 Y → Calls Tryd.prog 25 #[.string other, .int .i64 x, .int .i64 ss.length, .slice ua (proofL ss x).length ucap] Y fun e w' => ∃ a c, e = .returned (.slice a (shownT other x ss.length (proofL ss x)).length c) ∧ Tx w' (.slice a (shownT other x ss.length (proofL ss x)).length c) (shownT other x ss.length (proofL ss x)) ∧ Below Y.heap.size Y w') := fun Y hY =>
    (Shown_any other x ss.length _ (proofL ss x) Y hx hss HOT.out (HU.out.up hY) HPD.out.2).mono fun e w' ⟨u, he, ho, hb⟩ => tx_form he (tx_own (by have := shownT_len other x ss.length (proofL ss x) hss h0; omega) ho) hb
  have HW2 : Hid (∀ Y, Below w3.heap.size w3 Y → Calls Tryd.prog 25 #[.string ss[x], .int .i64 y, .int .i64 ss.length, .slice ua (proofL ss x).length ucap] Y fun e w' => ∃ a c, e = .returned (.slice a (shownT ss[x] y ss.length (proofL ss x)).length c) ∧ Tx w' (.slice a (shownT ss[x] y ss.length (proofL ss x)).length c) (shownT ss[x] y ss.length (proofL ss x)) ∧ Below Y.heap.size Y w') := fun Y hY =>
    (Shown_any ss[x] y ss.length _ (proofL ss x) Y hy hss (by have := HXZ.out; omega) (HU.out.up hY) HPD.out.2).mono fun e w' ⟨u, he, ho, hb⟩ => tx_form he (tx_own (by have := shownT_len ss[x] y ss.length (proofL ss x) hss h0; omega) ho) hb
  have HCL : Hid (∀ Y v1 v2 v3, Tx Y v1 (summedL ss) → Tx Y v2 (shownT other x ss.length (proofL ss x)) → Tx Y v3 (shownT ss[x] y ss.length (proofL ss x)) → Calls Tryd.prog 23 #[.slice (some ⟨Y.heap.size, 0, none⟩) 3 3] (Y.alloc (.cells #[v1, v2, v3] 25)) fun e w' => ∃ b, e = .returned (.bool b) ∧ (b = false → InjL (summedL ss ++ shownT other x ss.length (proofL ss x) ++ shownT ss[x] y ss.length (proofL ss x))) ∧ Below Y.heap.size Y w') := fun Y v1 v2 v3 t1 t2 t3 =>
    clash3 Y v1 v2 v3 _ _ _ t1 t2 t3 (summedL_size _ ss (Nat.le_refl _) h0 HOK.out.2) (shownT_size _ _ _ _ HOT.out HPD.out.2) (shownT_size _ _ _ _ (by have := HXZ.out; omega) HPD.out.2) (by
      have a1 := summedL_len _ ss (Nat.le_refl _) h0
      have a2 := shownT_len other x ss.length (proofL ss x) hss h0
      have a3 := shownT_len ss[x] y ss.length (proofL ss x) hss h0
      omega)
  have HF1 : Hid (InjL (summedL ss ++ shownT other x ss.length (proofL ss x) ++ shownT ss[x] y ss.length (proofL ss x)) → showsB (rootB ss) other x ss.length (proofL ss x) = true → other = ss[x]) := fun hinj hs =>
    shows_there ss x x hx other _ hinj (fun z hz => List.mem_append_left _ (List.mem_append_left _ hz)) (fun z hz => List.mem_append_left _ (List.mem_append_right _ hz)) hs
  have HF2 : Hid (InjL (summedL ss ++ shownT other x ss.length (proofL ss x) ++ shownT ss[x] y ss.length (proofL ss x)) → showsB (rootB ss) ss[x] y ss.length (proofL ss x) = true → ss[x] = ss[y]) := fun hinj hs =>
    shows_there ss x y hy ss[x] _ hinj (fun z hz => List.mem_append_left _ (List.mem_append_left _ hz)) (fun z hz => List.mem_append_right _ hz) hs
  have HCX : Hid (∀ Y, Below w3.heap.size w3 Y → Y.cell? ⟨g, o + x, none⟩ = some (.string ss[x])) := fun Y hY => HC.out Y (bl_tr B3.out hY) x hx
  have HCY : Hid (∀ Y, Below w3.heap.size w3 Y → Y.cell? ⟨g, o + y, none⟩ = some (.string ss[y])) := fun Y hY => HC.out Y (bl_tr B3.out hY) y hy
  have HSU3 : Hid (∀ Y, Below w3.heap.size w3 Y → Calls Tryd.prog 24 #[.slice (some ⟨g, o, none⟩) ss.length cap] Y fun e w' => ∃ a c, e = .returned (.slice a (summedL ss).length c) ∧ Tx w' (.slice a (summedL ss).length c) (summedL ss) ∧ Below Y.heap.size Y w') := fun Y hY => HSU.out Y (bl_tr B3.out hY)
  have hpn : (proofL ss x).length ≤ 2000 := by omega
  clear HC HSU HOK HOT HXZ HPD HU HM
  generalize InjL (summedL ss ++ shownT other x ss.length (proofL ss x) ++ shownT ss[x] y ss.length (proofL ss x)) = PJ at *
  generalize summedL ss = L1 at *
  generalize shownT other x ss.length (proofL ss x) = L2 at *
  generalize shownT ss[x] y ss.length (proofL ss x) = L3 at *
  generalize showsB (rootB ss) ss[x] y ss.length (proofL ss x) = bp at *
  generalize showsB (rootB ss) other x ss.length (proofL ss x) = bn at *
  generalize rootB ss = rt at *
  generalize (proofL ss x).length = pn at *
  generalize ss[x] = sx at *
  generalize ss[y] = sy at *
  generalize ss.length = n at *
  go_wp2_with fail
  refine (HS1.out _ (Below.refl _ _)).mono ?_
  rintro e w4 ⟨rfl, hb4⟩
  have B4 : Hid (Below w3.heap.size w3 w4) := hb4
  have cx4 := HCX.out w4 hb4
  clear hb4 cx3
  go_wp2
  go_region_held3 (fun W => Below w3.heap.size w3 W ∧ W.cell? ⟨g, o + x, none⟩ = some (.string sx))
    (first | assumption | (exact ⟨B4.out.drew, HCX.out _ B4.out.drew⟩) | (exact ⟨bl_tr (bl_tr (bl_tr (bl_tr B4.out.drew hb5) hb6) hb7) hb8, HCX.out _ (bl_tr (bl_tr (bl_tr (bl_tr B4.out.drew hb5) hb6) hb7) hb8)⟩) | (exact ⟨bl_tr (And.left (by assumption)) hb7, HCX.out _ (bl_tr (And.left (by assumption)) hb7)⟩) | (exact ⟨bl_tr (And.left (by assumption)) hb6, HCX.out _ (bl_tr (And.left (by assumption)) hb6)⟩) | (exact ⟨bl_tr (And.left (by assumption)) hb5, HCX.out _ (bl_tr (And.left (by assumption)) hb5)⟩) | (exact ⟨bl_al (And.left (by assumption)) _, HCX.out _ (bl_al (And.left (by assumption)) _)⟩) | fail)
    (first
      | (go_at_call 24; refine (HSU3.out _ (And.left (by assumption))).mono ?_; rintro e w5 ⟨a5, c5, rfl, ht5, hb5⟩)
      | (go_at_call_of 25 (Value.string other); refine (HW1.out _ (And.left (by assumption))).mono ?_; rintro e w6 ⟨a6, c6, rfl, ht6, hb6⟩)
      | (go_at_call_of 25 (Value.string sx); refine (HW2.out _ (And.left (by assumption))).mono ?_; rintro e w7 ⟨a7, c7, rfl, ht7, hb7⟩)
      | (go_at_call 23; refine (HCL.out w7 _ _ _ ((ht5.up hb6).up hb7) (ht6.up hb7) ht7).mono ?_; rintro e w8 ⟨b8, rfl, hj8, hb8⟩)
      | fail)
  all_goals
    have B8 : Hid (Below w3.heap.size w3 w8) := bl_tr (bl_tr (bl_tr (bl_tr B4.out.drew hb5) hb6) hb7) hb8
    have J8 : Hid (b8 = false → PJ) := hj8
    have cx8 := HCX.out w8 B8.out
    clear ht5 ht6 ht7 hb5 hb6 hb7 hb8 hj8 cx4
    cases b8 with
    | true =>
      go_wp2
      go_ret
      exact ⟨by simp, bl_tr B3.out B8.out⟩
    | false =>
      have HJ : Hid PJ := J8.out rfl
      by_cases hz : other.size ≤ 100000
      · have HS5 := HS3.out hz
        have HS6 : Hid (∀ Y, Below w3.heap.size w3 Y → Calls Tryd.prog 19 #[.string rt, .string other, .int .i64 x, .int .i64 n, .slice ua pn ucap] Y fun e w' => e = .returned (.tuple #[.bool bn, .int .i64 0]) ∧ Below Y.heap.size Y w') := HS5
        clear hz HS5
        go_wp2_with fail
        refine (HS6.out _ B8.out).mono ?_
        rintro e w9 ⟨rfl, hb9⟩
        have B9 : Hid (Below w3.heap.size w3 w9) := bl_tr B8.out hb9
        have cx9 := HCX.out w9 B9.out
        clear hb9 cx8
        go_wp2_with fail
        refine (HS2.out _ B9.out).mono ?_
        rintro e w10 ⟨rfl, hb10⟩
        have B10 : Hid (Below w3.heap.size w3 w10) := bl_tr B9.out hb10
        have cx10 := HCX.out w10 B10.out
        have cy10 := HCY.out w10 B10.out
        clear hb10 cx9
        cases bn with
        | true =>
          have he : other = sx := HF1.out HJ.out rfl
          have hq1 : (other.toList == sx.toList) = true := eq_bytes.2 he
          have hq2 : (other.toList != sx.toList) = false := by simp [bne, hq1]
          clear he
          cases bp with
          | false =>
            go_wp2
            go_region
            all_goals go_wp2
            all_goals
              go_ret
              exact ⟨by simp, bl_dr (bl_tr B3.out B10.out)⟩
          | true =>
            have hs : sx = sy := HF2.out HJ.out rfl
            have hq3 : (sx.toList == sy.toList) = true := eq_bytes.2 hs
            clear hs
            by_cases hxy : x = y
            · have hxy1 : ((x : Int) == (y : Int)) = true := by simp [hxy]
              clear hxy
              go_wp2
              go_region
              all_goals go_wp2
              all_goals
                go_ret
                exact ⟨by simp, bl_dr (bl_tr B3.out B10.out)⟩
            · have hxy1 : ((x : Int) == (y : Int)) = false := beq_eq_false_iff_ne.2 (by omega)
              clear hxy
              go_wp2
              go_region
              all_goals go_wp2
              all_goals
                go_ret
                exact ⟨by simp, bl_dr (bl_tr B3.out B10.out)⟩
        | false =>
          cases bp with
          | false =>
            go_wp2
            go_region
            all_goals go_wp2
            all_goals
              go_ret
              exact ⟨by simp, bl_dr (bl_tr B3.out B10.out)⟩
          | true =>
            have hs : sx = sy := HF2.out HJ.out rfl
            have hq3 : (sx.toList == sy.toList) = true := eq_bytes.2 hs
            clear hs
            by_cases hxy : x = y
            · have hxy1 : ((x : Int) == (y : Int)) = true := by simp [hxy]
              clear hxy
              go_wp2
              go_region
              all_goals go_wp2
              all_goals
                go_ret
                exact ⟨by simp, bl_dr (bl_tr B3.out B10.out)⟩
            · have hxy1 : ((x : Int) == (y : Int)) = false := beq_eq_false_iff_ne.2 (by omega)
              clear hxy
              go_wp2
              go_region
              all_goals go_wp2
              all_goals
                go_ret
                exact ⟨by simp, bl_dr (bl_tr B3.out B10.out)⟩
      · have HS6 : Hid (∀ Y, Below w3.heap.size w3 Y → Calls Tryd.prog 19 #[.string rt, .string other, .int .i64 x, .int .i64 n, .slice ua pn ucap] Y fun e w' => e = .returned (.tuple #[.bool false, .int .i64 2]) ∧ w' = Y) := HS4.out hz
        clear hz
        go_wp2_with fail
        refine (HS6.out _ B8.out).mono ?_
        rintro e w9 ⟨rfl, rfl⟩
        go_wp2_with fail
        refine (HS2.out _ B8.out).mono ?_
        rintro e w10 ⟨rfl, hb10⟩
        have B10 : Hid (Below w3.heap.size w3 w10) := bl_tr B8.out hb10
        have cx10 := HCX.out w10 B10.out
        have cy10 := HCY.out w10 B10.out
        clear hb10 cx8
        cases bp with
        | false =>
          go_wp2
          go_region
          all_goals go_wp2
          all_goals
            go_ret
            exact ⟨by simp, bl_dr (bl_tr B3.out B10.out)⟩
        | true =>
          have hs : sx = sy := HF2.out HJ.out rfl
          have hq3 : (sx.toList == sy.toList) = true := eq_bytes.2 hs
          clear hs
          by_cases hxy : x = y
          · have hxy1 : ((x : Int) == (y : Int)) = true := by simp [hxy]
            clear hxy
            go_wp2
            go_region
            all_goals go_wp2
            all_goals
              go_ret
              exact ⟨by simp, bl_dr (bl_tr B3.out B10.out)⟩
          · have hxy1 : ((x : Int) == (y : Int)) = false := beq_eq_false_iff_ne.2 (by omega)
            clear hxy
            go_wp2
            go_region
            all_goals go_wp2
            all_goals
              go_ret
              exact ⟨by simp, bl_dr (bl_tr B3.out B10.out)⟩

theorem grd_walk (v : Value) (ss : List ByteArray) (i k : Int) (other : ByteArray) (w : World) (h : Tx w v ss) (hot : other.size ≤ 140737488351232)
    (hi0 : -9223372036854775808 ≤ i) (hi1 : i ≤ 9223372036854775807) (hk0 : -9223372036854775808 ≤ k) (hk1 : k ≤ 9223372036854775807) (hm : Roots w) :
    Calls Tryd.prog 7 #[v, .int .i64 i, .int .i64 k, .string other] w fun e w' => e = .returned (.bool true) ∧ Below w.heap.size w w' := by
  by_cases hok : okD ss
  · rcases h.2 with ⟨rfl, a, cap, rfl⟩ | ⟨h0, g, o, cap, rfl, hc, hrow⟩
    · exact grd_zero _ i k other w h hm
    · exact grd_main g o cap ss i k other w hok h0 hc hrow hot hi0 hi1 hk0 hk1 hm
  · exact grd_no v ss i k other w h hok hm

set_option maxRecDepth 100000 in
theorem grd_lifted (os : Os) (started : os.Started) (H : Type) (enc : TypeId × Value → H) :
    ReturnsInHanded {} Tryd.checked os 7 .any (fun w args => (Rows.digestGuardsSpec.pre enc Tryd.prog Tryd.f7 Rows.digestGuardsRow.domain false w args ∧ laidMetH Tryd.prog Rows.digestGuardsRow.laid w) ∧ sizedMet enc Tryd.prog Tryd.f7 (OpenSpec.ofChange Rows.digestGuardsSpec) false w args)
      (Rows.digestGuardsSpec.post enc Tryd.prog Tryd.f7 false true false false) := by
  refine returns_laid own started (by kernel_rfl) Tryd.func7
    (ChangeSpec.witness_shaped (enc := enc) (C := Tryd.checked) (os := os) (X := fun w _ => laidMetH Tryd.prog Rows.digestGuardsRow.laid w) false (World.laidAll Tryd.prog os Rows.digestGuardsRow.laid) #[.slice none 0 0, .int .i64 0, .int .i64 0, .string ByteArray.empty] 8 (World.laidAll_os _ _ _)
      (World.shaped_of_ZipB (by kernel_rfl) (by kernel_rfl)) (by kernel_rfl) (by kernel_rfl) (by kernel_rfl)
      (by rw [MakeChecks.laidMetH_plain _ _ _ (by kernel_rfl)]; exact laidMet_laidAll _ (by kernel_rfl) (by kernel_rfl))) ?_
  intro W base args ds gs before hval0 hW hsz0 lies _
  have hval : ∀ (j : Nat) t v, Tryd.f7.params[j]? = some t → args[j]? = some v → Value.okWide Tryd.prog W .any base t v := hval0
  have hW' := hW
  obtain ⟨p, q, hA0, hV, rfl, hfz, hnd⟩ := hW
  have hA : DataW.TrodAll enc Tryd.prog W 0 (fun _ => true) true Tryd.f7.params.toList args.toList ds p := hA0
  have hsz : (DataW.weightsEach Tryd.prog (Tryd.f7.params.toList ++ Rows.digestGuardsSpec.plain.varTypes Tryd.prog) (ds ++ gs)).all (· ≤ reachBytes) = true := hsz0
  rw [Tryd.params7] at hA hval hsz
  obtain ⟨v0, v1, v2, v3, d0, d1, d2, d3, p0, p1, p2, p3, rfl, rfl, rfl, h0, h1, h2, h3⟩ := trodAll_four hA
  obtain ⟨rfl, rfl⟩ := trodVars_none hV
  obtain ⟨ss, ht⟩ := arg_tx (hval 0 25 v0 rfl rfl) h0 (arg_len hsz 0 d0 rfl rfl)
  obtain ⟨a1, rfl, rfl, rfl, w1⟩ := open_int Tryd.underlying3 (hval 1 3 v1 rfl rfl) h1
  obtain ⟨a2, rfl, rfl, rfl, w2⟩ := open_int Tryd.underlying3 (hval 2 3 v2 rfl rfl) h2
  obtain ⟨a3, rfl, rfl, rfl, w3⟩ := open_string Tryd.underlying9 (hval 3 9 v3 rfl rfl) h3
  have hr : a3.size ≤ 140737488351232 := by
    have h2 := sized_string hsz (j := 3) (t := 9) rfl rfl
    rw [← d_size (s := a3) rfl] at h2
    exact h2
  have lt0 : ∀ x ∈ p0, x.block < W.heap.size := by obtain ⟨m, hm⟩ := h0; exact DataW.trod_lt m _ _ _ hm
  have r1 : -9223372036854775808 ≤ a1 ∧ a1 ≤ 9223372036854775807 := by simpa [Lit.wf, IntKind.min, IntKind.max, IntKind.signed, IntKind.bits] using w1
  have r2 : -9223372036854775808 ≤ a2 ∧ a2 ≤ 9223372036854775807 := by simpa [Lit.wf, IntKind.min, IntKind.max, IntKind.signed, IntKind.bits] using w2
  clear hA0 hval0
  refine (grd_walk v0 ss a1 a2 a3 W ht hr r1.1 r1.2 r2.1 r2.2 (roots_of_laid lies)).mono fun e W' ⟨he, bel⟩ => ?_
  subst he
  exact ⟨_, rfl, _, _, _, [], _, [], hW', trodAll_mk1 (shut_bool Tryd.underlying4 _), trodAll_mk4 (Below.trod laidOut (by kernel_rfl) (of_decide_eq_true (by kernel_rfl)) h0 bel lt0) (shut_int Tryd.underlying3 w1) (shut_int Tryd.underlying3 w2) (shut_string Tryd.underlying9 w3), rfl, bel.frame _, fun h => by cases h⟩

theorem digestGuards_row : Rows.DigestGuardsSaid :=
  OpenClaim.holds_of_wide 7 Tryd.f7 rfl rfl rfl rfl rfl rfl rfl ⟨rfl, rfl, rfl, rfl, rfl⟩ rfl rfl rfl rfl rfl (by kernel_rfl) Tryd.func7 (by kernel_rfl)
    (of_decide_eq_true (by kernel_rfl)) (by unfold Func.isWrapper; first | (rw [if_pos (by decide +kernel)]; kernel_rfl) | (rw [if_neg (by decide +kernel)]; exact ⟨rfl, rfl⟩))
    (fun os started H enc _ => grd_lifted os started H enc)

theorem digestGuards_holds : Rows.DigestGuardsCardSaid :=
  Claim7.holds_tied_plain_at .later [] Rows.digestGuardsCard.laidKinds true Rows.digestGuardsCard.stood.harness false
    digestGuards_row (fun _ h => by cases h) (by kernel_rfl) (fun _ h => by cases h) digestGuards_row_tie rfl ⟨rfl, rfl⟩ (by kernel_rfl) rfl
    (fun f fn hf hfn => by
      obtain rfl : f = 7 := Option.some.inj ((show Tryd.prog.funcNamed Rows.digestGuardsRow.func = some 7 by kernel_rfl).symm.trans hf) |>.symm
      obtain rfl : fn = Tryd.f7 := (Option.some.inj (Tryd.func7.symm.trans hfn)).symm
      exact ⟨by kernel_rfl, fun j t ht => by
        rw [Tryd.params7] at ht
        have hm : t ∈ [25, 3, 3, 9] := by simpa using Array.mem_of_getElem? ht
        have hall : ([25, 3, 3, 9].all fun u => !Tryd.prog.wantsStandIn u) = true := by kernel_rfl
        exact (show Tryd.prog.wantsStandIn t = false by simpa using List.all_eq_true.1 hall t hm)⟩)
    (by kernel_rfl)
#print axioms digestGuards_holds
end Go.Proofs.YtagelkaenbdlaaaDoor
