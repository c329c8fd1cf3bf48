/- LogGuards, its second form: for every list of texts that holds at most so much (the row's bound) and every three numbers, a log in which a byte of an entry's text is another one has the entries ahead of it, and no more; the list reads behind the call as it read before. -/
import Derived.Test.YtcfplkfddcblnaaLogGd
namespace Go.Proofs.Ytcfplkfddcblnaa
open Go.ChangeShapes Go.WideShapes Go.ChangeAt Go.RowKit Go.Shelf
open Go.ChangeMaps (open_string shut_string)

/-- What is written so far: entries as they are, up to the one that is turned; behind it whatever there is. -/
def Torn (T : List (List UInt8)) (q k : Nat) (S : ByteArray) : Prop :=
  S.size = (flat (T.take k)).length ∧ (k ≤ q ∧ S.data.toList = flat (T.take k) ∨ q < k ∧ ∃ z, S.data.toList = flat (T.take q) ++ z ∧ ∀ y, NoEnt (z ++ y))

theorem turn1 (y : Nat) (h : y < 256) : IntKind.i64.wrap (y : Int) = (y : Int) := wraps_i64 _ (by omega) (by omega)
theorem turn2 (y : Nat) (h : y < 256) : wrap64 (y : Int) = (y : Int) := by unfold wrap64; omega
theorem turn3 (y : Nat) (h : y < 256) : IntKind.i64.wrap ((y : Int) + 1) = (y : Int) + 1 := wraps_i64 _ (by omega) (by omega)
theorem turn4 (y r : Nat) (h : y < 256) (hr : r < 255) : IntKind.i64.wrap ((y : Int) + 1 + (r : Int)) = (y : Int) + 1 + (r : Int) := wraps_i64 _ (by omega) (by omega)
theorem turn5 (y r x : Nat) (hx : x = (y + 1 + r) % 256) : ((y : Int) + 1 + (r : Int)) % 256 = (x : Int) := by omega
theorem turn6 (y r x : Nat) (hx : x = (y + 1 + r) % 256) : ((y : Int) + 1 + (r : Int)).tmod 256 = (x : Int) := (Int.tmod_eq_emod_of_nonneg (by omega)).trans (turn5 y r x hx)
theorem turn7 (x : Nat) (h : x < 256) : IntKind.u8.wrap (x : Int) = (x : Int) := wraps_u8 _ (by omega) (by omega)
theorem turn_facts (y r x : Nat) (hy : y < 256) (hr : r < 255) (hx : x = (y + 1 + r) % 256) : IntKind.i64.wrap (y : Int) = (y : Int) ∧ wrap64 (y : Int) = (y : Int) ∧ IntKind.i64.wrap ((y : Int) + 1) = (y : Int) + 1 ∧ IntKind.i64.wrap ((y : Int) + 1 + (r : Int)) = (y : Int) + 1 + (r : Int) ∧ ((y : Int) + 1 + (r : Int)).tmod 256 = (x : Int) ∧ ((y : Int) + 1 + (r : Int)) % 256 = (x : Int) ∧ IntKind.u8.wrap (x : Int) = (x : Int) :=
  ⟨turn1 y hy, turn2 y hy, turn3 y hy, turn4 y r hy hr, turn6 y r x hx, turn5 y r x hx, turn7 x (by omega)⟩

set_option maxHeartbeats 8000000 in
set_option maxRecDepth 100000 in
theorem lgu_walk (v : Value) (ss : List ByteArray) (c1 c2 c3 : Int) (w : World) (ht : TextsN w v ss) (hT : total ss ≤ 1048576) (h10 : -9223372036854775808 ≤ c1) (h11 : c1 ≤ 9223372036854775807) (h20 : -9223372036854775808 ≤ c2) (h21 : c2 ≤ 9223372036854775807) (h30 : -9223372036854775808 ≤ c3) (h31 : c3 ≤ 9223372036854775807) :
    Calls Try.prog 8 #[v, .int .i64 c1, .int .i64 c2, .int .i64 c3] w fun e w' => e = .returned (.bool true) ∧ Below w.heap.size w w' := by
  have HT : Hid (TextsN w v ss) := ht
  obtain ⟨⟨_, a, cap, rfl, hc⟩, _⟩ := ht
  have hsl := total_len ss
  have hli : (ss.length : Int) ≤ 1048576 := by omega
  have HC : Hid (ss = [] ∨ ∃ g o, a = some ⟨g, o, none⟩ ∧ ∀ j (hj : j < ss.length), w.cell? ⟨g, o + j, none⟩ = some (.string ss[j])) := hc
  have HC2 : Hid (∀ m : Nat, 0 < m → m ≤ 1099511627776 → ∃ r : Nat, r < m ∧ ∀ w, Calls Try.prog 18 #[.int .i64 c2, .int .i64 m] w fun e w' => e = .returned (.int .i64 (r : Int)) ∧ w' = w) := fun m => choose_ex c2 m h20 h21
  obtain ⟨r3, hr3, hC3⟩ := choose_ex c3 255 h30 h31 (by decide) (by decide)
  have HC3 : Hid (∀ w, Calls Try.prog 18 #[.int .i64 c3, .int .i64 255] w fun e w' => e = .returned (.int .i64 (r3 : Int)) ∧ w' = w) := hC3
  clear hC3
  by_cases hne : ss = []
  · subst hne
    clear HC h10 h11 h20 h21 h30 h31 hc
    go_enter Try.func8, Try.ntmps8
    go_wp2_with fail
    refine (logBegun_any w).mono ?_
    rintro e w1 ⟨rfl, hb1⟩
    have B1 : Hid (Below w.heap.size w w1) := hb1
    clear hb1
    go_wp2_with fail
    refine (logBegun_any w1).mono ?_
    rintro e w2 ⟨rfl, hb2⟩
    have B2 : Hid (Below w.heap.size w w2) := B1.out.trans (hb2.mono B1.out.size)
    clear hb2
    go_wp2
    go_ret
    exact ⟨rfl, B2.out⟩
  have hpos : 0 < ss.length := List.length_pos_iff.2 hne
  obtain ⟨q, hq, hC1⟩ := choose_ex c1 ss.length h10 h11 hpos (by omega)
  have HC1 : Hid (∀ w, Calls Try.prog 18 #[.int .i64 c1, .int .i64 ss.length] w fun e w' => e = .returned (.int .i64 (q : Int)) ∧ w' = w) := hC1
  obtain ⟨g, o, rfl, hcell⟩ : ∃ g o, a = some ⟨g, o, none⟩ ∧ ∀ j (hj : j < ss.length), w.cell? ⟨g, o + j, none⟩ = some (.string ss[j]) := by
    rcases HC.out with h | h
    · exact absurd h hne
    · exact h
  have HL : Hid (∀ j (hj : j < ss.length), w.cell? ⟨g, o + j, none⟩ = some (.string ss[j])) := hcell
  have hg0 : g < w.heap.size := World.block_lt_of_cell? w ⟨g, o + 0, none⟩ (hcell 0 hpos)
  have hl0 : ((ss.length : Int) == 0) = false := by simp; omega
  have hqi : (q : Int) < (ss.length : Int) := by omega
  obtain ⟨vq, hslq, hTq⟩ := slice_take w (.slice (some ⟨g, o, none⟩) ss.length cap) ss q HT.out (by omega)
  have HTQ : Hid (TextsN w vq (ss.take q)) := hTq
  clear hC1 hcell HC h10 h11 h20 h21 h30 h31 hc hne hTq
  go_enter Try.func8, Try.ntmps8
  go_wp2_with fail
  refine (logBegun_any w).mono ?_
  rintro e w1 ⟨rfl, hb1⟩
  have B1 : Hid (Below w.heap.size w w1) := hb1
  have cq : w1.cell? ⟨g, o + q, none⟩ = some (.string ss[q]) := (hb1.cell (p := ⟨g, o + q, none⟩) hg0).trans (HL.out q hq)
  clear hb1
  by_cases hz : ss[q].size = 0
  · have hzi : ((ss[q].size : Int) == 0) = true := by rw [hz]; rfl
    generalize ss[q] = y at cq hzi hz
    clear hz
    go_wp2_with (go_at_call 18; refine (HC1.out _).mono ?_; rintro e w' ⟨rfl, rfl⟩)
    go_ret
    exact ⟨rfl, B1.out⟩
  have HZ : Hid (0 < ss[q].size) := by show 0 < _; omega
  have hzi : ((ss[q].size : Int) == 0) = false := beq_eq_false_iff_ne.2 (by omega)
  generalize ss[q] = yq at cq hzi
  clear hz
  go_wp2_with (go_at_call 18; refine (HC1.out _).mono ?_; rintro e w' ⟨rfl, rfl⟩)
  clear cq hzi
  go_loopw [9, 10] (fun sv i wr => ∃ (k : Nat) (S : ByteArray), k ≤ ss.length ∧ Torn (lists ss) q k S ∧ sv = .string S ∧ i = .int .i64 k ∧ (∀ s ∈ ss.take k, s.size ≤ 100000) ∧ Below w.heap.size w wr) (fun _ i _ => ss.length - (intOf i).toNat)
  case atStart => exact ⟨0, ⟨#[]⟩, Nat.zero_le _, ⟨rfl, Or.inl ⟨Nat.zero_le _, rfl⟩⟩, rfl, rfl, by simp, B1.out⟩
  case round =>
    clear B1
    obtain ⟨k, S, hk, hS, rfl, rfl, hsh, hb⟩ := hrel
    have HS : Hid (Torn (lists ss) q k S) := hS
    have HSH : Hid (∀ s ∈ ss.take k, s.size ≤ 100000) := hsh
    have HB : Hid (Below w.heap.size w wr) := hb
    have hSz : S.size ≤ 14680064 := by
      rw [hS.1, show (lists ss).take k = lists (ss.take k) from by simp [lists, List.map_take]]
      have h1 := flat_total (ss.take k) hsh
      have h2 := total_take ss k
      omega
    clear hS hsh hb
    by_cases hlt : k < ss.length
    · have i2 : (k : Int) < (ss.length : Int) := by omega
      have ck : wr.cell? ⟨g, o + k, none⟩ = some (.string ss[k]) := (HB.out.cell (p := ⟨g, o + k, none⟩) hg0).trans (HL.out k hlt)
      by_cases hx : ss[k].size ≤ 100000
      · have hTt : (lists ss).take (k + 1) = (lists ss).take k ++ [ss[k].data.toList] := by
          rw [List.take_succ_eq_append_getElem (by rw [lists_len]; exact hlt)]
          simp [lists]
        have HFN : Hid (flat ((lists ss).take (k + 1)) = flat ((lists ss).take k) ++ ent ss[k].data.toList) := by show _ = _; rw [hTt, flat_snoc]
        have HSN : Hid (∀ s ∈ ss.take (k + 1), s.size ≤ 100000) := by
          intro s hs
          rw [List.take_succ_eq_append_getElem hlt] at hs
          rcases List.mem_append.1 hs with h1 | h1
          · exact HSH.out s h1
          · simp at h1; rw [h1]; exact hx
        obtain ⟨t, ht⟩ : ∃ t : ByteArray, t = ⟨(ent ss[k].data.toList).toArray⟩ := ⟨_, rfl⟩
        have HA : Hid (Calls Try.prog 9 #[.string ⟨#[]⟩, .string ss[k]] wr fun e w' => e = .returned (.tuple #[.string t, .int .i64 0]) ∧ Below wr.heap.size wr w') := by
          have := Append_yes ⟨#[]⟩ ss[k] wr (by decide) hx
          rw [ht]
          exact this
        have htz : t.size = (ent ss[k].data.toList).length := by rw [ht]; exact size_of rfl
        have hel := ent_len ss[k].data.toList
        have hes := size_of (s := ss[k]) rfl
        have h8 := pk_len8 ss[k].data.toList.length (by omega)
        clear hTt
        by_cases hkq : k = q
        · subst hkq
          have hel0 : 0 < ss[k].data.toList.length := by
            have := HZ.out
            rw [← hes]
            exact this
          obtain ⟨r1, hr1, hC2⟩ := HC2.out ss[k].size (by omega) (by omega)
          have hrl : r1 < ss[k].data.toList.length := by omega
          obtain ⟨y0, hy0⟩ : ∃ y0, y0 = (ss[k].data.toList)[r1].toNat := ⟨_, rfl⟩
          have hy256 : y0 < 256 := by rw [hy0]; exact ((ss[k].data.toList)[r1]).toNat_lt
          obtain ⟨x0, hx0⟩ : ∃ x0, x0 = (y0 + 1 + r3) % 256 := ⟨_, rfl⟩
          obtain ⟨kk, hkk, hklt, hget, hlen2, hno⟩ := turned_entry ss[k].data.toList r1 x0 hrl (by omega) (by omega)
          have hktz : kk < t.size := by rw [htz]; exact hklt
          have htk : t[kk].toNat = y0 := by
            have h1 : t[kk] = t.data.toList[kk]'(by rw [Array.length_toList]; exact hktz) := rfl
            have h2 : t.data.toList = ent ss[k].data.toList := by rw [ht]
            rw [h1, List.getElem_of_eq h2, hget, hy0]
          obtain ⟨t2, ht2⟩ : ∃ t2 : ByteArray, t2 = ⟨((ent ss[k].data.toList).set kk (UInt8.ofNat x0)).toArray⟩ := ⟨_, rfl⟩
          have ht2z : t2.size = t.size := by rw [ht2, size_of (s := ⟨((ent ss[k].data.toList).set kk (UInt8.ofNat x0)).toArray⟩) (l := (ent ss[k].data.toList).set kk (UInt8.ofNat x0)) rfl, hlen2, htz]
          obtain ⟨S2, hS2⟩ : ∃ S2 : ByteArray, S2 = ⟨(S.data.toList ++ (ent ss[k].data.toList).set kk (UInt8.ofNat x0)).toArray⟩ := ⟨_, rfl⟩
          have k1 := cat2 S t2 S2 (by rw [ht2, hS2]) (by omega)
          have HT2 : Hid (Torn (lists ss) k (k + 1) S2) := by
            refine ⟨?_, ?_⟩
            · rw [hS2, size_of (s := ⟨(S.data.toList ++ (ent ss[k].data.toList).set kk (UInt8.ofNat x0)).toArray⟩) (l := S.data.toList ++ (ent ss[k].data.toList).set kk (UInt8.ofNat x0)) rfl, HFN.out, List.length_append, List.length_append, ← HS.out.1, size_of (s := S) rfl, hlen2]
            · rcases HS.out.2 with ⟨h1, h2⟩ | ⟨h1, _⟩
              · exact Or.inr ⟨by omega, _, by rw [hS2, ← h2], hno⟩
              · omega
          have HBK : Hid (∀ (W2 : World) (b cp : Nat), (∀ j (hj : j < t.size), W2.cell? ⟨b, j, none⟩ = some (.int .u8 (t[j].toNat : Int))) → (convert 41 9 (.slice (some ⟨b, 0, none⟩) t.size cp)).run Try.prog ((W2.setCell ⟨b, kk, none⟩ (.int .u8 (x0 : Int))).drew) = .ok (.string t2) ((W2.setCell ⟨b, kk, none⟩ (.int .u8 (x0 : Int))).drew)) := by
            intro W2 b cp hcl
            have h2 : t.data.toList = ent ss[k].data.toList := by rw [ht]
            have hL : ((ent ss[k].data.toList).set kk (UInt8.ofNat x0)).length = t.size := by rw [hlen2, htz]
            rw [ht2, ← hL]
            refine run_convert_bytes_back _ 41 9 5 ⟨b, 0, none⟩ cp ((ent ss[k].data.toList).set kk (UInt8.ofNat x0)) Try.underlying41 Try.underlying5 Try.underlying9 fun j hj => ?_
            have hj' : j < t.size := by rw [← hL]; exact hj
            rw [addr_add, Nat.zero_add]
            by_cases hjk : kk = j
            · subst hjk
              have e1 : (UInt8.ofNat x0).toNat = x0 := by simp [UInt8.toNat_ofNat']; omega
              rw [List.getElem_set_self, e1]
              exact World.cell?_setCell_same' W2 ⟨b, kk, none⟩ _ (by show (W2.cell? ⟨b, kk, none⟩).isSome = true; rw [hcl kk hj']; rfl)
            · rw [List.getElem_set_ne hjk]
              refine (World.cell?_setCell_other W2 ⟨b, kk, none⟩ ⟨b, j, none⟩ _ (by intro h; injection h; exact hjk (by assumption))).trans ?_
              have h3 : t[j] = (ent ss[k].data.toList)[j]'(by rw [← htz]; exact hj') := by
                have h1 : t[j] = t.data.toList[j]'(by rw [Array.length_toList]; exact hj') := rfl
                rw [h1, List.getElem_of_eq h2]
              rw [← h3]
              exact hcl j hj'
          have hez : ss[k].size ≤ 100000 := hx
          have hktE : kk = 1 + (pk ss[k].data.toList.length).length + r1 := hkk
          have HC2' : Hid (∀ w, Calls Try.prog 18 #[.int .i64 c2, .int .i64 ss[k].size] w fun e w' => e = .returned (.int .i64 (r1 : Int)) ∧ w' = w) := hC2
          have hkI : (t.size : Int) - 4 - (ss[k].size : Int) + (r1 : Int) = (kk : Int) := by omega
          have hti : (t.size : Int) ≤ 100013 := by omega
          have hei : (ss[k].size : Int) ≤ 100000 := by omega
          have hnei : (ss[k].size : Int) + 4 ≤ (t.size : Int) := by omega
          have hri : (r1 : Int) < (ss[k].size : Int) := by omega
          have hkki : (kk : Int) < (t.size : Int) := by omega
          clear hC2
          generalize hyk : ss[k] = y at ck HA hkI hei hnei hri HC2'
          have hyz : (y.size : Int) = y.size := rfl
          clear hyk hyz hel hes h8 HFN hrl hel0 hy0 hget hlen2 hno hkk hktE hez hx htz hklt hr1 ht2 hS2 ht ht2z
          obtain ⟨w1, w1', w2', w3', w4', w4e, w5'⟩ := turn_facts y0 r3 x0 hy256 hr3 hx0
          go_wp2_with fail
          refine HA.out.mono ?_
          rintro e w2 ⟨rfl, hb2⟩
          have B2 : Hid (Below w.heap.size w w2) := HB.out.trans (hb2.mono HB.out.size)
          obtain ⟨cp, W2, hcv, hcl, hbw⟩ := bytes_of t w2
          have hbk := HBK.out W2 w2.heap.size cp (fun j hj => (hcl j hj).1)
          have B3 : Hid (Below w.heap.size w ((W2.setCell ⟨w2.heap.size, kk, none⟩ (.int .u8 (x0 : Int))).drew)) := ((B2.out.trans (hbw.mono B2.out.size)).setCell (p := ⟨w2.heap.size, kk, none⟩) B2.out.size _).drew
          obtain ⟨ckk, cfr⟩ := hcl kk hktz
          rw [htk] at ckk
          clear hb2 hcl hbw
          have HBk : Hid ((convert 41 9 (.slice (some ⟨w2.heap.size, 0, none⟩) t.size cp)).run Try.prog ((W2.setCell ⟨w2.heap.size, kk, none⟩ (.int .u8 (x0 : Int))).drew) = .ok (.string t2) ((W2.setCell ⟨w2.heap.size, kk, none⟩ (.int .u8 (x0 : Int))).drew)) := hbk
          have HK1 : Hid (∀ W : World, (Op.stringOp .add S t2).run Try.prog W = .ok (.string S2) W) := k1
          clear hbk k1 hslq
          go_wp2_with (go_at_call 18; refine (HC2'.out _).mono ?_; rintro e w' ⟨rfl, rfl⟩)
          clear hcv hkI hti hei hnei hri hl0 hqi hli hsl hr3 hy256 hx0 hSz
          go_region_with (go_at_call 18; refine (HC3.out _).mono ?_; rintro e w' ⟨rfl, rfl⟩)
          all_goals
            have hbk := HBk.out
            have k1 := HK1.out
            go_wp2
            exact ⟨⟨k + 1, S2, by omega, HT2.out, rfl, by go_num, HSN.out, B3.out⟩, by simp [intOf]; omega⟩
        · have hkqi : ((k : Int) == (q : Int)) = false := beq_eq_false_iff_ne.2 (by omega)
          obtain ⟨S2, hS2⟩ : ∃ S2 : ByteArray, S2 = ⟨(S.data.toList ++ ent ss[k].data.toList).toArray⟩ := ⟨_, rfl⟩
          have k1 := cat2 S t S2 (by rw [ht, hS2]) (by omega)
          have HT2 : Hid (Torn (lists ss) q (k + 1) S2) := by
            refine ⟨?_, ?_⟩
            · rw [hS2, size_of (s := ⟨(S.data.toList ++ ent ss[k].data.toList).toArray⟩) (l := S.data.toList ++ ent ss[k].data.toList) rfl, HFN.out, List.length_append, List.length_append, ← HS.out.1, size_of (s := S) rfl]
            · rcases HS.out.2 with ⟨h1, h2⟩ | ⟨h1, z, h2, h3⟩
              · exact Or.inl ⟨by omega, by rw [hS2, HFN.out, ← h2]⟩
              · refine Or.inr ⟨by omega, z ++ ent ss[k].data.toList, by rw [hS2, h2, ← List.append_assoc], fun y => ?_⟩
                rw [List.append_assoc]
                exact h3 _
          generalize ss[k] = y at ck HA hx
          clear hx ht hS2 htz hel hes h8 HFN
          go_wp2_with fail
          refine HA.out.mono ?_
          rintro e w2 ⟨rfl, hb2⟩
          have B2 : Hid (Below w.heap.size w w2) := HB.out.trans (hb2.mono HB.out.size)
          clear hb2
          go_wp2
          exact ⟨⟨k + 1, S2, by omega, HT2.out, rfl, by go_num, HSN.out, B2.out⟩, by simp [intOf]; omega⟩
      · have HA : Hid (Calls Try.prog 9 #[.string ⟨#[]⟩, .string ss[k]] wr fun e w' => e = .returned (.tuple #[.string ⟨#[]⟩, .int .i64 2]) ∧ w' = wr) := Append_no ⟨#[]⟩ ss[k] wr (by omega)
        generalize ss[k] = y at ck HA hx
        clear hx
        go_wp2_with fail
        refine HA.out.mono ?_
        rintro e w2 ⟨rfl, rfl⟩
        go_wp2
        go_ret
        exact ⟨rfl, HB.out⟩
    · obtain rfl : k = ss.length := by omega
      have HSH3 : Hid (∀ s ∈ ss, s.size ≤ 100000) := by have := HSH.out; rwa [List.take_length] at this
      have hX : ∃ p, S.data.toList = flat ((lists ss).take q) ++ p ∧ NoEnt p := by
        rcases HS.out.2 with ⟨h, _⟩ | ⟨_, z, h1, h2⟩
        · omega
        · exact ⟨z, h1, by have := h2 []; rwa [List.append_nil] at this⟩
      obtain ⟨p, hp, hpn⟩ := hX
      have hTq : (lists ss).take q = lists (ss.take q) := by simp [lists, List.map_take]
      rw [hTq] at hp
      have HRD : Hid (∀ w, Calls Try.prog 13 #[.string S] w fun e w' => ∃ v, e = .returned (.tuple #[v, .int .i64 ((flat (lists (ss.take q))).length : Nat)]) ∧ w'.ownsRow w.heap.size 9 1 v (lists (ss.take q)).length (strs (lists (ss.take q))) ∧ Below w.heap.size w w') := fun w => Read_any S (lists (ss.take q)) p w (by omega) hp (lists_short _ fun s hs => HSH3.out s (List.mem_of_mem_take hs)) hpn
      have hll2 : (lists (ss.take q)).length ≤ 4611686018427387904 := by rw [lists_len, List.length_take]; omega
      generalize (flat (lists (ss.take q))).length = n at HRD
      clear hp hpn hTq HS HSH
      go_wp2_with fail
      refine (HRD.out _).mono ?_
      rintro e w3 ⟨v3, rfl, ho3, hb3⟩
      have B3 : Hid (Below w.heap.size w w3) := HB.out.trans (hb3.mono HB.out.size)
      have P3 : Hid (IsTexts w3 v3 (ss.take q)) := by
        have := own_texts ho3 hll2
        rwa [lists_back] at this
      have Q3 : Hid (IsTexts w3 vq (ss.take q)) := (HTQ.out.up B3.out).1
      clear hb3 ho3 HRD
      go_wp2_with fail
      refine (same_any _ _ _ _ _ P3.out Q3.out).mono ?_
      rintro e w4 ⟨rfl, m, rfl⟩
      have B4 : Hid (Below w.heap.size w (w3.drewN m)) := ⟨B3.out.os, B3.out.tape, B3.out.output, B3.out.size, B3.out.block⟩
      rw [decide_eq_true rfl]
      go_wp2
      go_ret
      exact ⟨rfl, B4.out⟩

set_option maxRecDepth 100000 in
theorem lgu_lifted (os : Os) (started : os.Started) (H : Type) (enc : TypeId × Value → H) (F : Stop.Interp) :
    ReturnsInHanded {} Try.checked os 8 .any ((Rows.OpenSpec.upto Rows.logGuardsSpec).pre6 enc Try.prog Try.f8 Rows.logGuardsUptoRow.domain false) (((Rows.OpenSpec.upto Rows.logGuardsSpec).at F).post enc Try.prog Try.f8 false true false false) := by
  refine returnsInHanded_of_cond (C := Try.checked) (s := Rows.OpenSpec.upto Rows.logGuardsSpec) (k := Rows.uptoSmall) rfl own started (by kernel_rfl) Try.func8
    (OpenSpec.witness (enc := enc) (C := Try.checked) (s := Rows.OpenSpec.upto Rows.logGuardsSpec) (k := Rows.uptoSmall) rfl false ⟨#[], #[.slice none 0 0, .int .i64 0, .int .i64 0, .int .i64 0], []⟩ 8 (by kernel_rfl) (by kernel_rfl) (by kernel_rfl)
      (x := ([.nil, .lit (.int .i64 0), .lit (.int .i64 0), .lit (.int .i64 0)], [], [])) (by kernel_rfl) rfl (by kernel_rfl)) ?_
  intro W base args ds gs before hval0 hW _ hk _
  have hval : ∀ (j : Nat) t v, Try.f8.params[j]? = some t → args[j]? = some v → Value.okWide Try.prog W .any base t v := hval0
  have hW' := hW
  obtain ⟨p, q, hA0, hV, rfl, hfz, hnd⟩ := hW
  have hA : DataW.TrodAll enc Try.prog W 0 (fun _ => true) true Try.f8.params.toList args.toList ds p := hA0
  rw [Try.params8] at hA hval
  obtain ⟨v0, vs0, d0, ds0, p0, q0, hargs, rfl, rfl, h0, r0⟩ := trodAll_cons hA
  obtain ⟨v1, vs1, d1, ds1, p1, q1, rfl, rfl, rfl, h1, r1⟩ := trodAll_cons r0
  obtain ⟨v2, vs2, d2, ds2, p2, q2, rfl, rfl, rfl, h2, r2⟩ := trodAll_cons r1
  obtain ⟨v3, vs3, d3, ds3, p3, q3, rfl, rfl, rfl, h3, r3⟩ := trodAll_cons r2
  obtain ⟨rfl, rfl, rfl⟩ := trodAll_nil r3
  obtain rfl : args = #[v0, v1, v2, v3] := by cases args; simp_all
  obtain ⟨rfl, rfl⟩ := trodVars_none hV
  obtain ⟨a1, rfl, rfl, rfl, w1⟩ := open_int Try.underlying3 (hval 1 3 v1 rfl rfl) h1
  obtain ⟨a2, rfl, rfl, rfl, w2⟩ := open_int Try.underlying3 (hval 2 3 v2 rfl rfl) h2
  obtain ⟨a3, rfl, rfl, rfl, w3⟩ := open_int Try.underlying3 (hval 3 3 v3 rfl rfl) h3
  have x1 : -9223372036854775808 ≤ a1 ∧ a1 ≤ 9223372036854775807 := by simpa [Lit.wf, IntKind.min, IntKind.max, IntKind.signed, IntKind.bits] using w1
  have x2 : -9223372036854775808 ≤ a2 ∧ a2 ≤ 9223372036854775807 := by simpa [Lit.wf, IntKind.min, IntKind.max, IntKind.signed, IntKind.bits] using w2
  have x3 : -9223372036854775808 ≤ a3 ∧ a3 ≤ 9223372036854775807 := by simpa [Lit.wf, IntKind.min, IntKind.max, IntKind.signed, IntKind.bits] using w3
  have h2 := of_decide_eq_true hk
  simp only [List.cons_append, List.nil_append, Rows.uptoBulkAll, Rows.uptoBulk] at h2
  obtain ⟨ss, ht, hT⟩ := arg_textsN (hval 0 29 v0 rfl rfl) h0 (by omega)
  have lt0 : ∀ x ∈ p0, x.block < W.heap.size := by obtain ⟨m, hm⟩ := h0; exact DataW.trod_lt m _ _ _ hm
  clear hA0 hval0
  refine (lgu_walk v0 ss a1 a2 a3 W ht (by omega) x1.1 x1.2 x2.1 x2.2 x3.1 x3.2).mono fun e W' ⟨he, bel⟩ => ?_
  subst he
  exact ⟨_, rfl, _, _, _, [], _, [], hW', trodAll_mk1 (shut_bool Try.underlying4 _), trodAll_cons_mk (Below.trod laidOut (by kernel_rfl) (of_decide_eq_true (by kernel_rfl)) h0 bel lt0) (trodAll_cons_mk (shut_int Try.underlying3 w1) (trodAll_cons_mk (shut_int Try.underlying3 w2) (trodAll_cons_mk (shut_int Try.underlying3 w3) trodAll_mk0))), rfl, bel.frame _, fun h => by cases h⟩

theorem logGuards_holds : Rows.LogGuardsUptoSaid :=
  OpenClaim.holds_of_cond 8 Try.f8 rfl rfl rfl rfl rfl rfl rfl ⟨rfl, rfl, rfl, rfl, rfl⟩ rfl rfl rfl rfl rfl (by kernel_rfl) Try.func8 (by kernel_rfl)
    (of_decide_eq_true (by kernel_rfl)) (by unfold Func.isWrapper; first | (rw [if_pos (by decide +kernel)]; kernel_rfl) | (rw [if_neg (by decide +kernel)]; exact ⟨rfl, rfl⟩))
    (fun os started H enc _ F => lgu_lifted os started H enc F)
#print axioms logGuards_holds
end Go.Proofs.Ytcfplkfddcblnaa
