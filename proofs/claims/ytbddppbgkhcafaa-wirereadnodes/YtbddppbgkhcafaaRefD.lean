/- What the document's own CheckNodes, Rise and PackNodes answer. -/
import Derived.Test.YtbddppbgkhcafaaPackD
import Derived.Test.YtbddppbgkhcafaaNames2
import Derived.Test.YtbddppbgkhcafaaRefTexts
import Derived.Test.YtbddppbgkhcafaaList
import Derived.Deep.RegionHeld3
namespace Go.Proofs.Ytbddppbgkhcafaa
open Go.RowKit Go.Shelf

theorem leq_lss : ∀ (y x : List UInt8), (Op.bytesLess y x || y == x) = !Op.bytesLess x y
  | [], [] => rfl
  | [], _ :: _ => rfl
  | _ :: _, [] => rfl
  | a :: y, b :: x => by
    have ih := leq_lss y x
    have h1 : (a < b) = (a.toNat < b.toNat) := rfl
    have h2 : (b < a) = (b.toNat < a.toNat) := rfl
    unfold Op.bytesLess
    rcases Nat.lt_trichotomy a.toNat b.toNat with h | h | h
    · have hne : a ≠ b := fun e => by rw [e] at h; omega
      have h3 : ¬ b.toNat < a.toNat := by omega
      simp [h1, h2, h, h3, hne.symm]
    · obtain rfl : a = b := UInt8.toNat_inj.1 h
      simp [h1] at ih ⊢
      exact ih
    · have hne : a ≠ b := fun e => by rw [e] at h; omega
      have h3 : ¬ a.toNat < b.toNat := by omega
      simp [h1, h2, h, h3, hne]
theorem less_cls (a b : ByteArray) : (less a b = true ∧ Op.bytesLess b.toList a.toList = false ∧ (b.toList == a.toList) = false) ∨ (less a b = false ∧ Op.bytesLess b.toList a.toList = true) ∨ (less a b = false ∧ Op.bytesLess b.toList a.toList = false ∧ (b.toList == a.toList) = true) := by
  have h := leq_lss b.toList a.toList
  unfold less
  cases h1 : Op.bytesLess a.toList b.toList <;> cases h2 : Op.bytesLess b.toList a.toList <;> cases h3 : (b.toList == a.toList) <;> simp_all

set_option maxHeartbeats 1000000 in
set_option maxRecDepth 100000 in
theorem Rise_zero (a : Option Addr) (cap : Nat) (w : World) : Calls Try.prog 16 #[.slice a 0 cap] w fun e w' => e = .returned (.bool true) ∧ w' = w := by
  go_enter Try.func16, Try.ntmps16
  go_wp2
  refine wp_loop_rounds 1 ?_
  rw [rounds_succ]
  go_wp2
  go_ret
  exact ⟨rfl, rfl⟩

set_option maxHeartbeats 2000000 in
set_option maxRecDepth 100000 in
theorem Rise_some (g o cap : Nat) (ss : List ByteArray) (w : World) (hn : ss.length ≤ 4611686018427387904) (hg : g < w.heap.size) (hc : ∀ j (hj : j < ss.length), w.cell? ⟨g, o + j, none⟩ = some (.string ss[j])) :
    Calls Try.prog 16 #[.slice (some ⟨g, o, none⟩) ss.length cap] w fun e w' => e = .returned (.bool (riseB ss)) ∧ Below w.heap.size w w' := by
  have HC : Hid _ := hc
  have hn1 : (ss.length : Int) ≤ 4611686018427387904 := by omega
  clear hc
  go_enter Try.func16, Try.ntmps16
  go_wp2
  go_loopw [3] (fun i wr => ∃ k : Nat, 1 ≤ k ∧ k ≤ max 1 ss.length ∧ i = .int .i64 k ∧ (∀ j, (hj : j + 1 < ss.length) → j + 1 < k → less ss[j] ss[j + 1] = true) ∧ Below w.heap.size w wr) (fun i _ => ss.length - (intOf i).toNat)
  case atStart => exact ⟨1, by omega, by omega, rfl, by omega, Below.refl _ _⟩
  case round =>
    obtain ⟨k, hk1, hk, rfl, hlo, hb⟩ := hrel
    have HL : Hid _ := hlo
    have HB : Hid (Below w.heap.size w wr) := hb
    clear hlo hb
    by_cases hlt : k < ss.length
    · obtain ⟨m, rfl⟩ : ∃ m, k = m + 1 := ⟨k - 1, by omega⟩
      have a0 := (HB.out.cell (p := ⟨g, o + m, none⟩) hg).trans (HC.out m (by omega))
      have b0 := (HB.out.cell (p := ⟨g, o + (m + 1), none⟩) hg).trans (HC.out (m + 1) hlt)
      have i1 : (0 : Int) ≤ (m : Int) := by omega
      have i2 : (m : Int) < ss.length := by omega
      have i3 : (0 : Int) ≤ (m : Int) + 1 := by omega
      have i4 : (m : Int) + 1 < ss.length := by omega
      have i5 : IntKind.i64.wrap ((m : Int) + 1 - 1) = m := by rw [wraps_i64 _ (by omega) (by omega)]; omega
      have i6 : IntKind.i64.wrap (m : Int) = m := wraps_i64 _ (by omega) (by omega)
      have i7 : ((m : Int) + 1).toNat = m + 1 := by omega
      rcases less_cls ss[m] ss[m + 1] with ⟨h1, h2, h3⟩ | ⟨h1, h2⟩ | ⟨h1, h2, h3⟩
      · have HLS : Hid _ := h1
        clear h1
        go_wp2_with fail
        go_region_held3 (fun w' => w'.cell? ⟨g, o + m, none⟩ = some (.string ss[m]) ∧ w'.cell? ⟨g, o + (m + 1), none⟩ = some (.string ss[m + 1])) (first | (simp [go_sem, *]; done) | (go_split_ands; constructor <;> assumption)) (fail)
        go_wp2
        refine ⟨⟨m + 2, by omega, by omega, by go_num, fun j hj hjk => ?_, HB.out.drew⟩, by simp [intOf]; omega⟩
        by_cases h : j + 1 < m + 1
        · exact HL.out j hj h
        · obtain rfl : j = m := by omega
          exact HLS.out
      · have HLS : Hid _ := h1
        clear h1
        go_wp2_with fail
        go_region_held3 (fun w' => w'.cell? ⟨g, o + m, none⟩ = some (.string ss[m]) ∧ w'.cell? ⟨g, o + (m + 1), none⟩ = some (.string ss[m + 1])) (first | (simp [go_sem, *]; done) | (go_split_ands; constructor <;> assumption)) (fail)
        go_wp2
        go_ret
        refine ⟨?_, HB.out.drew⟩
        rw [riseB_no ss m hlt HLS.out]
        rfl
      · have HLS : Hid _ := h1
        clear h1
        go_wp2_with fail
        go_region_held3 (fun w' => w'.cell? ⟨g, o + m, none⟩ = some (.string ss[m]) ∧ w'.cell? ⟨g, o + (m + 1), none⟩ = some (.string ss[m + 1])) (first | (simp [go_sem, *]; done) | (go_split_ands; constructor <;> assumption)) (fail)
        go_wp2
        go_ret
        refine ⟨?_, HB.out.drew⟩
        rw [riseB_no ss m hlt HLS.out]
        rfl
    · go_wp2
      go_ret
      refine ⟨?_, HB.out⟩
      rw [riseB_yes ss (fun j hj => HL.out j hj (by omega))]
      rfl

def nmCells (l : List Nd) : List Value := l.map fun n => .string n.1
theorem Rise_own (ns : List Nd) (v : Value) (w : World) (base : Nat) (hn : ns.length ≤ 60) (h : w.ownsRow base 9 1 v ns.length (nmCells ns)) :
    Calls Try.prog 16 #[v] w fun e w' => e = .returned (.bool (riseB (ns.map (·.1)))) ∧ Below w.heap.size w w' := by
  have hcells := fun (g : Nat) (hg : v.ownBlock = some g) => h.cells hg
  rcases h.2 with ⟨h1, h2⟩ | ⟨g, cap, cur, hv, _, hh, _⟩
  · rw [List.length_eq_zero_iff.1 h2, h1]
    refine (Rise_zero none 0 w).mono ?_
    rintro e w' ⟨rfl, rfl⟩
    exact ⟨rfl, Below.refl _ _⟩
  · subst hv
    have := Rise_some g 0 cap (ns.map (·.1)) w (by simp; omega) (Array.getElem?_eq_some_iff.1 hh).1 (fun j hj => by
      have hj' : j < ns.length := by simpa using hj
      have := hcells g rfl j (.string (ns.map (·.1))[j]) (by simp [nmCells, List.getElem?_eq_getElem hj'])
      rwa [show (⟨g, 0, none⟩ : Addr).add j = ⟨g, 0 + j, none⟩ from addr_add g 0 j] at this)
    rw [List.length_map] at this
    exact this
theorem kindNo_no {k : Int} (h : kindNo k = false) : 1 ≤ k ∧ k ≤ 3 := by
  simp [kindNo] at h
  omega
theorem kindNo_yes {k : Int} (h : kindNo k = true) : k < 1 ∨ (1 ≤ k ∧ 3 < k) := by
  simp [kindNo] at h
  omega

set_option maxHeartbeats 2000000 in
set_option maxRecDepth 100000 in
theorem ck_some (g o cap : Nat) (ns : List Nd) (w : World) (hn : ns.length ≤ 60) (hc : NdAt g o ns w) (hg : g < w.heap.size) (hm : ∀ n ∈ ns, n.1.size ≤ maxLen ∧ n.2.2.size ≤ maxLen) :
    Calls Try.prog 6 #[.slice (some ⟨g, o, none⟩) ns.length cap] w fun e w' => e = .returned (.int .i64 (neC ns)) ∧ Below w.heap.size w w' := by
  obtain ⟨i0, hi, hz0, hz1, hz2⟩ := info_parts infS
  have HC : Hid (NdAt g o ns w) := hc
  have HM : Hid _ := hm
  have hn1 : (ns.length : Int) ≤ 60 := by omega
  clear hc hm
  go_enter Try.func6, Try.ntmps6
  go_wp2
  go_loopw [3, 4] (fun v i wr => ∃ k : Nat, k ≤ ns.length ∧ i = .int .i64 k ∧ wr.ownsRow w.heap.size 9 1 v k (nmCells (ns.take k)) ∧ (∀ j, (hj : j < ns.length) → j < k → ndE ns[j] = 0) ∧ Below w.heap.size w wr) (fun _ i _ => ns.length - (intOf i).toNat)
  case atStart => exact ⟨0, by omega, rfl, World.ownsRow_nil _ _ _ _, by omega, Below.refl _ _⟩
  case round =>
    obtain ⟨k, hk, rfl, hown, hlo, hb⟩ := hrel
    have HL : Hid _ := hlo
    have HB : Hid (Below w.heap.size w wr) := hb
    have HO : Hid (wr.ownsRow w.heap.size 9 1 u3 k (nmCells (ns.take k))) := hown
    have hsz := hb.size
    clear hlo hb hown
    by_cases hlt : k < ns.length
    · obtain ⟨a0, a1, a2⟩ := HC.out.below HB.out hg k hlt
      have hx := HM.out _ (List.getElem_mem hlt)
      generalize hx' : ns[k] = x at a0 a1 a2 hx
      obtain ⟨xa, xk, xd⟩ := x
      have HX : Hid (ns[k] = (xa, xk, xd)) := hx'
      simp only at a0 a1 a2 hx
      have HX1 : Hid (xa.size ≤ maxLen) := hx.1
      have HX2 : Hid (xd.size ≤ maxLen) := hx.2
      have i2 : (k : Int) < ns.length := by omega
      clear hx hx'
      by_cases h1 : nameOk xa = true
      · by_cases h2 : digOk xd = true
        · by_cases h3 : kindNo xk = true
          · have HR : Hid (ndE (xa, xk, xd) = 7) := by show _ = _; simp [ndE, h1, h2, h3]
            have hkk := kindNo_yes h3
            clear h3
            rcases hkk with hkk | ⟨hk1, hkk⟩
            all_goals
              go_wp2_with fail
              refine (RIsName_any xa _ HX1.out).mono ?_
              rintro e w1 ⟨rfl, rfl⟩
              rw [h1]
              go_wp2_with fail
              refine (RIsDigest_any xd _ HX2.out).mono ?_
              rintro e w1 ⟨rfl, rfl⟩
              rw [h2]
              go_wp2
              go_ret
              refine ⟨?_, HB.out⟩
              have e1 := ndEs_no ns k hlt HL.out (by rw [HX.out, HR.out]; decide)
              rw [HX.out, HR.out] at e1
              unfold neC
              rw [if_neg (by omega), if_neg (by rw [e1]; decide), e1]
              rfl
          · have h3' : kindNo xk = false := by simpa using h3
            have HR : Hid (ndE (xa, xk, xd) = 0) := by show _ = _; simp [ndE, h1, h2, h3']
            obtain ⟨hk1, hk3⟩ := kindNo_no h3'
            clear h3 h3'
            go_wp2_with fail
            refine (RIsName_any xa _ HX1.out).mono ?_
            rintro e w1 ⟨rfl, rfl⟩
            rw [h1]
            go_wp2_with fail
            refine (RIsDigest_any xd _ HX2.out).mono ?_
            rintro e w1 ⟨rfl, rfl⟩
            rw [h2]
            go_wp2_with (at_builtin; refine wpList_append_own _ rfl _ _ 38 rfl w.heap.size 9 i0 (.string ⟨#[]⟩) 1 16 Try.underlying38 hi hz0 hz1 hz2 rfl (by decide) _ _ _ rfl (HO.out.alloc _) ⟨w1.heap.size, 0, none⟩ 1 1 [.string xa] rfl rfl ?c1 ?c2 ?c3 ?c4 ?c5 ?_)
            case c1 =>
              intro j u hj
              match j, hj with
              | 0, hj => simp at hj; subst hj; simp [Addr.add]
            case c2 => intro u hu; simp at hu; subst hu; rfl
            case c3 => unfold maxLen; omega
            case c4 => omega
            case c5 => simp; omega
            intro v' w4 hown4 hg4 _
            have hrow : ∀ j, u3.ownBlock = some j → w.heap.size ≤ j := fun j hj => (HO.out.lt j hj).1
            have HB4 : Hid (Below w.heap.size w w4) := (HB.out.alloc hsz _).grown hg4 (by simp; omega) hrow
            have HO4 : Hid (w4.ownsRow w.heap.size 9 1 v' (k + 1) (nmCells (ns.take k) ++ [.string xa])) := hown4
            clear hown4 hg4 hrow
            go_wp2
            refine ⟨⟨k + 1, by omega, by go_num, ?_, fun j hj hjk => ?_, HB4.out⟩, by simp [intOf]; omega⟩
            · rw [List.take_succ_eq_append_getElem hlt, HX.out, show nmCells (ns.take k ++ [(xa, xk, xd)]) = nmCells (ns.take k) ++ [.string xa] from by simp [nmCells]]
              exact HO4.out
            · by_cases h : j < k
              · exact HL.out j hj h
              · obtain rfl : j = k := by omega
                rw [HX.out]; exact HR.out
        · have h2' : digOk xd = false := by simpa using h2
          have HR : Hid (ndE (xa, xk, xd) = 1) := by show _ = _; simp [ndE, h2']
          clear h2
          go_wp2_with fail
          refine (RIsName_any xa _ HX1.out).mono ?_
          rintro e w1 ⟨rfl, rfl⟩
          rw [h1]
          go_wp2_with fail
          refine (RIsDigest_any xd _ HX2.out).mono ?_
          rintro e w1 ⟨rfl, rfl⟩
          rw [h2']
          go_wp2
          go_ret
          refine ⟨?_, HB.out⟩
          have e1 := ndEs_no ns k hlt HL.out (by rw [HX.out, HR.out]; decide)
          rw [HX.out, HR.out] at e1
          unfold neC
          rw [if_neg (by omega), if_neg (by rw [e1]; decide), e1]
          rfl
      · have h1' : nameOk xa = false := by simpa using h1
        have HR : Hid (ndE (xa, xk, xd) = 1) := by show _ = _; simp [ndE, h1']
        clear h1
        go_wp2_with fail
        refine (RIsName_any xa _ HX1.out).mono ?_
        rintro e w1 ⟨rfl, rfl⟩
        rw [h1']
        go_wp2
        go_ret
        refine ⟨?_, HB.out⟩
        have e1 := ndEs_no ns k hlt HL.out (by rw [HX.out, HR.out]; decide)
        rw [HX.out, HR.out] at e1
        unfold neC
        rw [if_neg (by omega), if_neg (by rw [e1]; decide), e1]
        rfl
    · obtain rfl : k = ns.length := by omega
      have HOK : Hid (ndEs ns = 0) := ndEs_yes ns (fun j hj => HL.out j hj hj)
      have ho : wr.ownsRow w.heap.size 9 1 u3 ns.length (nmCells ns) := by have := HO.out; rwa [List.take_length] at this
      have HO2 : Hid (wr.ownsRow w.heap.size 9 1 u3 ns.length (nmCells ns)) := ho
      obtain ⟨ax, cx, rfl⟩ := own_shape ho
      clear ho HO
      go_wp2_with fail
      refine (Rise_own ns _ wr w.heap.size hn HO2.out).mono ?_
      rintro e w2 ⟨rfl, hb2⟩
      have HB2 : Hid (Below w.heap.size w w2) := HB.out.trans (hb2.mono HB.out.size)
      clear hb2
      by_cases h0 : riseB (ns.map (·.1)) = true
      · rw [h0]
        have H0 : Hid _ := h0
        clear h0
        go_wp2
        go_ret
        refine ⟨?_, HB2.out⟩
        unfold neC
        rw [if_neg (by omega), if_pos HOK.out, if_pos H0.out]
        rfl
      · have h0' : riseB (ns.map (·.1)) = false := by simpa using h0
        rw [h0']
        have H0 : Hid _ := h0
        clear h0 h0'
        go_wp2
        go_ret
        refine ⟨?_, HB2.out⟩
        unfold neC
        rw [if_neg (by omega), if_pos HOK.out, if_neg H0.out]
        rfl

set_option maxHeartbeats 2000000 in
set_option maxRecDepth 100000 in
theorem ck_zero (a : Option Addr) (cap : Nat) (w : World) :
    Calls Try.prog 6 #[.slice a 0 cap] w fun e w' => e = .returned (.int .i64 0) ∧ w' = w := by
  go_enter Try.func6, Try.ntmps6
  go_wp2
  refine wp_loop_rounds 1 ?_
  rw [rounds_succ]
  go_wp2_with fail
  refine (Rise_zero none 0 w).mono ?_
  rintro e w2 ⟨rfl, rfl⟩
  go_wp2
  go_ret
  exact ⟨rfl, rfl⟩

set_option maxHeartbeats 1000000 in
theorem ck_many (a : Option Addr) (n cap : Nat) (w : World) (hn : 60 < n) :
    Calls Try.prog 6 #[.slice a n cap] w fun e w' => e = .returned (.int .i64 2) ∧ w' = w := by
  have hn1 : 60 < (n : Int) := by omega
  go_enter Try.func6, Try.ntmps6
  go_wp2
  go_ret
  exact ⟨rfl, rfl⟩

theorem ck_any (v : Value) (ns : List Nd) (w : World) (h : IsNodes w v ns) :
    Calls Try.prog 6 #[v] w fun e w' => e = .returned (.int .i64 (neC ns)) ∧ Below w.heap.size w w' := by
  obtain ⟨_, hm, a, cap, rfl, hs⟩ := h
  by_cases hn : 60 < ns.length
  · refine (ck_many a ns.length cap w hn).mono ?_
    rintro e w' ⟨rfl, rfl⟩
    exact ⟨by unfold neC; rw [if_pos hn], Below.refl _ _⟩
  · rcases hs with rfl | ⟨g, o, rfl, hg, hc⟩
    · refine (ck_zero a cap w).mono ?_
      rintro e w' ⟨rfl, rfl⟩
      exact ⟨rfl, Below.refl _ _⟩
    · exact ck_some g o cap ns w (by omega) hc hg hm

set_option maxHeartbeats 2000000 in
set_option maxRecDepth 100000 in
theorem packnodes_some (B g o cap : Nat) (ns : List Nd) (w : World) (hok : okDs ns) (hg : g < B) (hB : B ≤ w.heap.size) (hc : NdAt g o ns w) :
    Calls Try.prog 7 #[.slice (some ⟨g, o, none⟩) ns.length cap] w fun e w' => e = .returned (.string ⟨(pk ns.length ++ pkDD ns).toArray⟩) ∧ Below B w w' := by
  have HC : Hid (NdAt g o ns w) := hc
  have HS : Hid _ := hok.2
  have HT : Hid _ := pkDs_len ns hok
  have hn := hok.1
  have hn1 : (ns.length : Int) ≤ 60 := by omega
  clear hc hok
  go_enter Try.func7, Try.ntmps7
  go_wp2_with fail
  refine (packn_any ns.length ns.length w (Nat.le_refl _) (by omega)).mono ?_
  rintro e w1 ⟨rfl, hb1⟩
  have B1 : Hid (Below B w w1) := hb1.mono hB
  clear hb1
  go_wp2_with fail
  go_loopw [3, 4] (fun s i wr => ∃ k : Nat, k ≤ ns.length ∧ i = .int .i64 k ∧ s = .string ⟨(pk ns.length ++ pkDD (ns.take k)).toArray⟩ ∧ Below B w wr) (fun _ i _ => ns.length - (intOf i).toNat)
  case atStart => exact ⟨0, Nat.zero_le _, rfl, by simp [pkDD], B1.out⟩
  case round =>
    obtain ⟨k, hk, rfl, rfl, hb⟩ := hrel
    have H3 : Hid (Below B w wr) := hb
    have hsz := hb.size
    by_cases hlt : k < ns.length
    · obtain ⟨a0, a1, a2⟩ := HC.out.below hb hg k hlt
      have hsp : pkDD (ns.take (k + 1)) = pkDD (ns.take k) ++ pkD ns[k] := by rw [List.take_succ_eq_append_getElem hlt, pkDD_append]; simp [pkDD]
      have hle : (pkDD (ns.take (k + 1))).length ≤ (pkDD ns).length := by
        have e1 : pkDD ns = pkDD (ns.take (k + 1)) ++ pkDD (ns.drop (k + 1)) := by rw [← pkDD_append, List.take_append_drop]
        rw [e1, List.length_append]
        omega
      have ho := HS.out _ (List.getElem_mem hlt)
      have hadd : ∀ W : World, (Op.stringOp .add ⟨(pk ns.length ++ pkDD (ns.take k)).toArray⟩ ⟨(pkD ns[k]).toArray⟩).run Try.prog W = .ok (.string ⟨(pk ns.length ++ pkDD (ns.take (k + 1))).toArray⟩) W := fun W => by
        rw [addll _ _ (by have := HT.out; rw [hsp] at hle; simp only [List.length_append] at *; omega) W, hsp, List.append_assoc]
      generalize hx : ns[k] = x at a0 a1 a2 ho hsp hadd
      obtain ⟨xa, xk, xd⟩ := x
      obtain ⟨o1, o2, o3, o4⟩ := ho
      simp only at a0 a1 a2 o1 o2 o3 o4
      obtain ⟨xn, rfl⟩ : ∃ n : Nat, xk = n := ⟨xk.toNat, by omega⟩
      have l1 := pkT_len xa o1
      have l2 := pkT_len xd o4
      have l3 := pk_len8 xn (by omega)
      have hadd1 : ∀ W : World, (Op.stringOp .add ⟨(pkT xa).toArray⟩ ⟨(pk xn).toArray⟩).run Try.prog W = .ok (.string ⟨(pkT xa ++ pk xn).toArray⟩) W := addll _ _ (by omega)
      have hadd2 : ∀ W : World, (Op.stringOp .add ⟨(pkT xa ++ pk xn).toArray⟩ ⟨(pkT xd).toArray⟩).run Try.prog W = .ok (.string ⟨(pkD (xa, (xn : Int), xd)).toArray⟩) W := fun W => by
        rw [addll _ _ (by rw [List.length_append]; omega) W]
        simp only [pkD, List.append_assoc, Int.toNat_natCast]
      have O1 : Hid (xa.size ≤ 9007199254740991) := by show _ ≤ _; omega
      have O2 : Hid (xn ≤ 9007199254740991) := by show _ ≤ _; omega
      have O3 : Hid (xd.size ≤ 9007199254740991) := by show _ ≤ _; omega
      have hgr : g < wr.heap.size := by omega
      have i2 : (k : Int) < ns.length := by omega
      clear hsp hb hle hx o1 o2 o3 o4 l1 l2 l3
      go_wp2_with fail
      go_region_held3 (fun w' => w'.cell? ⟨g, o + k * 3, none⟩ = some (.string xa) ∧ w'.cell? ⟨g, o + k * 3 + 1, none⟩ = some (.int .i64 xn) ∧ w'.cell? ⟨g, o + k * 3 + 2, none⟩ = some (.string xd) ∧ g < w'.heap.size)
        (first | (simp [go_sem, *]; done) | (go_split_ands; refine ⟨?_, ?_, ?_, ?_⟩ <;> first | (exact Nat.lt_of_lt_of_le (by assumption) hb4.size) | (rw [hb4.cell (p := ⟨g, _, none⟩) (by assumption)]; assumption) | (exact Nat.lt_of_lt_of_le (by assumption) hb3.size) | (rw [hb3.cell (p := ⟨g, _, none⟩) (by assumption)]; assumption) | (exact Nat.lt_of_lt_of_le (by assumption) hb2.size) | (rw [hb2.cell (p := ⟨g, _, none⟩) (by assumption)]; assumption)))
        (first
          | (go_at_call_of 18 (Value.string xa); refine (packtext_any xa _ O1.out).mono ?_; rintro e w2 ⟨rfl, hb2⟩)
          | (go_at_call 17; refine (packn_any xn xn _ (Nat.le_refl _) O2.out).mono ?_; rintro e w3 ⟨rfl, hb3⟩)
          | (go_at_call_of 18 (Value.string xd); refine (packtext_any xd _ O3.out).mono ?_; rintro e w4 ⟨rfl, hb4⟩))
      have hb5 : Below B w w4 := by
        have b0 : Below B w wr.drew := H3.out.drew
        have b1 := b0.trans (hb2.mono (Nat.le_trans hB b0.size))
        have b2 := b1.trans (hb3.mono (Nat.le_trans hB b1.size))
        exact b2.trans (hb4.mono (Nat.le_trans hB b2.size))
      have HB5 : Hid _ := hb5
      clear hb2 hb3 hb4 hb5
      go_wp2
      exact ⟨⟨k + 1, by omega, by go_num, rfl, HB5.out⟩, by simp [intOf]; omega⟩
    · obtain rfl : k = ns.length := by omega
      clear hb
      go_wp2
      go_ret
      exact ⟨by simp, H3.out⟩

set_option maxHeartbeats 1000000 in
set_option maxRecDepth 100000 in
theorem packnodes_zero (a : Option Addr) (cap : Nat) (w : World) :
    Calls Try.prog 7 #[.slice a 0 cap] w fun e w' => e = .returned (.string ⟨(pk 0 ++ pkDD []).toArray⟩) ∧ Below w.heap.size w w' := by
  go_enter Try.func7, Try.ntmps7
  go_wp2_with fail
  refine (packn_any 0 0 w (Nat.le_refl _) (by decide)).mono ?_
  rintro e w1 ⟨rfl, hb1⟩
  go_wp2_with fail
  refine wp_loop_rounds 1 ?_
  rw [rounds_succ]
  go_wp2
  go_ret
  exact ⟨by simp [pkDD], hb1⟩

theorem packnodes_any (v : Value) (ns : List Nd) (w : World) (hok : okDs ns) (h : OldNodes w.heap.size w v ns) :
    Calls Try.prog 7 #[v] w fun e w' => e = .returned (.string ⟨(pk ns.length ++ pkDD ns).toArray⟩) ∧ Below w.heap.size w w' := by
  obtain ⟨a, cap, rfl, hs⟩ := h
  rcases hs with rfl | ⟨g, o, rfl, hg, hc⟩
  · exact packnodes_zero a cap w
  · exact packnodes_some w.heap.size g o cap ns w hok hg (Nat.le_refl _) hc
end Go.Proofs.Ytbddppbgkhcafaa
