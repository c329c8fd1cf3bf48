/- What the document's own CheckList, PackText and PackTexts answer. -/
import Derived.Test.YtmjemnmcndajpaaDoorPackN
import Derived.Test.YtmjemnmcndajpaaDoorPackTs
namespace Go.Proofs.YtmjemnmcndajpaaDoor
open Go.RowKit Go.Shelf

def longIn (ss : List ByteArray) : Prop := ∃ s ∈ ss, 100000 < s.size
def shortAll (ss : List ByteArray) : Prop := ∀ s ∈ ss, s.size ≤ 100000
def okList (m : Nat) (ss : List ByteArray) : Prop := ss.length ≤ m ∧ ∀ s ∈ ss, s.size ≤ 100000

set_option maxHeartbeats 1000000 in
theorem cl_many (m : Nat) (a : Option Addr) (n cap : Nat) (w : World) (hn : m < n) :
    Calls Tryd.prog 27 #[.slice a n cap, .int .i64 m] w fun e w' => e = .returned (.int .i64 2) ∧ w' = w := by
  have hn1 : (m : Int) < (n : Int) := by omega
  go_enter Tryd.func27, Tryd.ntmps27
  go_wp2
  go_ret
  exact ⟨rfl, rfl⟩
set_option maxHeartbeats 1000000 in
set_option maxRecDepth 100000 in
theorem cl_zero (m : Nat) (a : Option Addr) (cap : Nat) (w : World) :
    Calls Tryd.prog 27 #[.slice a 0 cap, .int .i64 m] w fun e w' => e = .returned (.int .i64 0) ∧ w' = w := by
  have hm : ¬ (m : Int) < 0 := by omega
  go_enter Tryd.func27, Tryd.ntmps27
  go_wp2
  refine wp_loop_rounds 1 ?_
  rw [rounds_succ]
  go_wp2
  go_ret
  exact ⟨rfl, rfl⟩
set_option maxHeartbeats 1000000 in
set_option maxRecDepth 100000 in
theorem cl_some (m g o cap : Nat) (ss : List ByteArray) (w : World) (hm : ss.length ≤ m) (hn : ss.length ≤ 4611686018427387904) (hcell : ∀ j (hj : j < ss.length), w.cell? ⟨g, o + j, none⟩ = some (.string ss[j])) :
    Calls Tryd.prog 27 #[.slice (some ⟨g, o, none⟩) ss.length cap, .int .i64 m] w fun e w' => (shortAll ss → e = .returned (.int .i64 0)) ∧ (longIn ss → e = .returned (.int .i64 2)) ∧ w' = w := by
  have HC : Hid _ := hcell
  have hn1 : (ss.length : Int) ≤ 4611686018427387904 := by omega
  have hm1 : (ss.length : Int) ≤ (m : Int) := by omega
  clear hcell
  go_enter Tryd.func27, Tryd.ntmps27
  go_wp2
  go_loop [5] (fun i => ∃ k : Nat, k ≤ ss.length ∧ i = .int .i64 k ∧ ∀ j (hj : j < ss.length), j < k → ss[j].size ≤ 100000) (fun i => ss.length - (intOf i).toNat)
  case atStart => exact ⟨0, Nat.zero_le _, rfl, by omega⟩
  case round =>
    obtain ⟨k, hk, rfl, hlo⟩ := hrel
    have HL : Hid _ := hlo
    clear hlo
    by_cases hlt : k < ss.length
    · have hc := HC.out k hlt
      by_cases hb : 100000 < (ss[k]).size
      · have hb' : (100000 : Int) < ((ss[k]).size : Int) := by omega
        have HB : Hid _ := hb
        clear hb
        go_wp2
        go_ret
        exact ⟨fun h => absurd HB.out (Nat.not_lt.2 (h _ (List.getElem_mem hlt))), fun _ => rfl, rfl⟩
      · have hb' : ((ss[k]).size : Int) ≤ 100000 := by omega
        have HB : Hid ((ss[k]).size ≤ 100000) := Nat.le_of_not_lt hb
        clear hb
        go_wp2
        refine ⟨⟨k + 1, by omega, by go_num, fun j hj hjk => ?_⟩, by simp [intOf]; omega⟩
        by_cases h : j < k
        · exact HL.out j hj h
        · obtain rfl : j = k := by omega
          exact HB.out
    · go_wp2
      go_ret
      refine ⟨fun _ => rfl, fun h => ?_, rfl⟩
      obtain ⟨s, hs, hlong⟩ := h
      obtain ⟨j, hj, rfl⟩ := List.getElem_of_mem hs
      have := HL.out j hj (by omega)
      omega
theorem cl_any (m : Nat) (v : Value) (ss : List ByteArray) (w : World) (h : IsTexts w v ss) :
    (okList m ss → Calls Tryd.prog 27 #[v, .int .i64 m] w fun e w' => e = .returned (.int .i64 0) ∧ w' = w) ∧
    (¬ okList m ss → Calls Tryd.prog 27 #[v, .int .i64 m] w fun e w' => e = .returned (.int .i64 2) ∧ w' = w) := by
  obtain ⟨hn, a, cap, rfl, hs⟩ := h
  refine ⟨fun hok => ?_, fun hno => ?_⟩
  · rcases hs with rfl | ⟨g, o, rfl, hc⟩
    · exact cl_zero m a cap w
    · refine (cl_some m g o cap ss w hok.1 hn hc).mono ?_
      rintro e w' ⟨h1, _, rfl⟩
      exact ⟨h1 hok.2, rfl⟩
  · by_cases hl : ss.length ≤ m
    · have hex : ∃ s ∈ ss, 100000 < s.size := Classical.byContradiction fun hne => hno ⟨hl, fun s hs => Nat.le_of_not_lt fun h => hne ⟨s, hs, h⟩⟩
      rcases hs with rfl | ⟨g, o, rfl, hc⟩
      · obtain ⟨s, hs, _⟩ := hex
        cases hs
      · refine (cl_some m g o cap ss w hl hn hc).mono ?_
        rintro e w' ⟨_, h2, rfl⟩
        exact ⟨h2 hex, rfl⟩
    · exact cl_many m a ss.length cap w (by omega)

theorem addl (l : List UInt8) (b : ByteArray) (h : l.length + b.size ≤ 9223372036854775807) (W : World) : (Op.stringOp .add ⟨l.toArray⟩ b).run Tryd.prog W = .ok (.string ⟨(l ++ b.data.toList).toArray⟩) W := by
  refine (run_string_add_sum (w := W) _ _ (by rw [show (⟨l.toArray⟩ : ByteArray).size = l.length from size_of rfl]; exact h)).trans ?_
  have hb : b = ⟨b.data.toList.toArray⟩ := bytes_eq rfl
  rw [hb, ByteArray.mk_append_mk]
theorem addll (l m : List UInt8) (h : l.length + m.length ≤ 9223372036854775807) (W : World) : (Op.stringOp .add ⟨l.toArray⟩ ⟨m.toArray⟩).run Tryd.prog W = .ok (.string ⟨(l ++ m).toArray⟩) W := by
  have := addl l ⟨m.toArray⟩ (by rw [show (⟨m.toArray⟩ : ByteArray).size = m.length from size_of rfl]; exact h) W
  simpa using this

set_option maxHeartbeats 1000000 in
theorem packtext_any (s : ByteArray) (w : World) (hs : s.size ≤ 9007199254740991) :
    Calls Tryd.prog 32 #[.string s] w fun e w' => e = .returned (.string ⟨(pkT s).toArray⟩) ∧ Below w.heap.size w w' := by
  have h8 := pk_len8 s.size hs
  have hadd : ∀ W : World, (Op.stringOp .add ⟨(pk s.size).toArray⟩ s).run Tryd.prog W = .ok (.string ⟨(pkT s).toArray⟩) W := addl (pk s.size) s (by omega)
  clear h8
  go_enter Tryd.func32, Tryd.ntmps32
  go_wp2_with fail
  refine (packn_any s.size s.size w (Nat.le_refl _) hs).mono ?_
  rintro e w1 ⟨rfl, hb1⟩
  go_wp2
  go_ret
  exact ⟨rfl, hb1⟩

set_option maxHeartbeats 1000000 in
set_option maxRecDepth 100000 in
theorem packtexts_zero (a : Option Addr) (cap : Nat) (w : World) :
    Calls Tryd.prog 31 #[.slice a 0 cap] w fun e w' => e = .returned (.string ⟨(pk 0 ++ pkSS []).toArray⟩) ∧ Below w.heap.size w w' := by
  go_enter Tryd.func31, Tryd.ntmps31
  go_wp2_with fail
  refine (packn_any 0 0 w (Nat.le_refl _) (by decide)).mono ?_
  rintro e w1 ⟨rfl, hb1⟩
  go_wp2_with fail
  refine wp_loop_rounds 1 ?_
  rw [rounds_succ]
  go_wp2
  go_ret
  exact ⟨by simp [pkSS], hb1⟩

set_option maxHeartbeats 2000000 in
set_option maxRecDepth 100000 in
theorem packtexts_some (B g o cap : Nat) (ss : List ByteArray) (w : World) (hok : okTexts ss) (hg : g < B) (hB : B ≤ w.heap.size) (hcell : ∀ j (hj : j < ss.length), w.cell? ⟨g, o + j, none⟩ = some (.string ss[j])) :
    Calls Tryd.prog 31 #[.slice (some ⟨g, o, none⟩) ss.length cap] w fun e w' => e = .returned (.string ⟨(pk ss.length ++ pkSS ss).toArray⟩) ∧ Below B w w' := by
  have HC : Hid _ := hcell
  have HS : Hid _ := hok.2
  have HT : Hid _ := pkTexts_len ss hok
  have hn := hok.1
  have hn1 : (ss.length : Int) ≤ 2000 := by omega
  clear hcell hok
  go_enter Tryd.func31, Tryd.ntmps31
  go_wp2_with fail
  refine (packn_any ss.length ss.length w (Nat.le_refl _) (by omega)).mono ?_
  rintro e w1 ⟨rfl, hb1⟩
  have B1 : Hid (Below B w w1) := hb1.mono hB
  clear hb1
  go_wp2_with fail
  go_loopw [3, 4] (fun s i wr => ∃ k : Nat, k ≤ ss.length ∧ i = .int .i64 k ∧ s = .string ⟨(pk ss.length ++ pkSS (ss.take k)).toArray⟩ ∧ Below B w wr) (fun _ i _ => ss.length - (intOf i).toNat)
  case atStart => exact ⟨0, Nat.zero_le _, rfl, by simp [pkSS], B1.out⟩
  case round =>
    obtain ⟨k, hk, rfl, rfl, hb⟩ := hrel
    have H3 : Hid _ := hb
    have hsz := hb.size
    by_cases hlt : k < ss.length
    · have hc : wr.cell? ⟨g, o + k, none⟩ = some (.string ss[k]) := (hb.cell (p := ⟨g, o + k, none⟩) hg).trans (HC.out k hlt)
      have hts : ss.take (k + 1) = ss.take k ++ [ss[k]] := List.take_succ_eq_append_getElem hlt
      have hsp : pkSS (ss.take (k + 1)) = pkSS (ss.take k) ++ pkT ss[k] := by rw [hts, pkSS_append]; simp [pkSS]
      have hle : (pkSS (ss.take (k + 1))).length ≤ (pkSS ss).length := by
        have e1 : pkSS ss = pkSS (ss.take (k + 1)) ++ pkSS (ss.drop (k + 1)) := by rw [← pkSS_append, List.take_append_drop]
        rw [e1, List.length_append]
        omega
      have hadd : ∀ W : World, (Op.stringOp .add ⟨(pk ss.length ++ pkSS (ss.take k)).toArray⟩ ⟨(pkT ss[k]).toArray⟩).run Tryd.prog W = .ok (.string ⟨(pk ss.length ++ pkSS (ss.take (k + 1))).toArray⟩) W := fun W => by
        rw [addll _ _ (by have := HT.out; rw [hsp] at hle; simp only [List.length_append] at *; omega) W, hsp, List.append_assoc]
      have hsl : (ss[k]).size ≤ 9007199254740991 := Nat.le_trans (HS.out _ (List.getElem_mem hlt)) (by decide)
      have H5 : Hid _ := hsl
      clear hsp hb hts hle hsl
      go_wp2_with fail
      refine (packtext_any ss[k] wr H5.out).mono ?_
      rintro e w2 ⟨rfl, hb2⟩
      have H6 : Hid (Below B wr w2) := hb2.mono (Nat.le_trans hB hsz)
      clear hb2
      go_wp2
      exact ⟨⟨k + 1, by omega, by go_num, rfl, H3.out.trans H6.out⟩, by simp [intOf]; omega⟩
    · obtain rfl : k = ss.length := by omega
      clear hb
      go_wp2
      go_ret
      exact ⟨by simp, H3.out⟩

theorem packtexts_any (v : Value) (ss : List ByteArray) (w : World) (hok : okTexts ss) (h : OldTexts w.heap.size w v ss) :
    Calls Tryd.prog 31 #[v] w fun e w' => e = .returned (.string ⟨(pk ss.length ++ pkSS ss).toArray⟩) ∧ Below w.heap.size w w' := by
  obtain ⟨a, cap, rfl, hs⟩ := h
  rcases hs with rfl | ⟨g, o, rfl, hg, hc⟩
  · exact packtexts_zero a cap w
  · exact packtexts_some w.heap.size g o cap ss w hok hg (Nat.le_refl _) hc
end Go.Proofs.YtmjemnmcndajpaaDoor
