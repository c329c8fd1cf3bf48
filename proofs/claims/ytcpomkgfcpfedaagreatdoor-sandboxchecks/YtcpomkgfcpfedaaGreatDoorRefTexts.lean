/- What the document's own CheckList, PackText and PackTexts answer. -/
import Derived.Test.YtcpomkgfcpfedaaGreatDoorNames2
namespace Go.Proofs.YtcpomkgfcpfedaaGreatDoor
open Go.RowKit Go.Shelf

def longIn (ss : List ByteArray) : Prop := ∃ s ∈ ss, 100000 < s.size
def shortAll (ss : List ByteArray) : Prop := ∀ s ∈ ss, s.size ≤ 100000
def okList (m : Nat) (ss : List ByteArray) : Prop := ss.length ≤ m ∧ ∀ s ∈ ss, s.size ≤ 100000

set_option maxHeartbeats 1000000 in
theorem cl_many (m : Nat) (a : Option Addr) (n cap : Nat) (w : World) (hn : m < n) :
    Calls Tryz.prog 8 #[.slice a n cap, .int .i64 m] w fun e w' => e = .returned (.int .i64 2) ∧ w' = w := by
  have hn1 : (m : Int) < (n : Int) := by omega
  go_enter Tryz.func8, Tryz.ntmps8
  go_wp2
  go_ret
  exact ⟨rfl, rfl⟩
set_option maxHeartbeats 1000000 in
set_option maxRecDepth 100000 in
theorem cl_zero (m : Nat) (a : Option Addr) (cap : Nat) (w : World) :
    Calls Tryz.prog 8 #[.slice a 0 cap, .int .i64 m] w fun e w' => e = .returned (.int .i64 0) ∧ w' = w := by
  have hm : ¬ (m : Int) < 0 := by omega
  go_enter Tryz.func8, Tryz.ntmps8
  go_wp2
  refine wp_loop_rounds 1 ?_
  rw [rounds_succ]
  go_wp2
  go_ret
  exact ⟨rfl, rfl⟩
set_option maxHeartbeats 1000000 in
set_option maxRecDepth 100000 in
theorem cl_some (m g o cap : Nat) (ss : List ByteArray) (w : World) (hm : ss.length ≤ m) (hn : ss.length ≤ 4611686018427387904) (hcell : ∀ j (hj : j < ss.length), w.cell? ⟨g, o + j, none⟩ = some (.string ss[j])) :
    Calls Tryz.prog 8 #[.slice (some ⟨g, o, none⟩) ss.length cap, .int .i64 m] w fun e w' => (shortAll ss → e = .returned (.int .i64 0)) ∧ (longIn ss → e = .returned (.int .i64 2)) ∧ w' = w := by
  have HC : Hid _ := hcell
  have hn1 : (ss.length : Int) ≤ 4611686018427387904 := by omega
  have hm1 : (ss.length : Int) ≤ (m : Int) := by omega
  clear hcell
  go_enter Tryz.func8, Tryz.ntmps8
  go_wp2
  go_loop [5] (fun i => ∃ k : Nat, k ≤ ss.length ∧ i = .int .i64 k ∧ ∀ j (hj : j < ss.length), j < k → ss[j].size ≤ 100000) (fun i => ss.length - (intOf i).toNat)
  case atStart => exact ⟨0, Nat.zero_le _, rfl, by omega⟩
  case round =>
    obtain ⟨k, hk, rfl, hlo⟩ := hrel
    have HL : Hid _ := hlo
    clear hlo
    by_cases hlt : k < ss.length
    · have hc := HC.out k hlt
      by_cases hb : 100000 < (ss[k]).size
      · have hb' : (100000 : Int) < ((ss[k]).size : Int) := by omega
        have HB : Hid _ := hb
        clear hb
        go_wp2
        go_ret
        exact ⟨fun h => absurd HB.out (Nat.not_lt.2 (h _ (List.getElem_mem hlt))), fun _ => rfl, rfl⟩
      · have hb' : ((ss[k]).size : Int) ≤ 100000 := by omega
        have HB : Hid ((ss[k]).size ≤ 100000) := Nat.le_of_not_lt hb
        clear hb
        go_wp2
        refine ⟨⟨k + 1, by omega, by go_num, fun j hj hjk => ?_⟩, by simp [intOf]; omega⟩
        by_cases h : j < k
        · exact HL.out j hj h
        · obtain rfl : j = k := by omega
          exact HB.out
    · go_wp2
      go_ret
      refine ⟨fun _ => rfl, fun h => ?_, rfl⟩
      obtain ⟨s, hs, hlong⟩ := h
      obtain ⟨j, hj, rfl⟩ := List.getElem_of_mem hs
      have := HL.out j hj (by omega)
      omega
theorem cl_any (m : Nat) (v : Value) (ss : List ByteArray) (w : World) (h : IsTexts w v ss) :
    (okList m ss → Calls Tryz.prog 8 #[v, .int .i64 m] w fun e w' => e = .returned (.int .i64 0) ∧ w' = w) ∧
    (¬ okList m ss → Calls Tryz.prog 8 #[v, .int .i64 m] w fun e w' => e = .returned (.int .i64 2) ∧ w' = w) := by
  obtain ⟨hn, a, cap, rfl, hs⟩ := h
  refine ⟨fun hok => ?_, fun hno => ?_⟩
  · rcases hs with rfl | ⟨g, o, rfl, hc⟩
    · exact cl_zero m a cap w
    · refine (cl_some m g o cap ss w hok.1 hn hc).mono ?_
      rintro e w' ⟨h1, _, rfl⟩
      exact ⟨h1 hok.2, rfl⟩
  · by_cases hl : ss.length ≤ m
    · have hex : ∃ s ∈ ss, 100000 < s.size := Classical.byContradiction fun hne => hno ⟨hl, fun s hs => Nat.le_of_not_lt fun h => hne ⟨s, hs, h⟩⟩
      rcases hs with rfl | ⟨g, o, rfl, hc⟩
      · obtain ⟨s, hs, _⟩ := hex
        cases hs
      · refine (cl_some m g o cap ss w hl hn hc).mono ?_
        rintro e w' ⟨_, h2, rfl⟩
        exact ⟨h2 hex, rfl⟩
    · exact cl_many m a ss.length cap w (by omega)

theorem addl (l : List UInt8) (b : ByteArray) (h : l.length + b.size ≤ 9223372036854775807) (W : World) : (Op.stringOp .add ⟨l.toArray⟩ b).run Tryz.prog W = .ok (.string ⟨(l ++ b.data.toList).toArray⟩) W := by
  refine (run_string_add_sum (w := W) _ _ (by rw [show (⟨l.toArray⟩ : ByteArray).size = l.length from size_of rfl]; exact h)).trans ?_
  have hb : b = ⟨b.data.toList.toArray⟩ := bytes_eq rfl
  rw [hb, ByteArray.mk_append_mk]
theorem addll (l m : List UInt8) (h : l.length + m.length ≤ 9223372036854775807) (W : World) : (Op.stringOp .add ⟨l.toArray⟩ ⟨m.toArray⟩).run Tryz.prog W = .ok (.string ⟨(l ++ m).toArray⟩) W := by
  have := addl l ⟨m.toArray⟩ (by rw [show (⟨m.toArray⟩ : ByteArray).size = m.length from size_of rfl]; exact h) W
  simpa using this
end Go.Proofs.YtcpomkgfcpfedaaGreatDoor
