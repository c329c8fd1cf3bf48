/- The queue's Drop, to the last bit; the document's SameTexts. -/
import Derived.Test.YtfddhdpnoliamaaQuTs
import Derived.Test.YtfddhdpnoliamaaQuWt
namespace Go.Proofs.Ytfddhdpnoliamaa
open Go.RowKit Go.Shelf

/-- What is left of a queue of which a job is dropped. -/
def Left (q : Qu) (s : ByteArray) (q' : Qu) : Prop := ∃ a t b k, ∃ (hk : k < t.jobs.length), q.ring = a ++ t :: b ∧ (t.jobs[k]).name = s ∧ QI q' ∧ q' = remQ q a t b k

theorem remove_ex {B P : Nat} {rv : Value} {cs : List Ce} {w : World} {q : Qu} (h : QS B P rv cs w q) (hi : QI q) (k : Nat) (hk : k < q.ring.length) (i : Nat) (hii : i < (q.ring[k]).jobs.length) (s : ByteArray) (hs : ((q.ring[k]).jobs[i]).name = s) :
    Calls Try.prog 33 #[.pointer (some ⟨P, 0, none⟩), .int .i64 (k : Int), .int .i64 (i : Int)] w fun e w' => e = .returned (.tuple #[]) ∧ ∃ rv' cs' q', QS B P rv' cs' w' q' ∧ Left q s q' ∧ Upd (ids P rv cs) (ids P rv' cs') w w' := by
  have hln := ring_len h
  have hkc : k < cs.length := by omega
  have hsp : cs = cs.take k ++ cs[k] :: cs.drop (k + 1) := by
    conv => lhs; rw [← List.take_append_drop k cs, List.drop_eq_getElem_cons hkc]
  have hra := ring_at h k hkc
  rw [List.getElem?_eq_getElem hk] at hra
  have ht : q.ring[k] = (cs[k]).t := Option.some.inj hra
  have hrs : q.ring = (cs.take k).map Ce.t ++ (cs[k]).t :: (cs.drop (k + 1)).map Ce.t := by
    rw [← h.ring]
    exact (congrArg (List.map Ce.t) hsp).trans (by rw [List.map_append, List.map_cons])
  have hkl : (cs.take k).length = k := by rw [List.length_take]; omega
  have h' : QS B P rv (cs.take k ++ cs[k] :: cs.drop (k + 1)) w q := by rw [← hsp]; exact h
  have hlen := hi.b.len
  have htm : (cs[k]).t ∈ q.ring := by rw [← ht]; exact List.getElem_mem hk
  have hjl : (cs[k]).t.jobs.length ≤ 1000 := by have := size_mem htm; have := hi.b.jobs; omega
  have hn0 : (cs.take k).length + (cs.drop (k + 1)).length ≤ 1000000 := by rw [List.length_take, List.length_drop]; omega
  have hii' : i < (cs[k]).t.jobs.length := by rw [← ht]; exact hii
  have hname : ((cs[k]).t.jobs[i]).name = s := by rw [← hs]; simp only [ht]
  by_cases h2 : 2 ≤ (cs[k]).t.jobs.length
  · have := remove_keep h' i hii' h2 (by omega)
    rw [hkl] at this
    refine Calls.mono this ?_
    rintro e w' ⟨he, jv', hq, hu⟩
    refine ⟨he, rv, _, _, hq, ⟨_, _, _, i, hii', hrs, hname, hi.drop hrs i hii' h2, ?_⟩, by rw [← hsp] at hu; exact hu⟩
    unfold remQ
    rw [if_neg (by omega)]
  · have h1 : (cs[k]).t.jobs.length = 1 := by omega
    have hi0 : i = 0 := by omega
    subst hi0
    have := remove_gone h' h1 hn0
    rw [hkl] at this
    refine Calls.mono this ?_
    rintro e w' ⟨he, rv', hq, hu⟩
    have hqi := hi.dropT hrs
    rw [List.length_map, hkl] at hqi
    rw [List.map_append] at hq
    refine ⟨he, rv', _, _, hq, ⟨_, _, _, 0, hii', hrs, hname, hqi, ?_⟩, by rw [← hsp] at hu; exact hu⟩
    unfold remQ
    rw [if_pos h1, List.length_map, hkl]

set_option maxHeartbeats 4000000 in
set_option maxRecDepth 100000 in
theorem Drop_ex {B P : Nat} {rv : Value} {cs : List Ce} {w : World} {q : Qu} (h : QS B P rv cs w q) (hi : QI q) (s : ByteArray) (hs : hasN q.ring s = true) :
    Calls Try.prog 14 #[.pointer (some ⟨P, 0, none⟩), .string s] w fun e w' => e = .returned (.bool true) ∧ ∃ rv' cs' q', QS B P rv' cs' w' q' ∧ Left q s q' ∧ Upd (ids P rv cs) (ids P rv' cs') w w' := by
  have HN : Hid (Calls Try.prog 23 #[.pointer (some ⟨P, 0, none⟩)] w fun e w' => e = .returned (.bool false) ∧ w' = w) := isNone_any h hi.b.q1
  have HF : Hid (Calls Try.prog 24 #[.pointer (some ⟨P, 0, none⟩), .string s] w fun e w' => (∃ k i : Nat, e = .returned (.tuple #[.int .i64 (k : Int), .int .i64 (i : Int)]) ∧ Calls Try.prog 33 #[.pointer (some ⟨P, 0, none⟩), .int .i64 (k : Int), .int .i64 (i : Int)] w' fun e w'' => e = .returned (.tuple #[]) ∧ ∃ rv' cs' q', QS B P rv' cs' w'' q' ∧ Left q s q' ∧ Upd (ids P rv cs) (ids P rv' cs') w w'')) := by
    refine (find_any h (by have := hi.b.len; have := ring_len h; omega) (fun t ht => by have := size_mem ht; have := hi.b.jobs; omega) s).mono ?_
    rintro e w' ⟨he, hb⟩
    obtain ⟨k, hk, i, hii, rfl, hnm⟩ := found_yes hs he
    refine ⟨k, i, rfl, ?_⟩
    refine (remove_ex (h.up hb) hi k hk i hii s hnm).mono ?_
    rintro e w'' ⟨he', rv', cs', q', h1, h2, h4⟩
    exact ⟨he', rv', cs', q', h1, h2, (Upd.of_below hb).trans h4⟩
  clear h hi hs
  go_enter Try.func14, Try.ntmps14
  go_wp2_with fail
  refine HN.out.mono ?_
  rintro e w1 ⟨rfl, rfl⟩
  go_wp2_with fail
  refine HF.out.mono ?_
  rintro e w2 ⟨k, i, rfl, hr⟩
  have hk0 : ¬ (k : Int) < 0 := by omega
  have HR : Hid (Calls Try.prog 33 #[.pointer (some ⟨P, 0, none⟩), .int .i64 (k : Int), .int .i64 (i : Int)] w2 fun e w'' => e = .returned (.tuple #[]) ∧ ∃ rv' cs' q', QS B P rv' cs' w'' q' ∧ Left q s q' ∧ Upd (ids P rv cs) (ids P rv' cs') w1 w'') := hr
  clear hr HF HN
  go_wp2_with fail
  refine HR.out.mono ?_
  rintro e w3 ⟨rfl, hE⟩
  have HE : Hid (∃ rv' cs' q', QS B P rv' cs' w3 q' ∧ Left q s q' ∧ Upd (ids P rv cs) (ids P rv' cs') w1 w3) := hE
  clear hE HR
  go_wp2
  go_ret
  exact ⟨rfl, HE.out⟩

/-- A value that is a slice of these texts. -/
def IsTexts (w : World) (v : Value) (ss : List ByteArray) : Prop :=
  ss.length ≤ 100000 ∧ ∃ a cap, v = .slice a ss.length cap ∧ (ss = [] ∨ ∃ g, a = some ⟨g, 0, none⟩ ∧ ∀ j (hj : j < ss.length), w.cell? ⟨g, j, none⟩ = some (.string ss[j]))

set_option maxHeartbeats 1000000 in
theorem same_zero (a a' : Option Addr) (cap cap' : Nat) (w : World) :
    Calls Try.prog 16 #[.slice a 0 cap, .slice a' 0 cap'] w fun e w' => e = .returned (.bool true) ∧ w' = w := by
  go_enter Try.func16, Try.ntmps16
  go_wp2
  refine wp_loop_rounds 1 ?_
  rw [rounds_succ]
  go_wp2
  go_ret
  exact ⟨rfl, rfl⟩

set_option maxHeartbeats 2000000 in
set_option maxRecDepth 100000 in
theorem same_eq (g cap g' cap' : Nat) (ss : List ByteArray) (w : World) (hn : ss.length ≤ 100000)
    (hc : ∀ j (hj : j < ss.length), w.cell? ⟨g, j, none⟩ = some (.string ss[j])) (hc' : ∀ j (hj : j < ss.length), w.cell? ⟨g', j, none⟩ = some (.string ss[j])) :
    Calls Try.prog 16 #[.slice (some ⟨g, 0, none⟩) ss.length cap, .slice (some ⟨g', 0, none⟩) ss.length cap'] w fun e w' => e = .returned (.bool true) ∧ ∃ n, w' = w.drewN n := by
  have HC : Hid _ := hc
  have HC' : Hid _ := hc'
  have hn1 : (ss.length : Int) ≤ 100000 := by omega
  clear hc hc'
  go_enter Try.func16, Try.ntmps16
  go_wp2
  go_loopw [5] (fun i wr => ∃ k m : Nat, k ≤ ss.length ∧ i = .int .i64 k ∧ wr = w.drewN m) (fun i _ => ss.length - (intOf i).toNat)
  case atStart => exact ⟨0, 0, Nat.zero_le _, rfl, rfl⟩
  case round =>
    obtain ⟨k, m, hk, rfl, rfl⟩ := hrel
    by_cases hlt : k < ss.length
    · have c1 := HC.out k hlt
      have c2 := HC'.out k hlt
      go_wp2
      go_region
      all_goals go_wp2
      all_goals
        refine ⟨⟨k + 1, m + 1, by omega, by go_num, rfl⟩, by simp [intOf]; omega⟩
    · go_wp2
      go_ret
      exact ⟨rfl, m, rfl⟩

theorem same_any (w : World) (v v' : Value) (ss : List ByteArray) (h : IsTexts w v ss) (h' : IsTexts w v' ss) :
    Calls Try.prog 16 #[v, v'] w fun e w' => e = .returned (.bool true) ∧ ∃ n, w' = w.drewN n := by
  obtain ⟨hn, a, cap, rfl, hs⟩ := h
  obtain ⟨_, a', cap', rfl, hs'⟩ := h'
  by_cases h0 : ss.length = 0
  · have k1 : ss = [] := List.length_eq_zero_iff.1 h0
    subst k1
    refine (same_zero a a' cap cap' w).mono ?_
    rintro e w' ⟨rfl, rfl⟩
    exact ⟨rfl, 0, rfl⟩
  · rcases hs with rfl | ⟨g, rfl, hc⟩
    · simp at h0
    rcases hs' with rfl | ⟨g', rfl, hc'⟩
    · simp at h0
    exact same_eq g cap g' cap' ss w hn hc hc'

theorem own_texts {w : World} {base : Nat} {v : Value} {l : List ByteArray} (h : w.ownsRow base 9 1 v l.length (ss l)) (hl : l.length ≤ 100000) : IsTexts w v l := by
  refine ⟨hl, ?_⟩
  rcases h.2 with ⟨h1, h2⟩ | ⟨g, cap, cur, hv, _, h3, h4, h5, h6, h7⟩
  · exact ⟨none, 0, by rw [h1, h2], .inl (List.length_eq_zero_iff.1 h2)⟩
  · refine ⟨some ⟨g, 0, none⟩, cap, hv, .inr ⟨g, rfl, fun j hj => ?_⟩⟩
    rw [Lib.cell_of_heap h3, ← Array.getElem?_toList]
    have e : (cur.toList.take (l.length * 1))[j]? = (ss l)[j]? := by rw [h7]
    rw [List.getElem?_take_of_lt (by omega)] at e
    rw [e]
    unfold ss
    rw [List.getElem?_map, List.getElem?_eq_getElem hj]
    rfl
theorem IsTexts.up {w w' : World} {v : Value} {l : List ByteArray} (h : IsTexts w v l) (hb : Below w.heap.size w w') : IsTexts w' v l := by
  obtain ⟨h1, a, cap, h2, h3⟩ := h
  refine ⟨h1, a, cap, h2, ?_⟩
  rcases h3 with e | ⟨g, e, hc⟩
  · exact .inl e
  · by_cases h0 : l = []
    · exact .inl h0
    · refine .inr ⟨g, e, fun j hj => ?_⟩
      have := hc j hj
      rw [← this]
      exact World.cell?_of_block (hb.block g (World.block_lt_of_cell? w _ this))
end Go.Proofs.Ytfddhdpnoliamaa
