/- Bytes of a text, one of which is turned into another. -/
import Derived.Test.YtcfplkfddcblnaaLogArg
import Derived.Laws.IdiomStrings
namespace Go.Proofs.Ytcfplkfddcblnaa
open Go.RowKit Go.Shelf

theorem bytesRow_get (s : ByteArray) (cap j : Nat) (hj : j < s.size) : (bytesRow s cap)[j]? = some (.int .u8 (s[j].toNat : Int)) := by
  have h : j < s.data.size := hj
  unfold bytesRow
  rw [Array.getElem?_append_left (by simpa using h), Array.getElem?_map, Array.getElem?_eq_getElem h]
  rfl
theorem bytesRow_size (s : ByteArray) (cap : Nat) : s.size ≤ (bytesRow s cap).size := by
  unfold bytesRow
  rw [Array.size_append, Array.size_map]
  exact Nat.le_add_right _ _
/-- '[]byte(s)': a block of its own that holds the bytes. -/
theorem bytes_of (s : ByteArray) (w : World) : ∃ cap W2, (convert 9 41 (.string s)).run Try.prog w = .ok (.slice (some ⟨w.heap.size, 0, none⟩) s.size cap) W2 ∧
    (∀ j (hj : j < s.size), W2.cell? ⟨w.heap.size, j, none⟩ = some (.int .u8 (s[j].toNat : Int)) ∧ W2.frozen? ⟨w.heap.size, j, none⟩ = false) ∧ Below w.heap.size w W2 := by
  have hh : ∀ (o : Obj), (w.drew.alloc o).heap[w.heap.size]? = some o := fun o => heap_alloc_new w.drew o
  refine ⟨_, _, run_bytes_of_string w 9 41 5 s Try.underlying9 Try.underlying41 Try.underlying5, fun j hj => ⟨?_, ?_⟩, (Below.refl _ _).drew.alloc (Nat.le_refl _) _⟩
  · rw [Lib.cell_of_heap (hh _), bytesRow_get s _ j hj]
  · have := bytesRow_size s (grownCap w s.size 0 5)
    simp only [World.frozen?, hh]
    simp
    omega

/-- Which of so many things a raw number speaks of: one and the same wherever it is asked. -/
theorem choose_ex (c : Int) (m : Nat) (h0 : -9223372036854775808 ≤ c) (h1 : c ≤ 9223372036854775807) (hm : 0 < m) (hm2 : m ≤ 1099511627776) :
    ∃ r : Nat, r < m ∧ ∀ w, Calls Try.prog 18 #[.int .i64 c, .int .i64 m] w fun e w' => e = .returned (.int .i64 (r : Int)) ∧ w' = w := by
  have hmi : (0 : Int) < (m : Int) := by omega
  have hm0 : ((m : Int) == 0) = false := by simp; omega
  have key : ∀ d : Int, 0 ≤ d → ∃ r : Nat, r < m ∧ d.tmod (m : Int) = (r : Int) ∧ d % (m : Int) = (r : Int) := fun d hd => by
    have h2 := Int.emod_nonneg d (show (m : Int) ≠ 0 by omega)
    have h3 := Int.emod_lt_of_pos d hmi
    refine ⟨(d % (m : Int)).toNat, by omega, ?_, by omega⟩
    rw [Int.tmod_eq_emod_of_nonneg hd]
    omega
  by_cases hc : c < 0
  · obtain ⟨d, hd⟩ : ∃ d : Int, d = -(c + 1) := ⟨_, rfl⟩
    obtain ⟨r, hr, hr1, hr2⟩ := key d (by omega)
    have x1 : wrap64 (c + 1) = c + 1 := by unfold wrap64; omega
    have x2 : IntKind.i64.wrap (c + 1) = c + 1 := by rw [IntKind.wrap_i64]; omega
    have x3 : wrap64 (-(c + 1)) = d := by unfold wrap64; omega
    have x4 : IntKind.i64.wrap (-(c + 1)) = d := by rw [IntKind.wrap_i64]; omega
    have hd0 : 0 ≤ d := by omega
    clear key hd h0 h1 hm2
    refine ⟨r, hr, fun w => ?_⟩
    go_enter Try.func18, Try.ntmps18
    go_wp2
    go_ret
    exact ⟨by simp, rfl⟩
  · obtain ⟨r, hr, hr1, hr2⟩ := key c (by omega)
    have hc0 : 0 ≤ c := by omega
    clear key h1 hm2 hc
    refine ⟨r, hr, fun w => ?_⟩
    go_enter Try.func18, Try.ntmps18
    go_wp2
    go_ret
    exact ⟨by simp, rfl⟩

/-- An entry in whose text a byte is another one: what it is, and that none stands there. -/
theorem turned_entry (e : List UInt8) (r1 x : Nat) (hr : r1 < e.length) (hx : x < 256) (hne : x ≠ e[r1].toNat) :
    ∃ k, k = 1 + (pk e.length).length + r1 ∧ ∃ hk : k < (ent e).length, (ent e)[k] = e[r1] ∧ ((ent e).set k (UInt8.ofNat x)).length = (ent e).length ∧ ∀ z, NoEnt ((ent e).set k (UInt8.ofNat x) ++ z) := by
  have he : e = e.take r1 ++ e[r1] :: e.drop (r1 + 1) := by
    rw [← List.drop_eq_getElem_cons hr, List.take_append_drop]
  have hl := ent_len e
  refine ⟨_, rfl, by omega, ?_, by simp, fun z => ?_⟩
  · unfold ent
    rw [List.getElem_cons]
    rw [dif_neg (by omega)]
    rw [List.getElem_append_right (by omega), List.getElem_append_left (by omega)]
    congr 1
    omega
  · have hb : e[r1] ≠ UInt8.ofNat x := fun h => hne (by rw [h]; simp [UInt8.toNat_ofNat']; omega)
    have := NoEnt.changed (e.take r1) (e.drop (r1 + 1)) e[r1] (UInt8.ofNat x) hb z
    rw [← he] at this
    have e2 : (ent e).set (1 + (pk e.length).length + r1) (UInt8.ofNat x) = 76 :: (pk e.length ++ ((e.take r1 ++ UInt8.ofNat x :: e.drop (r1 + 1)) ++ le4 (crc e))) := by
      have e3 : e.set r1 (UInt8.ofNat x) = e.take r1 ++ UInt8.ofNat x :: e.drop (r1 + 1) := List.set_eq_take_append_cons_drop .. |>.trans (by rw [if_pos hr])
      unfold ent
      rw [show 1 + (pk e.length).length + r1 = ((pk e.length).length + r1) + 1 from by omega, List.set_cons_succ, List.set_append_right _ _ (by omega), Nat.add_sub_cancel_left, List.set_append_left _ _ hr, e3]
    rw [e2]
    exact this
end Go.Proofs.Ytcfplkfddcblnaa
