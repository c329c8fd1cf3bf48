/- What wire's reader does where the text begins with a packed number, or a packed text. -/
import Derived.Test.YtcfplkfddcblnaaRead
import Derived.Shelf.Strconv.Clone
namespace Go.Proofs.Ytcfplkfddcblnaa
open Go.RowKit Go.Shelf

theorem ReadNumber_pk (s : ByteArray) (w : World) (n : Nat) (r : List UInt8) (hs : s.size ≤ maxLen) (hn : n ≤ 9007199254740991) (h : s.data.toList = pk n ++ r) :
    Calls Try.prog 38 #[.string s] w fun e w' => e = .returned (.tuple #[.int .i64 n, .int .i64 (pk n).length, .int .i64 0]) ∧ w' = w := by
  obtain ⟨d, c, e, hd, hc, hz, _, _⟩ := pk_form n n (Nat.le_refl _)
  have h8 := pk_len8 n hn
  have hl : (pk n).length = d.length + 1 := by rw [e]; simp
  have hsz := size_of h
  have hk : d.length < s.size := by rw [hsz]; simp; omega
  have hv : val (s.data.toList.take (d.length + 1)) = n := by
    rw [h, ← hl, List.take_left, val_pk n n (Nat.le_refl _)]
  have hat : ∀ j (hj : j < s.size), s[j] = (s.data.toList)[j]'(by rw [h]; rw [hsz] at hj; exact hj) := fun j hj => rfl
  have hl2 : s.data.toList = d ++ (c :: r) := by rw [h, e]; simp
  have hck : s[d.length] = c := by
    rw [hat _ hk]
    rw [List.getElem_of_eq hl2]
    simp
  have := ReadNumber_yes s w hs d.length hk (by omega)
    (fun j hj => by
      rw [hat j (by omega), List.getElem_of_eq hl2, List.getElem_append_left hj]
      exact hd _ (List.getElem_mem _))
    (by rw [hck]; exact hc)
    (by rw [hck]; rcases hz with hz | hz
        · exact Or.inl (by rw [hz]; rfl)
        · exact Or.inr hz)
    (by rw [hv]; exact hn)
  rw [hv] at this
  rw [hl]
  exact this

/-- The shelf's contract for Clone, laid at this program. -/
def laysC_ren : Ren := ⟨fun | 316 => 39 | n => n, fun | 9 => 9 | 3 => 3 | 4 => 4 | 37 => 41 | 0 => 0 | 127 => 72 | 5 => 5 | n => n, fun | n => n⟩
theorem laysC : Go.Proofs.LaysM.n316 Try.prog laysC_ren := {
  mixed := by kernel_rfl
  f316 := Try.func39.trans (congrArg some (by kernel_rfl))
  t0 := Try.underlying0
  a0 := Try.isAgg0
  z0 := Try.sizeOf0
  v0 := Try.zeroValue0
  t3 := Try.underlying3
  a3 := Try.isAgg3
  z3 := Try.sizeOf3
  v3 := Try.zeroValue3
  t4 := Try.underlying4
  a4 := Try.isAgg4
  z4 := Try.sizeOf4
  v4 := Try.zeroValue4
  t9 := Try.underlying9
  a9 := Try.isAgg9
  z9 := Try.sizeOf9
  v9 := Try.zeroValue9
  t37 := Try.underlying41
  a37 := Try.isAgg41
  z37 := Try.sizeOf41
  v37 := Try.zeroValue41
  t127 := Try.underlying72
  a127 := Try.isAgg72
  z127 := Try.sizeOf72
  v127 := Try.zeroValue72
  t5 := Try.underlying5
  a5 := Try.isAgg5
  z5 := Try.sizeOf5
  v5 := Try.zeroValue5
  i0 := by kernel_rfl
  i3 := by kernel_rfl
  i4 := by kernel_rfl
  i5 := by kernel_rfl
  i9 := by kernel_rfl
  i37 := by kernel_rfl
  i127 := by kernel_rfl }
theorem cloneLite (s : ByteArray) (w : World) (hlim : s.size ≤ 281474976710656) :
    Calls Try.prog 39 #[.string s] w fun e w' => e = .returned (.string s) ∧ Below w.heap.size w w' := Any.stringslite_Clone laysC s w hlim
theorem clone_any (s : ByteArray) (w : World) (hlim : s.size ≤ 281474976710656) :
    Calls Try.prog 26 #[.string s] w fun e w' => e = .returned (.string s) ∧ Below w.heap.size w w' := by
  go_enter Try.func26, Try.ntmps26
  go_wp2_with (go_at_call 39; refine (cloneLite s _ hlim).mono ?_; rintro e w' ⟨rfl, hb⟩)
  go_ret
  exact ⟨rfl, hb⟩

theorem grownBy_refl (w : World) (row : Option Nat) : w.grownBy w row := ⟨rfl, rfl, rfl, Nat.le_refl _, fun _ _ _ => rfl⟩
theorem grownBy_trans {a b c : World} {row : Option Nat} (h : a.grownBy b row) (k : b.grownBy c row) : a.grownBy c row :=
  ⟨k.os.trans h.os, k.tape.trans h.tape, k.output.trans h.output, Nat.le_trans h.size k.size, fun i hi hr => (k.block i (Nat.lt_of_lt_of_le hi h.size) hr).trans (h.block i hi hr)⟩
theorem grownBy_set (w : World) (b o : Nat) (v : Value) : w.grownBy (w.setCell ⟨b, o, none⟩ v) (some b) := by
  have h := (Below.refl 0 w).setCell (p := ⟨b, o, none⟩) (Nat.zero_le _) v
  exact ⟨h.os, h.tape, h.output, h.size, fun k _ hr => Below.heap_setCell w ⟨b, o, none⟩ v k (fun e => hr (by rw [e]))⟩
theorem grownBy_below {w w' : World} {row : Option Nat} (h : Below w.heap.size w w') : w.grownBy w' row := ⟨h.os, h.tape, h.output, h.size, fun k hk _ => h.block k hk⟩
end Go.Proofs.Ytcfplkfddcblnaa
