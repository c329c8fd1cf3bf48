/- What wire's reader does where the text begins with a packed number, or a packed text. -/
import Derived.Test.YtmjemnmcndajpaaDoorRead
import Derived.Shelf.Strconv.Clone
namespace Go.Proofs.YtmjemnmcndajpaaDoor
open Go.RowKit Go.Shelf

theorem ReadNumber_pk (s : ByteArray) (w : World) (n : Nat) (r : List UInt8) (hs : s.size ≤ maxLen) (hn : n ≤ 9007199254740991) (h : s.data.toList = pk n ++ r) :
    Calls Tryd.prog 17 #[.string s] w fun e w' => e = .returned (.tuple #[.int .i64 n, .int .i64 (pk n).length, .int .i64 0]) ∧ w' = w := by
  obtain ⟨d, c, e, hd, hc, hz, _, _⟩ := pk_form n n (Nat.le_refl _)
  have h8 := pk_len8 n hn
  have hl : (pk n).length = d.length + 1 := by rw [e]; simp
  have hsz := size_of h
  have hk : d.length < s.size := by rw [hsz]; simp; omega
  have hv : val (s.data.toList.take (d.length + 1)) = n := by
    rw [h, ← hl, List.take_left, val_pk n n (Nat.le_refl _)]
  have hat : ∀ j (hj : j < s.size), s[j] = (s.data.toList)[j]'(by rw [h]; rw [hsz] at hj; exact hj) := fun j hj => rfl
  have hl2 : s.data.toList = d ++ (c :: r) := by rw [h, e]; simp
  have hck : s[d.length] = c := by
    rw [hat _ hk]
    rw [List.getElem_of_eq hl2]
    simp
  have := ReadNumber_yes s w hs d.length hk (by omega)
    (fun j hj => by
      rw [hat j (by omega), List.getElem_of_eq hl2, List.getElem_append_left hj]
      exact hd _ (List.getElem_mem _))
    (by rw [hck]; exact hc)
    (by rw [hck]; rcases hz with hz | hz
        · exact Or.inl (by rw [hz]; rfl)
        · exact Or.inr hz)
    (by rw [hv]; exact hn)
  rw [hv] at this
  rw [hl]
  exact this

set_option maxHeartbeats 1000000 in
set_option maxRecDepth 100000 in
theorem rd_number (b : Nat) (s : ByteArray) (w : World) (n : Nat) (r : List UInt8) (hs : s.size ≤ maxLen) (hn : n ≤ 9007199254740991) (h : s.data.toList = pk n ++ r)
    (hc : w.cell? ⟨b, 0, none⟩ = some (.string s)) (hf : w.frozen? ⟨b, 0, none⟩ = false) :
    Calls Tryd.prog 58 #[.pointer (some ⟨b, 0, none⟩)] w fun e w' => e = .returned (.int .i64 n) ∧ ∃ s' : ByteArray, s'.data.toList = r ∧ s'.size ≤ maxLen ∧ w' = w.setCell ⟨b, 0, none⟩ (.string s') := by
  have HE : Hid _ := extract_end s (pk n) r h
  have h1 : ((pk n).length : Int) ≤ (s.size : Int) := by rw [size_of h]; simp; omega
  have H : Hid _ := h
  clear h
  go_enter Tryd.func58, Tryd.ntmps58
  go_wp2_with (go_at_call 17; refine (ReadNumber_pk s _ n r hs hn H.out).mono ?_; rintro e w' ⟨rfl, rfl⟩)
  go_ret
  refine ⟨rfl, ⟨r.toArray⟩, rfl, ?_, by rw [HE.out]⟩
  have e1 := size_of H.out
  have e2 : (⟨r.toArray⟩ : ByteArray).size = r.length := size_of rfl
  rw [e2]
  simp at e1
  omega

/-- The shelf's contract for Clone, laid at this program. -/
def laysC_ren : Ren := ⟨fun | 316 => 76 | n => n, fun | 9 => 9 | 3 => 3 | 4 => 4 | 37 => 74 | 0 => 0 | 127 => 94 | 5 => 5 | n => n, fun | n => n⟩
theorem laysC : Go.Proofs.LaysM.n316 Tryd.prog laysC_ren := {
  mixed := by kernel_rfl
  f316 := Tryd.func76.trans (congrArg some (by kernel_rfl))
  t0 := Tryd.underlying0
  a0 := Tryd.isAgg0
  z0 := Tryd.sizeOf0
  v0 := Tryd.zeroValue0
  t3 := Tryd.underlying3
  a3 := Tryd.isAgg3
  z3 := Tryd.sizeOf3
  v3 := Tryd.zeroValue3
  t4 := Tryd.underlying4
  a4 := Tryd.isAgg4
  z4 := Tryd.sizeOf4
  v4 := Tryd.zeroValue4
  t9 := Tryd.underlying9
  a9 := Tryd.isAgg9
  z9 := Tryd.sizeOf9
  v9 := Tryd.zeroValue9
  t37 := Tryd.underlying74
  a37 := Tryd.isAgg74
  z37 := Tryd.sizeOf74
  v37 := Tryd.zeroValue74
  t127 := Tryd.underlying94
  a127 := Tryd.isAgg94
  z127 := Tryd.sizeOf94
  v127 := Tryd.zeroValue94
  t5 := Tryd.underlying5
  a5 := Tryd.isAgg5
  z5 := Tryd.sizeOf5
  v5 := Tryd.zeroValue5
  i0 := by kernel_rfl
  i3 := by kernel_rfl
  i4 := by kernel_rfl
  i5 := by kernel_rfl
  i9 := by kernel_rfl
  i37 := by kernel_rfl
  i127 := by kernel_rfl }
theorem cloneLite (s : ByteArray) (w : World) (hlim : s.size ≤ 281474976710656) :
    Calls Tryd.prog 76 #[.string s] w fun e w' => e = .returned (.string s) ∧ Below w.heap.size w w' := Any.stringslite_Clone laysC s w hlim
theorem clone_any (s : ByteArray) (w : World) (hlim : s.size ≤ 281474976710656) :
    Calls Tryd.prog 70 #[.string s] w fun e w' => e = .returned (.string s) ∧ Below w.heap.size w w' := by
  go_enter Tryd.func70, Tryd.ntmps70
  go_wp2_with (go_at_call 76; refine (cloneLite s _ hlim).mono ?_; rintro e w' ⟨rfl, hb⟩)
  go_ret
  exact ⟨rfl, hb⟩

theorem grownBy_refl (w : World) (row : Option Nat) : w.grownBy w row := ⟨rfl, rfl, rfl, Nat.le_refl _, fun _ _ _ => rfl⟩
theorem grownBy_trans {a b c : World} {row : Option Nat} (h : a.grownBy b row) (k : b.grownBy c row) : a.grownBy c row :=
  ⟨k.os.trans h.os, k.tape.trans h.tape, k.output.trans h.output, Nat.le_trans h.size k.size, fun i hi hr => (k.block i (Nat.lt_of_lt_of_le hi h.size) hr).trans (h.block i hi hr)⟩
theorem grownBy_set (w : World) (b o : Nat) (v : Value) : w.grownBy (w.setCell ⟨b, o, none⟩ v) (some b) := by
  have h := (Below.refl 0 w).setCell (p := ⟨b, o, none⟩) (Nat.zero_le _) v
  exact ⟨h.os, h.tape, h.output, h.size, fun k _ hr => Below.heap_setCell w ⟨b, o, none⟩ v k (fun e => hr (by rw [e]))⟩
theorem grownBy_below {w w' : World} {row : Option Nat} (h : Below w.heap.size w w') : w.grownBy w' row := ⟨h.os, h.tape, h.output, h.size, fun k hk _ => h.block k hk⟩

set_option maxHeartbeats 1000000 in
set_option maxRecDepth 100000 in
theorem rd_text (b : Nat) (s : ByteArray) (w : World) (t r : List UInt8) (hs : s.size ≤ maxLen) (hn : t.length ≤ 281474976710656) (h : s.data.toList = pk t.length ++ (t ++ r))
    (hc : w.cell? ⟨b, 0, none⟩ = some (.string s)) (hf : w.frozen? ⟨b, 0, none⟩ = false) :
    Calls Tryd.prog 57 #[.pointer (some ⟨b, 0, none⟩)] w fun e w' => e = .returned (.string ⟨t.toArray⟩) ∧ (∃ s' : ByteArray, s'.data.toList = r ∧ s'.size ≤ maxLen ∧ w'.cell? ⟨b, 0, none⟩ = some (.string s')) ∧ w'.frozen? ⟨b, 0, none⟩ = false ∧ w.grownBy w' (some b) := by
  have hbl : b < w.heap.size := World.block_lt_of_cell? w ⟨b, 0, none⟩ hc
  go_enter Tryd.func57, Tryd.ntmps57
  go_wp2_with fail
  refine (rd_number b s _ t.length (t ++ r) hs (by omega) h hc hf).mono ?_
  rintro e w1 ⟨rfl, s1, h1, hs1, rfl⟩
  have hz := size_of h1
  have hle : (t.length : Int) ≤ (s1.size : Int) := by rw [hz]; simp; omega
  have HM : Hid _ := extract_mid s1 t r h1
  have HE : Hid _ := extract_end s1 t r h1
  clear h hz h1 hs
  go_wp2_with fail
  rw [HM.out]
  have hsz2 : (w.setCell ⟨b, 0, none⟩ (.string s1)).heap.size = w.heap.size := by simp
  refine (clone_any ⟨t.toArray⟩ _ (by rw [show (⟨t.toArray⟩ : ByteArray).size = t.length from size_of rfl]; exact hn)).mono ?_
  rintro e w2 ⟨rfl, hb2⟩
  have hc2 : w2.cell? ⟨b, 0, none⟩ = some (.string s1) := by
    rw [hb2.cell (p := ⟨b, 0, none⟩) (by rw [hsz2]; exact hbl)]
    exact World.cell?_setCell_same' _ _ _ (by rw [hc]; rfl)
  have hf2 : w2.frozen? ⟨b, 0, none⟩ = false := by
    rw [hb2.frozen (p := ⟨b, 0, none⟩) (by rw [hsz2]; exact hbl)]
    simp [hf]
  have HB : Hid _ := hb2
  have HS : Hid _ := hsz2
  clear hb2 hsz2 hc hf HM
  go_wp2
  go_ret
  refine ⟨rfl, ⟨s1.extract t.length s1.size, by rw [HE.out], ?_, ?_⟩, ?_, ?_⟩
  · simp; omega
  · exact World.cell?_setCell_same' _ _ _ (by rw [hc2]; rfl)
  · simp [hf2]
  · exact grownBy_trans (grownBy_trans (grownBy_set w b 0 _) (grownBy_below HB.out)) (grownBy_set w2 b 0 _)
end Go.Proofs.YtmjemnmcndajpaaDoor
