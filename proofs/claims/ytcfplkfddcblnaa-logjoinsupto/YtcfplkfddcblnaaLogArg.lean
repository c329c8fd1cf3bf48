/- Texts that came in, with what they weigh; texts put behind a list of the call's own. -/
import Derived.Test.YtcfplkfddcblnaaLogB
import Derived.Test.YtcfplkfddcblnaaArgT
import Derived.Test.YtcfplkfddcblnaaPackTs
import Derived.JoinedCond
import Derived.Laws.AppendOwnNone
namespace Go.Proofs.Ytcfplkfddcblnaa
open Go.ChangeShapes Go.WideShapes Go.ChangeAt Go.RowKit Go.Shelf
open Go.ChangeMaps (open_string shut_string)

/-- These texts, as a slice that is nil or has an address. -/
def TextsN (w : World) (v : Value) (ss : List ByteArray) : Prop := IsTexts w v ss ∧ (v = .slice none 0 0 ∨ ∃ ad n cap, v = .slice (some ad) n cap)
theorem TextsN.up {w w' : World} {v : Value} {ss : List ByteArray} (h : TextsN w v ss) (hb : Below w.heap.size w w') : TextsN w' v ss := ⟨texts_of (texts_below (old_of w v ss h.1) hb) h.1.1, h.2⟩
def total : List ByteArray → Nat
  | [] => 0
  | s :: l => s.size + 1 + total l
theorem total_len (ss : List ByteArray) : ss.length ≤ total ss := by
  induction ss with
  | nil => simp [total]
  | cons s l ih => simp only [total, List.length_cons]; omega
theorem total_strs {H : Type} (ss : List ByteArray) : Rows.uptoBulkAll (Go.ChangeShapes.strs (H := H) ss) = total ss := by
  induction ss with
  | nil => simp [Go.ChangeShapes.strs, Rows.uptoBulkAll, total]
  | cons s l ih =>
    have e : Go.ChangeShapes.strs (H := H) (s :: l) = .lit (.string s.data.toList) :: Go.ChangeShapes.strs l := rfl
    rw [e]
    simp only [Rows.uptoBulkAll, Rows.uptoBulk, total, ih, size_of (s := s) rfl]

set_option maxRecDepth 100000 in
theorem arg_textsN {H : Type} {enc : TypeId × Value → H} {W : World} {v : Value} {d : DataW H} {p : List MemPlace} {base : Nat}
    (hv : Value.okWide Try.prog W .any base 29 v) (h : DataW.Trod enc Try.prog W 0 (fun _ => true) true 29 v d p) (hr : Rows.uptoBulk d ≤ 1048576) : ∃ ss, TextsN W v ss ∧ total ss + 1 ≤ Rows.uptoBulk d := by
  obtain ⟨a, len, cap, rfl⟩ := okWide_slice Try.underlying29 hv
  obtain ⟨fuel, hf⟩ := h
  rcases open_strings Try.underlying29 Try.underlying9 (by kernel_rfl) hf with ⟨hcs, hx⟩ | ⟨x, l, c, ss, hcs, _, hl, hm, hz, hx, hcell, hws⟩
  · simp [Value.cells] at hcs
    obtain ⟨rfl, rfl, rfl⟩ := hcs
    have hd : d = .nil := congrArg Prod.fst hx
    subst hd
    exact ⟨[], ⟨⟨by decide, none, 0, rfl, Or.inl rfl⟩, Or.inl rfl⟩, by simp [total, Rows.uptoBulk]⟩
  · simp [Value.cells] at hcs
    obtain ⟨rfl, rfl, rfl⟩ := hcs
    have hz' : ss.length = cap := by simpa using hz
    have hlen : (ss.take len).length = len := by rw [List.length_take]; omega
    have hd : d = .slice (Go.ChangeShapes.strs (ss.take len)) (Go.ChangeShapes.strs (ss.drop len)) := congrArg Prod.fst hx
    have hT : total (ss.take len) + 1 ≤ Rows.uptoBulk d := by
      rw [hd]
      simp only [Rows.uptoBulk, total_strs]
      omega
    have hb : len ≤ 4611686018427387904 := by
      have := total_len (ss.take len)
      omega
    refine ⟨ss.take len, ⟨⟨by rw [hlen]; exact hb, some x, cap, by rw [hlen], ?_⟩, Or.inr ⟨x, len, cap, rfl⟩⟩, hT⟩
    by_cases h0 : len = 0
    · exact Or.inl (by rw [h0]; rfl)
    · obtain ⟨b, off, spot⟩ := x
      have hspot : spot = none := by simpa [Addr.add] using World.cell?_spot (hcell 0 (by omega))
      subst hspot
      refine Or.inr ⟨b, off, rfl, fun j hj => ?_⟩
      rw [hlen] at hj
      rw [← Go.WideShapes.add_plain, hcell j (by omega)]
      simp [List.getD, List.getElem?_eq_getElem (show j < ss.length by omega)]

theorem own_textsN {w : World} {base : Nat} {v : Value} {l : List (List UInt8)} (h : w.ownsRow base 9 1 v l.length (strs l)) (hl : l.length ≤ 4611686018427387904) : TextsN w v (l.map fun t => ⟨t.toArray⟩) := by
  refine ⟨own_texts h hl, ?_⟩
  rcases h.2 with ⟨h1, _⟩ | ⟨g, cap, cur, hv, _⟩
  · exact Or.inl h1
  · exact Or.inr ⟨_, _, _, hv⟩

/-- The texts' bytes. -/
def lists (ss : List ByteArray) : List (List UInt8) := ss.map fun s => s.data.toList
theorem lists_back (ss : List ByteArray) : (lists ss).map (fun t => (⟨t.toArray⟩ : ByteArray)) = ss := map_bytes ss
theorem lists_strs (ss : List ByteArray) : strs (lists ss) = ss.map Value.string := by
  simp [strs, lists]
theorem lists_len (ss : List ByteArray) : (lists ss).length = ss.length := by simp [lists]
theorem flat_total (ss : List ByteArray) (h : ∀ s ∈ ss, s.size ≤ 100000) : (flat (lists ss)).length ≤ 14 * total ss := by
  induction ss with
  | nil => simp [lists, flat]
  | cons s l ih =>
    have e : lists (s :: l) = s.data.toList :: lists l := rfl
    have h1 := ih fun x hx => h x (List.mem_cons_of_mem _ hx)
    have h2 := h s (List.mem_cons_self ..)
    have h3 := size_of (s := s) rfl
    have h8 := pk_len8 s.data.toList.length (by omega)
    rw [e]
    simp only [flat, List.length_append, ent_len, total]
    omega

theorem wpList_append_texts {ops : Array Oper} {rest : List Oper} {o : Oper} {a : Act} {w : World} {Q : Exit → Act → World → Prop} (hgd : o.guard = none) (s x : Operand)
    (ho : o.op = .call { callee := .builtin .append, args := #[s, x], argTypes := #[29, 29] })
    (base : Nat) (v : Value) (n : Nat) (xs : List Value) (hs : a.eval s = v) (hown : w.ownsRow base 9 1 v n xs)
    (vx : Value) (ss : List ByteArray) (hx : a.eval x = vx) (ht : TextsN w vx ss) (hn : n + ss.length ≤ 4294967296) (hbase : base ≤ w.heap.size)
    (h : ∀ v' w', w'.ownsRow base 9 1 v' (n + ss.length) (xs ++ ss.map Value.string) → w.grownBy w' v.ownBlock → wpList Try.prog ops Q rest (a.put o.dst v') w') :
    wpList Try.prog ops Q (o :: rest) a w := by
  obtain ⟨i0, hi, hz0, hz1, hz2⟩ := info_parts infS
  obtain ⟨⟨_, a0, cap0, hv, hc⟩, hsh⟩ := ht
  rcases hsh with hsh | ⟨ad, n0, c0, hsh⟩
  · rw [hsh] at hv hx
    have h0 : ss.length = 0 := by
      injection hv with _ h2 _
      exact h2.symm
    have hss : ss = [] := List.length_eq_zero_iff.1 h0
    subst hss
    refine wpList_append_own_none hgd s x 29 ho base 9 i0 1 Try.underlying29 hi v n xs hs hown hx (h v w ?_ (grownBy_refl _ _))
    simpa using hown
  · rw [hsh] at hv hx
    injection hv with h1 h2 h3
    subst h2 h3
    refine wpList_append_own _ hgd s x 29 ho base 9 i0 (.string ⟨#[]⟩) 1 16 Try.underlying29 hi hz0 hz1 hz2 rfl (by decide) v n xs hs hown ad ss.length _ (ss.map Value.string) hx (by simp) ?_ ?_ ?_ ?_ hbase (fun v' w' h1 h2 _ => h v' w' h1 h2)
    · intro j u hj
      rcases hc with hc | ⟨g, o', hao, hcell⟩
      · subst hc; simp at hj
      · rw [hao] at h1
        injection h1 with h1
        have hjl : j < ss.length := by
          have := (List.getElem?_eq_some_iff.1 hj).1
          simpa using this
        rw [h1, addr_add, hcell j hjl]
        simp [hjl] at hj
        rw [hj]
    · intro u hu
      obtain ⟨y, _, rfl⟩ := List.mem_map.1 hu
      rfl
    · unfold maxLen; omega
    · omega
end Go.Proofs.Ytcfplkfddcblnaa
