/- Texts that came in, with what they weigh; texts put behind a list of the call's own. -/
import Derived.Test.YtcfplkfddcblnaaLogB
import Derived.Test.YtcfplkfddcblnaaArgT
import Derived.Test.YtcfplkfddcblnaaPackTs
import Derived.JoinedCond
import Derived.Laws.AppendOwnNone
namespace Go.Proofs.Ytcfplkfddcblnaa
open Go.ChangeShapes Go.WideShapes Go.ChangeAt Go.RowKit Go.Shelf
open Go.ChangeMaps (open_string shut_string)

/-- These texts, as a slice that is nil or has an address. -/
def TextsN (w : World) (v : Value) (ss : List ByteArray) : Prop := IsTexts w v ss ∧ (v = .slice none 0 0 ∨ ∃ ad n cap, v = .slice (some ad) n cap ∧ n ≤ cap ∧ cap ≤ maxLen)
theorem TextsN.up {w w' : World} {v : Value} {ss : List ByteArray} (h : TextsN w v ss) (hb : Below w.heap.size w w') : TextsN w' v ss := ⟨texts_of (texts_below (old_of w v ss h.1) hb) h.1.1, h.2⟩
def total : List ByteArray → Nat
  | [] => 0
  | s :: l => s.size + 1 + total l
theorem total_len (ss : List ByteArray) : ss.length ≤ total ss := by
  induction ss with
  | nil => simp [total]
  | cons s l ih => simp only [total, List.length_cons]; omega
theorem total_strs {H : Type} (ss : List ByteArray) : Rows.uptoBulkAll (Go.ChangeShapes.strs (H := H) ss) = total ss := by
  induction ss with
  | nil => simp [Go.ChangeShapes.strs, Rows.uptoBulkAll, total]
  | cons s l ih =>
    have e : Go.ChangeShapes.strs (H := H) (s :: l) = .lit (.string s.data.toList) :: Go.ChangeShapes.strs l := rfl
    rw [e]
    simp only [Rows.uptoBulkAll, Rows.uptoBulk, total, ih, size_of (s := s) rfl]

set_option maxRecDepth 100000 in
theorem arg_textsN {H : Type} {enc : TypeId × Value → H} {W : World} {v : Value} {d : DataW H} {p : List MemPlace} {base : Nat}
    (hv : Value.okWide Try.prog W .any base 29 v) (h : DataW.Trod enc Try.prog W 0 (fun _ => true) true 29 v d p) (hr : Rows.uptoBulk d ≤ 1048576) : ∃ ss, TextsN W v ss ∧ total ss + 1 ≤ Rows.uptoBulk d := by
  obtain ⟨a, len, cap, rfl⟩ := okWide_slice Try.underlying29 hv
  obtain ⟨fuel, hf⟩ := h
  rcases open_strings Try.underlying29 Try.underlying9 (by kernel_rfl) hf with ⟨hcs, hx⟩ | ⟨x, l, c, ss, hcs, _, hl, hm, hz, hx, hcell, hws⟩
  · simp [Value.cells] at hcs
    obtain ⟨rfl, rfl, rfl⟩ := hcs
    have hd : d = .nil := congrArg Prod.fst hx
    subst hd
    exact ⟨[], ⟨⟨by decide, none, 0, rfl, Or.inl rfl⟩, Or.inl rfl⟩, by simp [total, Rows.uptoBulk]⟩
  · simp [Value.cells] at hcs
    obtain ⟨rfl, rfl, rfl⟩ := hcs
    have hz' : ss.length = cap := by simpa using hz
    have hlen : (ss.take len).length = len := by rw [List.length_take]; omega
    have hd : d = .slice (Go.ChangeShapes.strs (ss.take len)) (Go.ChangeShapes.strs (ss.drop len)) := congrArg Prod.fst hx
    have hT : total (ss.take len) + 1 ≤ Rows.uptoBulk d := by
      rw [hd]
      simp only [Rows.uptoBulk, total_strs]
      omega
    have hb : len ≤ 4611686018427387904 := by
      have := total_len (ss.take len)
      omega
    refine ⟨ss.take len, ⟨⟨by rw [hlen]; exact hb, some x, cap, by rw [hlen], ?_⟩, Or.inr ⟨x, len, cap, rfl, hl, hm⟩⟩, hT⟩
    by_cases h0 : len = 0
    · exact Or.inl (by rw [h0]; rfl)
    · obtain ⟨b, off, spot⟩ := x
      have hspot : spot = none := by simpa [Addr.add] using World.cell?_spot (hcell 0 (by omega))
      subst hspot
      refine Or.inr ⟨b, off, rfl, fun j hj => ?_⟩
      rw [hlen] at hj
      rw [← Go.WideShapes.add_plain, hcell j (by omega)]
      simp [List.getD, List.getElem?_eq_getElem (show j < ss.length by omega)]

theorem own_textsN {w : World} {base : Nat} {v : Value} {l : List (List UInt8)} (h : w.ownsRow base 9 1 v l.length (strs l)) (hl : l.length ≤ 4611686018427387904) : TextsN w v (l.map fun t => ⟨t.toArray⟩) := by
  refine ⟨own_texts h hl, ?_⟩
  rcases h.2 with ⟨h1, _⟩ | ⟨g, cap, cur, hv, _, _, hle, hm, _⟩
  · exact Or.inl h1
  · exact Or.inr ⟨_, _, _, hv, hle, hm⟩

/-- The texts' bytes. -/
def lists (ss : List ByteArray) : List (List UInt8) := ss.map fun s => s.data.toList
theorem lists_back (ss : List ByteArray) : (lists ss).map (fun t => (⟨t.toArray⟩ : ByteArray)) = ss := map_bytes ss
theorem lists_strs (ss : List ByteArray) : strs (lists ss) = ss.map Value.string := by
  simp [strs, lists]
theorem lists_len (ss : List ByteArray) : (lists ss).length = ss.length := by simp [lists]
theorem flat_total (ss : List ByteArray) (h : ∀ s ∈ ss, s.size ≤ 100000) : (flat (lists ss)).length ≤ 14 * total ss := by
  induction ss with
  | nil => simp [lists, flat]
  | cons s l ih =>
    have e : lists (s :: l) = s.data.toList :: lists l := rfl
    have h1 := ih fun x hx => h x (List.mem_cons_of_mem _ hx)
    have h2 := h s (List.mem_cons_self ..)
    have h3 := size_of (s := s) rfl
    have h8 := pk_len8 s.data.toList.length (by omega)
    rw [e]
    simp only [flat, List.length_append, ent_len, total]
    omega

theorem wpList_append_texts {ops : Array Oper} {rest : List Oper} {o : Oper} {a : Act} {w : World} {Q : Exit → Act → World → Prop} (hgd : o.guard = none) (s x : Operand)
    (ho : o.op = .call { callee := .builtin .append, args := #[s, x], argTypes := #[29, 29] })
    (base : Nat) (v : Value) (n : Nat) (xs : List Value) (hs : a.eval s = v) (hown : w.ownsRow base 9 1 v n xs)
    (vx : Value) (ss : List ByteArray) (hx : a.eval x = vx) (ht : TextsN w vx ss) (hn : n + ss.length ≤ 4294967296) (hbase : base ≤ w.heap.size)
    (h : ∀ v' w', w'.ownsRow base 9 1 v' (n + ss.length) (xs ++ ss.map Value.string) → w.grownBy w' v.ownBlock → wpList Try.prog ops Q rest (a.put o.dst v') w') :
    wpList Try.prog ops Q (o :: rest) a w := by
  obtain ⟨i0, hi, hz0, hz1, hz2⟩ := info_parts infS
  obtain ⟨⟨_, a0, cap0, hv, hc⟩, hsh⟩ := ht
  rcases hsh with hsh | ⟨ad, n0, c0, hsh, _⟩
  · rw [hsh] at hv hx
    have h0 : ss.length = 0 := by
      injection hv with _ h2 _
      exact h2.symm
    have hss : ss = [] := List.length_eq_zero_iff.1 h0
    subst hss
    refine wpList_append_own_none hgd s x 29 ho base 9 i0 1 Try.underlying29 hi v n xs hs hown hx (h v w ?_ (grownBy_refl _ _))
    simpa using hown
  · rw [hsh] at hv hx
    injection hv with h1 h2 h3
    subst h2 h3
    refine wpList_append_own _ hgd s x 29 ho base 9 i0 (.string ⟨#[]⟩) 1 16 Try.underlying29 hi hz0 hz1 hz2 rfl (by decide) v n xs hs hown ad ss.length _ (ss.map Value.string) hx (by simp) ?_ ?_ ?_ ?_ hbase (fun v' w' h1 h2 _ => h v' w' h1 h2)
    · intro j u hj
      rcases hc with hc | ⟨g, o', hao, hcell⟩
      · subst hc; simp at hj
      · rw [hao] at h1
        injection h1 with h1
        have hjl : j < ss.length := by
          have := (List.getElem?_eq_some_iff.1 hj).1
          simpa using this
        rw [h1, addr_add, hcell j hjl]
        simp [hjl] at hj
        rw [hj]
    · intro u hu
      obtain ⟨y, _, rfl⟩ := List.mem_map.1 hu
      rfl
    · unfold maxLen; omega
    · omega

theorem lists_take (ss : List ByteArray) (k : Nat) (hk : k < ss.length) : flat (lists (ss.take (k + 1))) = flat (lists (ss.take k)) ++ ent ss[k].data.toList := by
  rw [List.take_succ_eq_append_getElem hk]
  simp only [lists, List.map_append, List.map_cons, List.map_nil]
  rw [flat_snoc]
theorem total_take (ss : List ByteArray) (k : Nat) : total (ss.take k) ≤ total ss := by
  induction ss generalizing k with
  | nil => simp [total]
  | cons s l ih =>
    cases k with
    | zero => simp [total]
    | succ k => simp only [List.take_succ_cons, total]; have := ih k; omega
theorem lists_short (ss : List ByteArray) (h : ∀ s ∈ ss, s.size ≤ 100000) : Short (lists ss) := by
  intro t ht
  obtain ⟨s, hs, rfl⟩ := List.mem_map.1 ht
  rw [← size_of (s := s) rfl]
  exact h s hs
theorem short_append {l m : List (List UInt8)} (h : Short l) (k : Short m) : Short (l ++ m) := fun t ht => by
  rcases List.mem_append.1 ht with h1 | h1
  · exact h t h1
  · exact k t h1

/-- The first of them, as a slice. -/
theorem slice_take (w : World) (v : Value) (ss : List ByteArray) (k : Nat) (h : TextsN w v ss) (hk : k ≤ ss.length) : ∃ v', (∀ W : World, (Instr.slice 29 v none (some (.int .i64 (k : Int))) none).run Try.prog W = .ok v' W) ∧ TextsN w v' (ss.take k) := by
  obtain ⟨⟨hn, a, cap, hv, hc⟩, hsh⟩ := h
  rcases hsh with hsh | ⟨ad, n0, c0, hsh, hle, hm⟩
  · rw [hsh] at hv
    have h0 : ss.length = 0 := by injection hv with _ h2 _; exact h2.symm
    have hss : ss = [] := List.length_eq_zero_iff.1 h0
    subst hss hsh
    obtain rfl : k = 0 := by simpa using hk
    refine ⟨.slice none 0 0, fun W => ?_, ⟨⟨by simp, none, 0, rfl, Or.inl (by simp)⟩, Or.inl rfl⟩⟩
    simp [Instr.slice, Instr.sliceBounds, Instr.sliceBound, run_underlying Try.underlying29, asIntOf]
  · rw [hsh] at hv
    injection hv with h1 h2 h3
    subst h2 h3 hsh
    have hkc : k ≤ c0 := Nat.le_trans hk hle
    have hlen : (ss.take k).length = k := by rw [List.length_take]; omega
    refine ⟨.slice (some ad) k c0, fun W => ?_, ⟨⟨by rw [hlen]; omega, some ad, c0, by rw [hlen], ?_⟩, Or.inr ⟨ad, k, c0, rfl, hkc, hm⟩⟩⟩
    · simp [Instr.slice, Instr.sliceBounds, Instr.sliceBound, run_underlying Try.underlying29, asIntOf, hkc]
      intro _
      obtain ⟨b, o, sp⟩ := ad
      cases sp <;> simp [Addr.add]
    · by_cases h0 : k = 0
      · exact Or.inl (by rw [h0]; rfl)
      · rcases hc with hc | ⟨g, o, hao, hcell⟩
        · subst hc; simp at hk; omega
        · rw [hao] at h1
          refine Or.inr ⟨g, o, h1, fun j hj => ?_⟩
          rw [hcell j (by rw [hlen] at hj; omega)]
          simp

set_option maxHeartbeats 1000000 in
/-- Which of so many things a raw number speaks of. -/
theorem choose_any (c : Int) (m : Nat) (w : World) (h0 : -9223372036854775808 ≤ c) (h1 : c ≤ 9223372036854775807) (hm : 0 < m) (hm2 : m ≤ 1099511627776) :
    Calls Try.prog 18 #[.int .i64 c, .int .i64 m] w fun e w' => (∃ r : Nat, r < m ∧ e = .returned (.int .i64 (r : Int))) ∧ w' = w := by
  have hmi : (0 : Int) < (m : Int) := by omega
  have hm0 : ((m : Int) == 0) = false := by simp; omega
  have key : ∀ d : Int, 0 ≤ d → ∃ r : Nat, r < m ∧ d.tmod (m : Int) = (r : Int) ∧ d % (m : Int) = (r : Int) := fun d hd => by
    have h2 := Int.emod_nonneg d (show (m : Int) ≠ 0 by omega)
    have h3 := Int.emod_lt_of_pos d hmi
    refine ⟨(d % (m : Int)).toNat, by omega, ?_, by omega⟩
    rw [Int.tmod_eq_emod_of_nonneg hd]
    omega
  by_cases hc : c < 0
  · obtain ⟨d, hd⟩ : ∃ d : Int, d = -(c + 1) := ⟨_, rfl⟩
    obtain ⟨r, hr, hr1, hr2⟩ := key d (by omega)
    have x1 : wrap64 (c + 1) = c + 1 := by unfold wrap64; omega
    have x2 : IntKind.i64.wrap (c + 1) = c + 1 := by rw [IntKind.wrap_i64]; omega
    have x3 : wrap64 (-(c + 1)) = d := by unfold wrap64; omega
    have x4 : IntKind.i64.wrap (-(c + 1)) = d := by rw [IntKind.wrap_i64]; omega
    have hd0 : 0 ≤ d := by omega
    clear key hd h0 h1 hm2
    go_enter Try.func18, Try.ntmps18
    go_wp2
    go_ret
    exact ⟨⟨r, hr, by simp⟩, rfl⟩
  · obtain ⟨r, hr, hr1, hr2⟩ := key c (by omega)
    have hc0 : 0 ≤ c := by omega
    clear key h1 hm2 hc
    go_enter Try.func18, Try.ntmps18
    go_wp2
    go_ret
    exact ⟨⟨r, hr, by simp⟩, rfl⟩
end Go.Proofs.Ytcfplkfddcblnaa
