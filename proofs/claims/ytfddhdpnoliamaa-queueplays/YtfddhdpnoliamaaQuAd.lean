/- Lists of texts of a law: is one there; one is added. -/
import Derived.Test.YtfddhdpnoliamaaQuBg
import Derived.ArgAppend
namespace Go.Proofs.Ytfddhdpnoliamaa
open Go.RowKit Go.Shelf
attribute [local go_sem ↓] appS_eq

def scs (l : List ByteArray) : List Value := l.map fun s => .string s
/-- A list of texts that a law made. -/
def TxR (w : World) (B : Nat) (v : Value) (l : List ByteArray) : Prop := w.ownsRow B 9 1 v l.length (scs l) ∧ (l = [] → v = .slice none 0 0)
theorem TxR.nil (w : World) (B : Nat) : TxR w B (.slice none 0 0) [] := ⟨World.ownsRow_nil _ _ _ _, fun _ => rfl⟩
theorem TxR.keep {w w' : World} {B : Nat} {v : Value} {l : List ByteArray} (h : TxR w B v l) (hh : ∀ g, v.ownBlock = some g → w'.heap[g]? = w.heap[g]?) : TxR w' B v l := ⟨own_heap h.1 hh, h.2⟩
theorem TxR.cell {w : World} {B : Nat} {l : List ByteArray} {g n cap : Nat} (h : TxR w B (.slice (some ⟨g, 0, none⟩) n cap) l) (k : Nat) (hk : k < l.length) : w.cell? ⟨g, k, none⟩ = some (.string l[k]) := by
  obtain ⟨ao, c, e⟩ := row_shape h.1
  cases e
  refine (h.1.cellAt k (by omega)).trans ?_
  unfold scs
  rw [List.getElem?_map, List.getElem?_eq_getElem hk]
  rfl
def memN (l : List ByteArray) (s : ByteArray) : Bool := l.any fun x => eqN x s
theorem memN_iff (l : List ByteArray) (s : ByteArray) : memN l s = true ↔ s ∈ l := by
  unfold memN
  rw [List.any_eq_true]
  constructor
  · rintro ⟨x, hx, he⟩; rw [← (eqN_iff _ _).1 he]; exact hx
  · intro h; exact ⟨s, h, (eqN_iff _ _).2 rfl⟩
theorem memN_no (l : List ByteArray) (s : ByteArray) : memN l s = false ↔ s ∉ l := by
  rw [← memN_iff]
  cases memN l s <;> simp
theorem infS : (Try.prog.info? 9).map (fun i => (i.zero, i.size, i.bytes)) = some (some (.string ⟨#[]⟩), 1, 16) := by kernel_rfl

set_option maxHeartbeats 4000000 in
set_option maxRecDepth 100000 in
theorem HasText_own (B : Nat) (v : Value) (l : List ByteArray) (s : ByteArray) (w : World) (h : TxR w B v l) (hn : l.length ≤ 1000000) :
    Calls Try.prog 21 #[v, .string s] w fun e w' => e = .returned (.bool (memN l s)) ∧ w' = w := by
  obtain ⟨ao, cap, rfl⟩ := row_shape h.1
  have H : Hid (TxR w B (.slice ao l.length cap) l) := h
  clear h
  obtain ⟨b, hb⟩ : ∃ b, b = memN l s := ⟨_, rfl⟩
  have HB : Hid (b = memN l s) := hb
  rw [← hb]
  clear hb
  go_enter Try.func21, Try.ntmps21
  go_wp2
  go_loopw [5] (fun v wr => ∃ k : Nat, k ≤ l.length ∧ v = .int .i64 (k : Int) ∧ Hid (s ∉ l.take k) ∧ wr = w) (fun v _ => l.length - (intOf v).toNat)
  case atStart => exact ⟨0, Nat.zero_le _, rfl, by unfold Hid; simp, rfl⟩
  case round =>
    obtain ⟨k, hk, rfl, HK, rfl⟩ := hrel
    by_cases hlt : k < l.length
    · have hki : (k : Int) < (l.length : Int) := by omega
      obtain ⟨g, cap', hv, _, _⟩ := H.out.1.form (by omega)
      cases hv
      have c1 := H.out.cell k hlt
      obtain ⟨k1, hk1⟩ : ∃ k1, k1 = k + 1 := ⟨_, rfl⟩
      have hk2 : (k : Int) + 1 = (k1 : Int) := by omega
      have hw2 : IntKind.i64.wrap (k1 : Int) = (k1 : Int) := by rw [IntKind.wrap_i64]; omega
      by_cases he : l[k] = s
      · have hq : (l[k].toList == s.toList) = true := (eqN_iff _ _).2 he
        have hbt : b = true := by rw [HB.out, memN_iff, ← he]; exact List.getElem_mem hlt
        subst hbt
        clear he HB
        generalize l[k] = x at c1 hq
        go_wp2
        go_ret
        exact ⟨rfl, rfl⟩
      · have hq : (l[k].toList == s.toList) = false := (eqN_no _ _).2 he
        have HN : Hid (s ∉ l.take k1 ∧ k1 = k + 1) := by
          refine ⟨?_, hk1⟩
          rw [hk1, List.take_succ_eq_append_getElem hlt, List.mem_append]
          rintro (h | h)
          · exact HK.out h
          · simp at h; exact he h.symm
        clear he hk1
        generalize l[k] = x at c1 hq
        go_wp2
        refine ⟨⟨k1, by rw [HN.out.2]; exact hlt, rfl, HN.out.1, trivial⟩, ?_⟩
        have := HN.out.2
        simp [intOf]; omega
    · have hki : ¬ (k : Int) < (l.length : Int) := by omega
      have hbf : b = false := by
        rw [HB.out, memN_no]
        have := HK.out
        rw [List.take_of_length_le (by omega)] at this
        exact this
      subst hbf
      go_wp2
      go_ret
      exact ⟨rfl, rfl⟩

theorem app_empty (N n c : Nat) (hnc : n ≤ c) (W : World) : (Builtin.append_ #[43, 43] 43 #[.slice (some ⟨N, 0, none⟩) n c, .slice none 0 0]).run Try.prog W = .ok (.slice (some ⟨N, 0, none⟩) n c) W := by
  obtain ⟨i0, hi, hz0, hz1, hz2⟩ := info_p infS
  simp [Builtin.append_, run_underlying Try.underlying43, sizeOf, typeInfo, hi, Builtin.lenOf, Builtin.firstCells, storeCells, hnc]

set_option maxHeartbeats 4000000 in
set_option maxRecDepth 100000 in
theorem AddText_nil (B : Nat) (s : ByteArray) (w : World) (hB : B ≤ w.heap.size) :
    Calls Try.prog 20 #[.slice none 0 0, .string s] w fun e w' => ∃ v', e = .returned v' ∧ TxR w' B v' [s] ∧ Below w.heap.size w w' ∧ ∀ g, v'.ownBlock = some g → w.heap.size ≤ g := by
  obtain ⟨i0, hi, hz0, hz1, hz2⟩ := info_p infS
  have hzA : (w.alloc (.cells #[.string s] 9)).heap.size = w.heap.size + 1 := World.size_alloc _ _
  obtain ⟨g', cap', w1, hrun, hown, hgrow, hat, hlt⟩ := run_append_lies (P := Try.prog) ((w.alloc (.cells #[.string s] 9)).drew) 43 43 B 9 i0 (.string ⟨#[]⟩) 1 16 Try.underlying43 hi hz0 hz1 hz2 rfl (by decide) (.slice none 0 0) 0 [] (World.ownsRow_nil _ _ _ _) ⟨w.heap.size, 0, none⟩ 1 1 [.string s] rfl (fun j u hu => by
    rw [add0]
    have h1 : j < 1 := (List.getElem?_eq_some_iff.1 hu).1
    have h0 : j = 0 := by omega
    subst h0
    exact al_at w _ _ _ 0 u rfl hu) (fun u hu => by rw [List.mem_singleton.1 hu]; rfl) (by decide) (by decide) (by decide) (by show B ≤ (w.alloc _).heap.size; omega) (w.heap.size + 1) hzA
  have hap2 : (appS #[43, 43] 43 #[.slice none 0 0, .slice (some ⟨w.heap.size, 0, none⟩) 1 1]).run Try.prog ((w.alloc (.cells #[.string s] 9)).drew) = .ok (.slice (some ⟨g', 0, none⟩) 1 cap') w1 := hrun
  have hap1 : (appS #[43, 43] 43 #[.slice (some ⟨w.heap.size, 0, none⟩) 1 1, .slice none 0 0]).run Try.prog ((w.alloc (.cells #[.string s] 9)).drew) = .ok (.slice (some ⟨w.heap.size, 0, none⟩) 1 1) ((w.alloc (.cells #[.string s] 9)).drew) := app_empty _ _ _ (Nat.le_refl _) _
  have HE : Hid (TxR w1 B (.slice (some ⟨g', 0, none⟩) 1 cap') [s] ∧ Below w.heap.size w w1 ∧ w.heap.size ≤ g') := by
    refine ⟨⟨hown, fun h => (by cases h)⟩, (((Below.refl _ w).alloc (Nat.le_refl _) _).drew).grown hgrow (by show w.heap.size ≤ (w.alloc _).heap.size; omega) (fun k hk => by cases hk), ?_⟩
    rcases hat with e | e
    · cases e
    · omega
  clear hrun hown hgrow hat hlt hzA hB
  go_enter Try.func20, Try.ntmps20
  go_wp2
  go_loopw [5] (fun v wr => v = .int .i64 0 ∧ wr = w) (fun _ _ => 0)
  case atStart => exact ⟨rfl, rfl⟩
  case round =>
    obtain ⟨rfl, rfl⟩ := hrel
    go_wp2
    go_region
    all_goals
      go_wp2
      go_ret
      exact ⟨_, rfl, HE.out.1, HE.out.2.1, fun g hg => by simp [Value.ownBlock] at hg; rw [← hg]; exact HE.out.2.2⟩

set_option maxHeartbeats 8000000 in
set_option maxRecDepth 100000 in
theorem AddText_some (B : Nat) (v : Value) (l : List ByteArray) (s : ByteArray) (w : World) (h : TxR w B v l) (h0 : 0 < l.length) (hn : l.length ≤ 1000000) (hs : s ∉ l) :
    Calls Try.prog 20 #[v, .string s] w fun e w' => ∃ v' k, e = .returned v' ∧ k ≤ l.length ∧ TxR w' B v' (l.take k ++ s :: l.drop k) ∧ Below w.heap.size w w' ∧ ∀ g, v'.ownBlock = some g → w.heap.size ≤ g := by
  obtain ⟨g, cap, hv, hg1, hg2⟩ := h.1.form h0
  subst hv
  have hcap : l.length ≤ cap := by
    rcases h.1.2 with ⟨e, _⟩ | ⟨g', cap', cur, e, _, _, hle, _⟩
    · cases e
    · cases e; exact hle
  have HC : Hid (∀ (k : Nat) (hk : k < l.length), w.cell? ⟨g, k, none⟩ = some (.string l[k])) := fun k hk => h.cell k hk
  -- both appends, at whatever place
  have HAp : Hid (∀ k : Nat, k ≤ l.length → ∃ (A : Addr) (v1 v2 : Value) (w1 w2 : World), (if cap = k then some (⟨g, 0, none⟩ : Addr) else some ⟨g, k, none⟩) = some A ∧
      (appS #[43, 43] 43 #[.slice (some ⟨w.heap.size, 0, none⟩) 1 1, .slice (some A) (l.length - k) (cap - k)]).run Try.prog ((w.alloc (.cells #[.string s] 9)).drew) = .ok v1 w1 ∧
      (appS #[43, 43] 43 #[.slice (some ⟨g, 0, none⟩) k k, v1]).run Try.prog w1 = .ok v2 w2 ∧ TxR w2 B v2 (l.take k ++ s :: l.drop k) ∧ Below w.heap.size w w2 ∧ ∀ x, v2.ownBlock = some x → w.heap.size ≤ x) := by
    intro k hk
    obtain ⟨i0, hi, hz0, hz1, hz2⟩ := info_p infS
    have hzA : ((w.alloc (.cells #[.string s] 9)).drew).heap.size = w.heap.size + 1 := World.size_alloc _ _
    have hAl : ∀ x : Nat, x < w.heap.size → ((w.alloc (.cells #[.string s] 9)).drew).heap[x]? = w.heap[x]? := fun x hx => heap_al w _ x hx
    have hlc : ∀ (j : Nat) (hj : j < l.length), ((w.alloc (.cells #[.string s] 9)).drew).cell? ⟨g, j, none⟩ = some (.string l[j]) := fun j hj => (World.cell?_of_block (w := w) (hAl g hg2)).trans (HC.out j hj)
    obtain ⟨A, hA, hsrc⟩ : ∃ A : Addr, (if cap = k then some (⟨g, 0, none⟩ : Addr) else some ⟨g, k, none⟩) = some A ∧ ∀ j u, (scs (l.drop k))[j]? = some u → ((w.alloc (.cells #[.string s] 9)).drew).cell? (A.add j) = some u := by
      by_cases hck : cap = k
      · refine ⟨⟨g, 0, none⟩, by simp [hck], fun j u hu => ?_⟩
        have : l.drop k = [] := List.drop_eq_nil_iff.2 (by omega)
        rw [this] at hu
        simp [scs] at hu
      · refine ⟨⟨g, k, none⟩, by simp [hck], fun j u hu => ?_⟩
        have hj : j < (l.drop k).length := by have := (List.getElem?_eq_some_iff.1 hu).1; unfold scs at this; simpa using this
        rw [Addr.add_lit, hlc (k + j) (by rw [List.length_drop] at hj; omega)]
        unfold scs at hu
        rw [List.getElem?_map, List.getElem?_eq_getElem hj] at hu
        rw [← hu]
        simp
    have hown0 : ((w.alloc (.cells #[.string s] 9)).drew).ownsRow w.heap.size 9 1 (.slice (some ⟨w.heap.size, 0, none⟩) 1 1) 1 [.string s] :=
      ⟨rfl, .inr ⟨w.heap.size, 1, #[.string s], rfl, Nat.le_refl _, heap_alloc_new w _, Nat.le_refl _, by decide, rfl, rfl⟩⟩
    obtain ⟨v1, w1, hr1, ho1, hg1', _⟩ := run_append_own (P := Try.prog) ((w.alloc (.cells #[.string s] 9)).drew) w.heap.size 43 43 9 i0 (.string ⟨#[]⟩) 1 16 Try.underlying43 hi hz0 hz1 hz2 rfl (by decide) (.slice (some ⟨w.heap.size, 0, none⟩) 1 1) 1 [.string s] hown0 A (l.length - k) (cap - k) (scs (l.drop k)) (by unfold scs; simp) hsrc (fun u hu => by unfold scs at hu; obtain ⟨x, _, rfl⟩ := List.mem_map.1 hu; rfl) (by unfold maxLen; omega) (by omega) (by omega)
    obtain ⟨g1, c1, hv1, hg3, hg4⟩ := ho1.form (by omega)
    have hw1 : ∀ x : Nat, x < w.heap.size → w1.heap[x]? = w.heap[x]? := fun x hx => (hg1'.block x (by omega) (fun e => by simp [Value.ownBlock] at e; omega)).trans (hAl x hx)
    have hcells1 : ∀ j u, ([.string s] ++ scs (l.drop k))[j]? = some u → w1.cell? ((⟨g1, 0, none⟩ : Addr).add j) = some u := by
      have := ho1
      rw [hv1] at this
      exact this.cells rfl
    obtain ⟨v2, w2, hr2, ho2, hg2'⟩ := run_append_arg_grows (P := Try.prog) w1 43 43 9 i0 (.string ⟨#[]⟩) 1 16 Try.underlying43 hi hz0 hz1 hz2 rfl (by decide) ⟨g, 0, none⟩ k k (scs (l.take k)) (by unfold scs; simp; omega) (fun j u hu => by
        have hj : j < (l.take k).length := by have := (List.getElem?_eq_some_iff.1 hu).1; unfold scs at this; simpa using this
        have hjl : j < l.length := by rw [List.length_take] at hj; omega
        rw [add0, World.cell?_of_block (w := w) (hw1 g hg2), HC.out j hjl]
        unfold scs at hu
        rw [List.getElem?_map, List.getElem?_eq_getElem hj] at hu
        rw [← hu]
        simp) ⟨g1, 0, none⟩ (1 + (l.length - k)) c1 ([.string s] ++ scs (l.drop k)) (by unfold scs; simp; omega) hcells1 (by omega) (by unfold maxLen; omega) (by omega)
    have hsz1 : w.heap.size ≤ w1.heap.size := by have := hg1'.size; omega
    refine ⟨A, v1, v2, w1, w2, hA, hr1, by rw [hv1]; exact hr2, ?_, ?_, fun x hx => ?_⟩
    · have hl2 : (l.take k ++ s :: l.drop k).length = k + (1 + (l.length - k)) := by simp; omega
      have hc2 : scs (l.take k ++ s :: l.drop k) = scs (l.take k) ++ ([.string s] ++ scs (l.drop k)) := by unfold scs; simp
      refine ⟨?_, fun e => by simp at e⟩
      rw [hl2, hc2]
      obtain ⟨x1, x2⟩ := ho2
      refine ⟨x1, ?_⟩
      rcases x2 with x2 | ⟨a1, a2, a3, a4, a5, a6⟩
      · exact .inl x2
      · exact .inr ⟨a1, a2, a3, a4, by omega, a6⟩
    · refine ⟨?_, ?_, ?_, ?_, fun x hx => ?_⟩
      · exact hg2'.os.trans hg1'.os
      · exact hg2'.tape.trans hg1'.tape
      · exact hg2'.output.trans hg1'.output
      · have := hg2'.size; omega
      · exact (hg2'.block x (by omega) (fun e => by cases e)).trans (hw1 x hx)
    · have := (ho2.lt x hx).1; omega
  have HS : Hid (s ∉ l) := hs
  clear h hs hg1 hg2
  go_enter Try.func20, Try.ntmps20
  go_wp2
  go_loopw [5] (fun v wr => ∃ k : Nat, k ≤ l.length ∧ v = .int .i64 (k : Int) ∧ wr = w) (fun v _ => l.length - (intOf v).toNat)
  case atStart => exact ⟨0, Nat.zero_le _, rfl, rfl⟩
  case round =>
    obtain ⟨k, hk, rfl, rfl⟩ := hrel
    obtain ⟨k1, hk1⟩ : ∃ k1, k1 = k + 1 := ⟨_, rfl⟩
    have hk2 : (k : Int) + 1 = (k1 : Int) := by omega
    have hw2 : IntKind.i64.wrap (k1 : Int) = (k1 : Int) := by rw [IntKind.wrap_i64]; omega
    have HK1 : Hid (k1 = k + 1) := hk1
    obtain ⟨A, v1, v2, w1, w2, hA, ha1, ha2, hE⟩ := HAp.out k hk
    have HE : Hid (TxR w2 B v2 (l.take k ++ s :: l.drop k) ∧ Below wr.heap.size wr w2 ∧ ∀ x, v2.ownBlock = some x → wr.heap.size ≤ x) := hE
    have hk4 : k ≤ cap := by omega
    clear hk1 hE
    by_cases hlt : k < l.length
    · have hki : (k : Int) < (l.length : Int) := by omega
      have c1 := HC.out k hlt
      have hne : (l[k].toList == s.toList) = false := (eqN_no _ _).2 fun e => HS.out (by rw [← e]; exact List.getElem_mem hlt)
      generalize l[k] = x at c1 hne
      cases hb : Op.bytesLess x.toList s.toList with
      | true =>
        go_wp2
        refine ⟨⟨k1, by rw [HK1.out]; exact hlt, rfl, trivial⟩, ?_⟩
        have := HK1.out
        simp [intOf]; omega
      | false =>
        go_wp2
        go_region
        all_goals
          go_wp2
          go_ret
          exact ⟨_, k, rfl, hk, HE.out⟩
    · have hki : ¬ (k : Int) < (l.length : Int) := by omega
      go_wp2
      go_region
      all_goals
        go_wp2
        go_ret
        exact ⟨_, k, rfl, hk, HE.out⟩

/-- A text that is not there is added somewhere. -/
theorem AddText_any (B : Nat) (v : Value) (l : List ByteArray) (s : ByteArray) (w : World) (h : TxR w B v l) (hn : l.length ≤ 1000000) (hs : s ∉ l) (hB : B ≤ w.heap.size) :
    Calls Try.prog 20 #[v, .string s] w fun e w' => ∃ v' l', e = .returned v' ∧ l'.Perm (s :: l) ∧ TxR w' B v' l' ∧ Below w.heap.size w w' ∧ ∀ g, v'.ownBlock = some g → w.heap.size ≤ g := by
  by_cases h0 : l = []
  · subst h0
    have hv := h.2 rfl
    subst hv
    refine (AddText_nil B s w hB).mono ?_
    rintro e w' ⟨v', he, h1, h2, h3⟩
    exact ⟨v', [s], he, List.Perm.refl _, h1, h2, h3⟩
  · refine (AddText_some B v l s w h (List.length_pos_iff.2 h0) hn hs).mono ?_
    rintro e w' ⟨v', k, he, hk, h1, h2, h3⟩
    refine ⟨v', _, he, ?_, h1, h2, h3⟩
    have : (l.take k ++ s :: l.drop k).Perm (s :: (l.take k ++ l.drop k)) := List.perm_middle
    rwa [List.take_append_drop] at this
end Go.Proofs.Ytfddhdpnoliamaa
