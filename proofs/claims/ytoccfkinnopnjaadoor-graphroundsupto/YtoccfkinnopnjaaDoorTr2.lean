/- Names that are ready: one comes, the last one goes. -/
import Derived.Laws.AppendOwnNone
import Derived.Test.YtoccfkinnopnjaaDoorTr1
namespace Go.Proofs.YtoccfkinnopnjaaDoor
open Go.RowKit Go.Shelf

theorem infoG {i : Option TypeInfo} {z : Value} {s b : Nat} (h : i.map (fun i => (i.zero, i.size, i.bytes)) = some (some z, s, b)) : ∃ i0, i = some i0 ∧ i0.zero = some z ∧ i0.size = s ∧ i0.bytes = b := by
  match i, h with
  | some i0, h =>
    simp at h
    exact ⟨i0, rfl, h.1, h.2.1, h.2.2⟩
theorem sStrG : (Tryd.prog.info? 9).map (fun i => (i.zero, i.size, i.bytes)) = some (some (.string ⟨#[]⟩), 1, 16) := by kernel_rfl
/-- Appending, shut: the walk is not to look into it. -/
def appG (ats : Array TypeId) (ty : TypeId) (args : Array Value) : Sem Value := Builtin.append_ ats ty args
theorem appG_eq (ats : Array TypeId) (ty : TypeId) (args : Array Value) : Builtin.append_ ats ty args = appG ats ty args := rfl
attribute [local go_sem ↓] appG_eq

theorem ta_str (x : ByteArray) (xT : TypeId) (W : World) : (Instr.typeAssert (.iface 9 (.string x)) xT 9 false).run Tryd.prog W = .ok (.string x) W := by
  simp [Instr.typeAssert, run_underlying Tryd.underlying9, go_sem, Result.andThen]
/-- The slice is another one, over the same row or over a new one. -/
theorem Rdy.box_set {B b : Nat} {v v2 : Value} {L L2 : List ByteArray} {w w2 : World} (h : Rdy B b v L w) (hb : w2.heap[b]? = w.heap[b]?) (hr : w2.ownsRow B 9 1 v2 L2.length (L2.map Value.string)) :
    Rdy B b v2 L2 (w2.setCell ⟨b, 0, none⟩ v2) := by
  have hbox : w2.heap[b]? = some (.cells #[v] 61 (0, 0)) := hb.trans h.box
  refine ⟨Go.Joins.block_setCell hbox _, ?_⟩
  have hne : v2.ownBlock ≠ some b := Lib.ownBlock_ne hr hbox (by decide)
  refine hr.kept (row := some b) ⟨rfl, rfl, rfl, by simp [World.setCell], fun k _ hk => Below.heap_setCell w2 _ _ k (fun e => hk (by rw [e]))⟩ ?_
  exact .inr hne

set_option maxHeartbeats 2000000 in
theorem RPop_any (B b g c : Nat) (L : List ByteArray) (w : World) (h : Rdy B b (.slice (some ⟨g, 0, none⟩) L.length c) L w) (h0 : 0 < L.length) (hl : L.length ≤ 1000000) :
    Calls Tryd.prog 116 #[.pointer (some ⟨b, 0, none⟩)] w fun e w' => e = .returned (.iface 9 (.string (L.getD (L.length - 1) default))) ∧ Rdy B b (.slice (some ⟨g, 0, none⟩) (L.length - 1) c) (L.take (L.length - 1)) w' ∧ Oth (RdS b (.slice (some ⟨g, 0, none⟩) L.length c)) w w' := by
  obtain ⟨g2, c2, e, _, _, hcap⟩ := h.form h0
  have ec : c2 = c := by injection e with _ _ e; exact e.symm
  subst ec
  have hc := h.cell
  have hx := h.at (k := L.length - 1) (by omega)
  have hf : w.frozen? ⟨b, 0, none⟩ = false := Lib.frozen_of_heap h.box 0
  obtain ⟨k, hk⟩ : ∃ k, k = L.length - 1 := ⟨_, rfl⟩
  have k1 : (L.length : Int) - 1 = (k : Int) := by omega
  have k2 : IntKind.i64.wrap (k : Int) = (k : Int) := by rw [IntKind.wrap_i64]; omega
  have k3 : (k : Int) < (L.length : Int) := by omega
  have k4 : (k : Int) ≤ (c2 : Int) := by omega
  have k5 : k ≤ c2 := by omega
  rw [← hk] at hx
  have hrow : w.ownsRow B 9 1 (.slice (some ⟨g, 0, none⟩) k c2) (L.take k).length ((L.take k).map Value.string) := by
    rcases h.row.2 with ⟨e, _⟩ | ⟨g', c', cur, e, hb, hcc, h1, h2, h3, h4⟩
    · cases e
    · injection e with e1 _ e2
      injection e1 with e1
      injection e1 with e1
      subst e1 e2
      have hlt : (L.take k).length = k := by rw [List.length_take]; omega
      refine ⟨by simp, .inr ⟨g, c2, cur, by rw [hlt], hb, hcc, by omega, h2, h3, ?_⟩⟩
      rw [hlt, Nat.mul_one, List.map_take, ← h4, List.take_take]
      congr 1
      omega
  have HR : Hid (Rdy B b (.slice (some ⟨g, 0, none⟩) k c2) (L.take k) (w.setCell ⟨b, 0, none⟩ (.slice (some ⟨g, 0, none⟩) k c2)) ∧ Oth (RdS b (.slice (some ⟨g, 0, none⟩) L.length c2)) w (w.setCell ⟨b, 0, none⟩ (.slice (some ⟨g, 0, none⟩) k c2))) := ⟨h.box_set rfl hrow, Oth.set w b 0 _ (.inl rfl)⟩
  rw [← hk]
  clear h hrow h0 hl hk hcap e
  generalize L.getD k default = x at *
  go_enter Tryd.func116, Tryd.ntmps116
  go_wp2
  go_ret
  exact ⟨rfl, HR.out⟩

set_option maxHeartbeats 2000000 in
theorem RPush_any (B b : Nat) (v : Value) (L : List ByteArray) (x : ByteArray) (w : World) (h : Rdy B b v L w) (hB : B ≤ w.heap.size) (hl : L.length ≤ 1000000) :
    Calls Tryd.prog 117 #[.pointer (some ⟨b, 0, none⟩), .iface 9 (.string x)] w fun e w' => e = .returned (.tuple #[]) ∧ ∃ g c, Rdy B b (.slice (some ⟨g, 0, none⟩) (L ++ [x]).length c) (L ++ [x]) w' ∧ (v.ownBlock = some g ∨ w.heap.size ≤ g) ∧ Oth (RdS b v) w w' := by
  obtain ⟨i0, hi, hz0, hz1, hz2⟩ := infoG sStrG
  obtain ⟨W, hW⟩ : ∃ W, W = (w.alloc (.cells #[.string x] 9)).drew := ⟨_, rfl⟩
  have hsz : W.heap.size = w.heap.size + 1 := by rw [hW]; exact World.size_alloc _ _
  have hbW : Below w.heap.size w W := by rw [hW]; exact ((Below.refl _ w).alloc (Nat.le_refl _) (.cells #[.string x] 9)).drew
  have hnew : W.heap[w.heap.size]? = some (.cells #[.string x] 9 (0, 0)) := by rw [hW]; exact heap_alloc_new w _
  have hblt : b < w.heap.size := (Array.getElem?_eq_some_iff.1 h.box).1
  have hrW : W.ownsRow B 9 1 v L.length (L.map Value.string) := by rw [hW]; exact (h.row.alloc (.cells #[.string x] 9) : (w.alloc (.cells #[.string x] 9)).ownsRow B 9 1 v L.length (L.map Value.string))
  obtain ⟨g, cap, w2, a1, a2, a3, a4, _⟩ := run_append_lies (P := Tryd.prog) W 61 61 B 9 i0 (.string ⟨#[]⟩) 1 16 Tryd.underlying61 hi hz0 hz1 hz2 rfl (by decide) v L.length (L.map Value.string) hrW ⟨w.heap.size, 0, none⟩ 1 1 [.string x] rfl (fun j u hu => by rw [addr_add, Nat.zero_add, Lib.cell_of_heap hnew]; simpa using hu) (fun u hu => by simp at hu; subst hu; rfl) (by decide) (by unfold maxLen; omega) (by omega) (by omega) W.heap.size rfl
  have el : L.length + 1 = (L ++ [x]).length := by simp
  have em : L.map Value.string ++ [.string x] = (L ++ [x]).map Value.string := by simp
  rw [el, em] at a2
  have hap : (appG #[61, 61] 61 #[v, .slice (some ⟨w.heap.size, 0, none⟩) 1 1]).run Tryd.prog (w.alloc (.cells #[.string x] 9)).drew = .ok (.slice (some ⟨g, 0, none⟩) (L ++ [x]).length cap) w2 := by rw [← hW, ← el]; exact a1
  have hnb : v.ownBlock ≠ some b := h.ne
  have hb2 : w2.heap[b]? = w.heap[b]? := (a3.block b (by omega) (fun e => hnb e.symm)).trans (hbW.block b hblt)
  have HF : Hid (Rdy B b (.slice (some ⟨g, 0, none⟩) (L ++ [x]).length cap) (L ++ [x]) (w2.setCell ⟨b, 0, none⟩ (.slice (some ⟨g, 0, none⟩) (L ++ [x]).length cap)) ∧ (v.ownBlock = some g ∨ w.heap.size ≤ g) ∧ Oth (RdS b v) w (w2.setCell ⟨b, 0, none⟩ (.slice (some ⟨g, 0, none⟩) (L ++ [x]).length cap))) := by
    refine ⟨h.box_set hb2 a2, ?_, ?_⟩
    · rcases a4 with a4 | a4
      · exact .inl a4
      · exact .inr (by omega)
    · have o1 : Oth (RdS b v) w w2 := ⟨a3.os.trans hbW.os, a3.tape.trans hbW.tape, a3.output.trans hbW.output, by have := a3.size; omega, fun k hk hn => (a3.block k (by omega) (fun e => hn (.inr e.symm))).trans (hbW.block k hk)⟩
      exact o1.trans (Oth.set w2 b 0 _ (.inl rfl))
  have hc := h.cell
  have hc2 : w2.cell? ⟨b, 0, none⟩ = some v := (World.cell?_of_block (w := w) hb2).trans hc
  have hf2 : w2.frozen? ⟨b, 0, none⟩ = false := Lib.frozen_of_heap (hb2.trans h.box) 0
  have hcA : (w.alloc (.cells #[.string x] 9)).cell? ⟨b, 0, none⟩ = some v := (World.cell?_of_block (w := w) (((Below.refl _ w).alloc (Nat.le_refl _) (.cells #[.string x] 9)).block b hblt)).trans hc
  have hta := fun xT => ta_str x xT w.drew
  clear h hrW a1 a2 a3 a4 hb2 hbW hnew hsz hB hl hW el em hblt hnb hz0 hz1 hz2 hi
  generalize (L ++ [x]).length = n1 at *
  go_enter Tryd.func117, Tryd.ntmps117
  go_wp2
  go_region
  all_goals
    go_wp2
    go_end0
    exact ⟨rfl, _, _, HF.out⟩
end Go.Proofs.YtoccfkinnopnjaaDoor

/- The library's heap at names: up and down. -/
namespace Go.Proofs.YtoccfkinnopnjaaDoor
open Go.RowKit Go.Shelf

set_option maxHeartbeats 4000000 in
set_option maxRecDepth 100000 in
theorem up_any (B b g c j : Nat) (L : List ByteArray) (w : World) (h : Rdy B b (.slice (some ⟨g, 0, none⟩) L.length c) L w) (hj : j < L.length) (hl : L.length ≤ 1000000) :
    Calls Tryd.prog 49 #[rdy b, .int .i64 (j : Int)] w fun e w' => e = .returned (.tuple #[]) ∧ Rdy B b (.slice (some ⟨g, 0, none⟩) L.length c) (upH nlt j L j) w' ∧ Oth (RdS b (.slice (some ⟨g, 0, none⟩) L.length c)) w w' := by
  have H0 : Hid (Rdy B b (.slice (some ⟨g, 0, none⟩) L.length c) L w) := h
  obtain ⟨n, hn⟩ : ∃ n, n = L.length := ⟨_, rfl⟩
  have HN : Hid (n = L.length) := hn
  have hn1 : (n : Int) ≤ 1000000 := by omega
  rw [← hn] at hj H0 ⊢
  clear h hl hn
  go_enter Tryd.func49, Tryd.ntmps49
  go_wp2
  go_loopw [1] (fun v wr => ∃ (k f : Nat) (X : List ByteArray), v = .int .i64 (k : Int) ∧ Hid (k < n ∧ X.length = n ∧ k ≤ f ∧ upH nlt f X k = upH nlt j L j ∧ Rdy B b (.slice (some ⟨g, 0, none⟩) n c) X wr ∧ Oth (RdS b (.slice (some ⟨g, 0, none⟩) n c)) w wr)) (fun v _ => (RowKit.intOf v).toNat)
  case atStart => exact ⟨j, j, L, rfl, hj, HN.out.symm, Nat.le_refl _, rfl, H0.out, Oth.refl _ _⟩
  case round =>
    obtain ⟨k, f, X, rfl, HI⟩ := hrel
    obtain ⟨hk, hX, hkf, hup, hR, hO⟩ := HI.out
    obtain ⟨i, hi⟩ : ∃ i, i = (k - 1) / 2 := ⟨_, rfl⟩
    have hcl := hR.cell
    have hL1 := m_less hcl
    have hS1 := fun (m : Nat) => m_swap (w := wr.drewN m) hcl
    have e1 : ((k : Int) - 1).tdiv 2 = (i : Int) := by
      by_cases h0 : k = 0
      · subst h0; subst hi; rfl
      · rw [show (k : Int) - 1 = ((k - 1 : Nat) : Int) by omega, Int.tdiv_eq_ediv_of_nonneg (by omega)]; omega
    have e2 : IntKind.i64.wrap ((k : Int) - 1) = (k : Int) - 1 := by rw [IntKind.wrap_i64]; omega
    have e3 : IntKind.i64.wrap (i : Int) = (i : Int) := by rw [IntKind.wrap_i64]; omega
    have HI2 : Hid (i = (k - 1) / 2) := hi
    clear hcl hi
    have hX2 : Hid (Rdy B b (.slice (some ⟨g, 0, none⟩) X.length c) X wr) := hX.symm ▸ hR
    by_cases h0 : i = k
    · subst h0
      have HE : Hid (upH nlt f X i = X) := by
        show _ = _
        cases f with
        | zero => rfl
        | succ f => unfold upH; rw [if_pos (.inl HI2.out.symm)]
      have HF : Hid (Rdy B b (.slice (some ⟨g, 0, none⟩) n c) (upH nlt j L j) wr ∧ Oth (RdS b (.slice (some ⟨g, 0, none⟩) n c)) w wr) := ⟨by rw [← hup, HE.out]; exact hR, hO⟩
      clear hL1 hS1 hX2 HE hup hR hO hX hkf hk HI H0 HI2
      go_wp2
      go_end0
      exact ⟨rfl, HF.out⟩
    · have e4 : ¬ (i : Int) = (k : Int) := by omega
      have hi2 := HI2.out
      have HLs : Hid (Calls Tryd.prog 114 #[.slice (some ⟨g, 0, none⟩) n c, .int .i64 (k : Int), .int .i64 (i : Int)] wr fun e w' => e = .returned (.bool (nlt (X.getD k default) (X.getD i default))) ∧ ∃ m, w' = wr.drewN m) := Less_any g n c k i _ _ wr hk (by omega) (hX2.out.at (by omega)) (hX2.out.at (by omega))
      cases hlt : nlt (X.getD k default) (X.getD i default) with
      | false =>
        have HE : Hid (upH nlt f X k = X) := by
          show _ = _
          cases f with
          | zero => rfl
          | succ f => unfold upH; rw [if_pos (.inr (by rw [← hi2]; exact hlt))]
        have HF : Hid (∀ m, Rdy B b (.slice (some ⟨g, 0, none⟩) n c) (upH nlt j L j) (wr.drewN m) ∧ Oth (RdS b (.slice (some ⟨g, 0, none⟩) n c)) w (wr.drewN m)) := fun m => ⟨by rw [← hup, HE.out]; exact hR.drewN m, hO.trans (Oth.drewN _ _ m)⟩
        rw [hlt] at HLs
        clear hS1 hX2 HE hup hR hO hX hkf hk HI H0 h0 hi2 hlt
        go_wp2_with (first | (go_at_call 114; refine HLs.out.mono ?_; rintro e w1 ⟨rfl, m, rfl⟩) | go_in)
        go_end0
        exact ⟨rfl, HF.out _⟩
      | true =>
        have hf1 : 0 < f := by omega
        have HE : Hid (upH nlt f X k = upH nlt (f - 1) (swp X i k) i) := by
          show _ = _
          obtain ⟨f2, rfl⟩ : ∃ f2, f = f2 + 1 := ⟨f - 1, by omega⟩
          rw [show f2 + 1 - 1 = f2 by omega]
          conv => lhs; unfold upH
          rw [if_neg (by rw [← hi2, hlt]; intro h; rcases h with h | h; exact h0 h; cases h), ← hi2]
        have HSw : Hid (∀ m, Calls Tryd.prog 115 #[.slice (some ⟨g, 0, none⟩) n c, .int .i64 (i : Int), .int .i64 (k : Int)] (wr.drewN m) fun e w' => e = .returned (.tuple #[]) ∧ Hid (Rdy B b (.slice (some ⟨g, 0, none⟩) n c) (swp X i k) w' ∧ Oth (RdS b (.slice (some ⟨g, 0, none⟩) n c)) w w')) := fun m => by
          have := Swap_any B b g c i k X (wr.drewN m) (hX2.out.drewN m) (by omega) (by omega)
          rw [hX] at this
          exact this.mono fun e w' ⟨q1, q2, q3⟩ => ⟨q1, q2, (hO.trans (Oth.drewN _ _ m)).trans q3⟩
        have HK : Hid (i < n ∧ (swp X i k).length = n ∧ i ≤ f - 1 ∧ upH nlt (f - 1) (swp X i k) i = upH nlt j L j ∧ i < k) := ⟨by omega, by rw [swp_len]; exact hX, by omega, by rw [← HE.out]; exact hup, by omega⟩
        rw [hlt] at HLs
        clear hX2 HE hup hR hO hX hkf hk HI H0 h0 hi2 hlt hf1
        go_wp2_with (first
          | (go_at_call 114; refine HLs.out.mono ?_; rintro e w1 ⟨rfl, m, rfl⟩)
          | (go_at_call 115; refine (HSw.out _).mono ?_; rintro e w2 ⟨rfl, H2⟩)
          | go_in)
        obtain ⟨k1, k2, k3, k4, k5⟩ := HK.out
        refine ⟨⟨i, f - 1, swp X i k, rfl, k1, k2, k3, k4, H2.out.1, H2.out.2⟩, ?_⟩
        simp [RowKit.intOf]
        omega

set_option maxHeartbeats 4000000 in
set_option maxRecDepth 100000 in
theorem down_any (B b g c n : Nat) (L : List ByteArray) (w : World) (h : Rdy B b (.slice (some ⟨g, 0, none⟩) L.length c) L w) (hn : n ≤ L.length) (hl : L.length ≤ 1000000) :
    Calls Tryd.prog 50 #[rdy b, .int .i64 0, .int .i64 (n : Int)] w fun e w' => (∃ r : Bool, e = .returned (.bool r)) ∧ Rdy B b (.slice (some ⟨g, 0, none⟩) L.length c) (dnH nlt L.length L n 0) w' ∧ Oth (RdS b (.slice (some ⟨g, 0, none⟩) L.length c)) w w' := by
  have H0 : Hid (Rdy B b (.slice (some ⟨g, 0, none⟩) L.length c) L w) := h
  obtain ⟨N, hN⟩ : ∃ N, N = L.length := ⟨_, rfl⟩
  have HN : Hid (N = L.length) := hN
  have hN1 : (N : Int) ≤ 1000000 := by omega
  have hn1 : (n : Int) ≤ 1000000 := by omega
  have HNn : Hid (n ≤ N) := by rw [hN]; exact hn
  rw [← hN] at H0 ⊢
  clear h hl hN hn
  go_enter Tryd.func50, Tryd.ntmps50
  go_wp2
  go_loopw [7] (fun v wr => ∃ (k f : Nat) (X : List ByteArray), v = .int .i64 (k : Int) ∧ Hid (k ≤ N ∧ X.length = N ∧ N ≤ k + f ∧ dnH nlt f X n k = dnH nlt N L n 0 ∧ Rdy B b (.slice (some ⟨g, 0, none⟩) N c) X wr ∧ Oth (RdS b (.slice (some ⟨g, 0, none⟩) N c)) w wr)) (fun v _ => N - (RowKit.intOf v).toNat)
  case atStart => exact ⟨0, N, L, rfl, Nat.zero_le _, HN.out.symm, by omega, rfl, H0.out, Oth.refl _ _⟩
  case round =>
    obtain ⟨k, f, X, rfl, HI⟩ := hrel
    obtain ⟨hk, hX, hkf, hup, hR, hO⟩ := HI.out
    have hX2 : Hid (Rdy B b (.slice (some ⟨g, 0, none⟩) X.length c) X wr) := hX.symm ▸ hR
    have hcl := hR.cell
    have hL1 := fun (m : Nat) => m_less (w := wr.drewN m) hcl
    have hS1 := fun (m : Nat) => m_swap (w := wr.drewN m) hcl
    have hL0 := m_less hcl
    obtain ⟨j1, hj1⟩ : ∃ j1, j1 = 2 * k + 1 := ⟨_, rfl⟩
    obtain ⟨j2, hj2⟩ : ∃ j2, j2 = 2 * k + 2 := ⟨_, rfl⟩
    have e0 : (2 : Int) * (k : Int) = ((2 * k : Nat) : Int) := by omega
    have e1 : ((2 * k : Nat) : Int) + 1 = (j1 : Int) := by omega
    have e2 : (j1 : Int) + 1 = (j2 : Int) := by omega
    have w0 : IntKind.i64.wrap ((2 * k : Nat) : Int) = ((2 * k : Nat) : Int) := by rw [IntKind.wrap_i64]; omega
    have w1 : IntKind.i64.wrap (j1 : Int) = (j1 : Int) := by rw [IntKind.wrap_i64]; omega
    have w2 : IntKind.i64.wrap (j2 : Int) = (j2 : Int) := by rw [IntKind.wrap_i64]; omega
    obtain ⟨d, hd⟩ : ∃ d, d = 2 * k := ⟨_, rfl⟩
    rw [← hd] at e0 e1 w0
    have HJ : Hid (j1 = 2 * k + 1 ∧ j2 = 2 * k + 2) := ⟨hj1, hj2⟩
    clear hcl hd
    by_cases h1 : n ≤ j1
    · have c1 : (n : Int) ≤ (j1 : Int) := by omega
      have HE : Hid (dnH nlt f X n k = X) := by
        show _ = _
        cases f with
        | zero => rfl
        | succ f => unfold dnH; rw [if_pos (.inl (by omega))]
      have HF : Hid (Rdy B b (.slice (some ⟨g, 0, none⟩) N c) (dnH nlt N L n 0) wr ∧ Oth (RdS b (.slice (some ⟨g, 0, none⟩) N c)) w wr) := ⟨by rw [← hup, HE.out]; exact hR, hO⟩
      clear hL1 hS1 hL0 hX2 HE hup hR hO hX hkf hk HI H0 h1 hj1 hj2 HJ
      go_wp2
      go_ret
      exact ⟨⟨_, rfl⟩, HF.out⟩
    · have c1 : ¬ (n : Int) ≤ (j1 : Int) := by omega
      have c2 : ¬ (j1 : Int) < 0 := by omega
      have hjN : j1 < N := by have := HNn.out; omega
      by_cases h2 : j2 < n
      · have c3 : (j2 : Int) < (n : Int) := by omega
        have hj2N : j2 < N := by have := HNn.out; omega
        have HA : Hid (Calls Tryd.prog 114 #[.slice (some ⟨g, 0, none⟩) N c, .int .i64 (j2 : Int), .int .i64 (j1 : Int)] wr fun e w' => e = .returned (.bool (nlt (X.getD j2 default) (X.getD j1 default))) ∧ ∃ m2, w' = wr.drewN m2) := Less_any g N c j2 j1 _ _ wr (by have := HNn.out; omega) (by have := HNn.out; omega) (hX2.out.at (by have := HNn.out; omega)) (hX2.out.at (by have := HNn.out; omega))
        cases hr1 : nlt (X.getD j2 default) (X.getD j1 default) with
        | true =>
          have HKid : Hid (kidH nlt X n k = j2) := by
            show _ = _
            unfold kidH
            rw [← hj1, ← hj2, if_pos ⟨h2, hr1⟩]
          rw [hr1] at HA
          have HC : Hid (∀ m : Nat, Calls Tryd.prog 114 #[.slice (some ⟨g, 0, none⟩) N c, .int .i64 (j2 : Int), .int .i64 (k : Int)] (wr.drewN m) fun e w' => e = .returned (.bool (nlt (X.getD j2 default) (X.getD k default))) ∧ ∃ m2, w' = wr.drewN m2) := fun m => (Less_any g N c j2 k _ _ (wr.drewN m) (by omega) (by omega) ((hX2.out.drewN m).at (by omega)) ((hX2.out.drewN m).at (by omega))).mono fun e w' ⟨q1, m2, q2⟩ => ⟨q1, m + m2, by rw [q2, World.drewN_drewN]⟩
          cases hr2 : nlt (X.getD j2 default) (X.getD k default) with
          | false =>
            rw [hr2] at HC
            have HE : Hid (dnH nlt f X n k = X) := by
              show _ = _
              cases f with
              | zero => rfl
              | succ f => unfold dnH; rw [if_pos (.inr (by rw [HKid.out]; exact hr2))]
            have HF : Hid (∀ m, Rdy B b (.slice (some ⟨g, 0, none⟩) N c) (dnH nlt N L n 0) (wr.drewN m) ∧ Oth (RdS b (.slice (some ⟨g, 0, none⟩) N c)) w (wr.drewN m)) := fun m => ⟨by rw [← hup, HE.out]; exact hR.drewN m, hO.trans (Oth.drewN _ _ m)⟩
            clear hS1 hX2 HE hup hR hO hX hkf hk HI H0 h1 hj1 hj2 HJ HKid hr2
            go_wp2_with (first
              | (go_at_call 114; with_reducible refine HA.out.mono ?_; rintro e w1 ⟨rfl, m, rfl⟩)
              | (go_at_call 114; with_reducible refine (HC.out _).mono ?_; rintro e w2 ⟨rfl, m2, rfl⟩)
              | go_in)
            go_ret
            exact ⟨⟨_, rfl⟩, HF.out _⟩
          | true =>
            rw [hr2] at HC
            have HE : Hid (dnH nlt f X n k = dnH nlt (f - 1) (swp X k j2) n j2) := by
              show _ = _
              obtain ⟨f2, rfl⟩ : ∃ f2, f = f2 + 1 := ⟨f - 1, by have := HNn.out; omega⟩
              rw [show f2 + 1 - 1 = f2 by omega]
              conv => lhs; unfold dnH
              rw [HKid.out, if_neg (by rw [hr2]; intro h; rcases h with h | h; omega; cases h)]
            have HSw : Hid (∀ m, Calls Tryd.prog 115 #[.slice (some ⟨g, 0, none⟩) N c, .int .i64 (k : Int), .int .i64 (j2 : Int)] (wr.drewN m) fun e w' => e = .returned (.tuple #[]) ∧ Hid (Rdy B b (.slice (some ⟨g, 0, none⟩) N c) (swp X k j2) w' ∧ Oth (RdS b (.slice (some ⟨g, 0, none⟩) N c)) w w')) := fun m => by
              have := Swap_any B b g c k j2 X (wr.drewN m) (hX2.out.drewN m) (by have := HNn.out; omega) (by have := HNn.out; omega)
              rw [hX] at this
              exact this.mono fun e w' ⟨q1, q2, q3⟩ => ⟨q1, q2, (hO.trans (Oth.drewN _ _ m)).trans q3⟩
            have HK : Hid (j2 ≤ N ∧ (swp X k j2).length = N ∧ N ≤ j2 + (f - 1) ∧ dnH nlt (f - 1) (swp X k j2) n j2 = dnH nlt N L n 0 ∧ k < j2) := ⟨by have := HNn.out; omega, by rw [swp_len]; exact hX, by have := HNn.out; omega, by rw [← HE.out]; exact hup, by omega⟩
            clear hX2 HE hup hR hO hX hkf hk HI H0 h1 hj1 hj2 HJ HKid hr2
            go_wp2_with (first
              | (go_at_call 114; with_reducible refine HA.out.mono ?_; rintro e w1 ⟨rfl, m, rfl⟩)
              | (go_at_call 114; with_reducible refine (HC.out _).mono ?_; rintro e w2 ⟨rfl, m2, rfl⟩)
              | (go_at_call 115; refine (HSw.out _).mono ?_; rintro e w3 ⟨rfl, H3⟩)
              | go_in)
            obtain ⟨k1, k2, k3, k4, k5⟩ := HK.out
            refine ⟨⟨j2, f - 1, swp X k j2, rfl, k1, k2, k3, k4, H3.out.1, H3.out.2⟩, ?_⟩
            simp [RowKit.intOf]
            omega
        | false =>
          have HKid : Hid (kidH nlt X n k = j1) := by
            show _ = _
            unfold kidH
            rw [← hj1, ← hj2, if_neg (fun h => by rw [hr1] at h; cases h.2)]
          rw [hr1] at HA
          have HC : Hid (∀ m : Nat, Calls Tryd.prog 114 #[.slice (some ⟨g, 0, none⟩) N c, .int .i64 (j1 : Int), .int .i64 (k : Int)] (wr.drewN m) fun e w' => e = .returned (.bool (nlt (X.getD j1 default) (X.getD k default))) ∧ ∃ m2, w' = wr.drewN m2) := fun m => (Less_any g N c j1 k _ _ (wr.drewN m) (by omega) (by omega) ((hX2.out.drewN m).at (by omega)) ((hX2.out.drewN m).at (by omega))).mono fun e w' ⟨q1, m2, q2⟩ => ⟨q1, m + m2, by rw [q2, World.drewN_drewN]⟩
          cases hr2 : nlt (X.getD j1 default) (X.getD k default) with
          | false =>
            rw [hr2] at HC
            have HE : Hid (dnH nlt f X n k = X) := by
              show _ = _
              cases f with
              | zero => rfl
              | succ f => unfold dnH; rw [if_pos (.inr (by rw [HKid.out]; exact hr2))]
            have HF : Hid (∀ m, Rdy B b (.slice (some ⟨g, 0, none⟩) N c) (dnH nlt N L n 0) (wr.drewN m) ∧ Oth (RdS b (.slice (some ⟨g, 0, none⟩) N c)) w (wr.drewN m)) := fun m => ⟨by rw [← hup, HE.out]; exact hR.drewN m, hO.trans (Oth.drewN _ _ m)⟩
            clear hS1 hX2 HE hup hR hO hX hkf hk HI H0 h1 hj1 hj2 HJ HKid hr2
            go_wp2_with (first
              | (go_at_call 114; with_reducible refine HA.out.mono ?_; rintro e w1 ⟨rfl, m, rfl⟩)
              | (go_at_call 114; with_reducible refine (HC.out _).mono ?_; rintro e w2 ⟨rfl, m2, rfl⟩)
              | go_in)
            go_ret
            exact ⟨⟨_, rfl⟩, HF.out _⟩
          | true =>
            rw [hr2] at HC
            have HE : Hid (dnH nlt f X n k = dnH nlt (f - 1) (swp X k j1) n j1) := by
              show _ = _
              obtain ⟨f2, rfl⟩ : ∃ f2, f = f2 + 1 := ⟨f - 1, by have := HNn.out; omega⟩
              rw [show f2 + 1 - 1 = f2 by omega]
              conv => lhs; unfold dnH
              rw [HKid.out, if_neg (by rw [hr2]; intro h; rcases h with h | h; omega; cases h)]
            have HSw : Hid (∀ m, Calls Tryd.prog 115 #[.slice (some ⟨g, 0, none⟩) N c, .int .i64 (k : Int), .int .i64 (j1 : Int)] (wr.drewN m) fun e w' => e = .returned (.tuple #[]) ∧ Hid (Rdy B b (.slice (some ⟨g, 0, none⟩) N c) (swp X k j1) w' ∧ Oth (RdS b (.slice (some ⟨g, 0, none⟩) N c)) w w')) := fun m => by
              have := Swap_any B b g c k j1 X (wr.drewN m) (hX2.out.drewN m) (by have := HNn.out; omega) (by have := HNn.out; omega)
              rw [hX] at this
              exact this.mono fun e w' ⟨q1, q2, q3⟩ => ⟨q1, q2, (hO.trans (Oth.drewN _ _ m)).trans q3⟩
            have HK : Hid (j1 ≤ N ∧ (swp X k j1).length = N ∧ N ≤ j1 + (f - 1) ∧ dnH nlt (f - 1) (swp X k j1) n j1 = dnH nlt N L n 0 ∧ k < j1) := ⟨by have := HNn.out; omega, by rw [swp_len]; exact hX, by have := HNn.out; omega, by rw [← HE.out]; exact hup, by omega⟩
            clear hX2 HE hup hR hO hX hkf hk HI H0 h1 hj1 hj2 HJ HKid hr2
            go_wp2_with (first
              | (go_at_call 114; with_reducible refine HA.out.mono ?_; rintro e w1 ⟨rfl, m, rfl⟩)
              | (go_at_call 114; with_reducible refine (HC.out _).mono ?_; rintro e w2 ⟨rfl, m2, rfl⟩)
              | (go_at_call 115; refine (HSw.out _).mono ?_; rintro e w3 ⟨rfl, H3⟩)
              | go_in)
            obtain ⟨k1, k2, k3, k4, k5⟩ := HK.out
            refine ⟨⟨j1, f - 1, swp X k j1, rfl, k1, k2, k3, k4, H3.out.1, H3.out.2⟩, ?_⟩
            simp [RowKit.intOf]
            omega
      · have c3 : ¬ (j2 : Int) < (n : Int) := by omega
        have HKid : Hid (kidH nlt X n k = j1) := by
          show _ = _
          unfold kidH
          rw [← hj1, ← hj2, if_neg (fun h => h2 h.1)]
        have HC : Hid (Calls Tryd.prog 114 #[.slice (some ⟨g, 0, none⟩) N c, .int .i64 (j1 : Int), .int .i64 (k : Int)] wr fun e w' => e = .returned (.bool (nlt (X.getD j1 default) (X.getD k default))) ∧ ∃ m2, w' = wr.drewN m2) := Less_any g N c j1 k _ _ wr (by omega) (by omega) (hX2.out.at (by omega)) (hX2.out.at (by omega))
        cases hr2 : nlt (X.getD j1 default) (X.getD k default) with
        | false =>
          rw [hr2] at HC
          have HE : Hid (dnH nlt f X n k = X) := by
            show _ = _
            cases f with
            | zero => rfl
            | succ f => unfold dnH; rw [if_pos (.inr (by rw [HKid.out]; exact hr2))]
          have HF : Hid (∀ m, Rdy B b (.slice (some ⟨g, 0, none⟩) N c) (dnH nlt N L n 0) (wr.drewN m) ∧ Oth (RdS b (.slice (some ⟨g, 0, none⟩) N c)) w (wr.drewN m)) := fun m => ⟨by rw [← hup, HE.out]; exact hR.drewN m, hO.trans (Oth.drewN _ _ m)⟩
          clear hS1 hX2 HE hup hR hO hX hkf hk HI H0 h1 hj1 hj2 HJ HKid hr2
          go_wp2_with (first
            | (go_at_call 114; with_reducible refine HC.out.mono ?_; rintro e w2 ⟨rfl, m2, rfl⟩)
            | go_in)
          go_ret
          exact ⟨⟨_, rfl⟩, HF.out _⟩
        | true =>
          rw [hr2] at HC
          have HE : Hid (dnH nlt f X n k = dnH nlt (f - 1) (swp X k j1) n j1) := by
            show _ = _
            obtain ⟨f2, rfl⟩ : ∃ f2, f = f2 + 1 := ⟨f - 1, by have := HNn.out; omega⟩
            rw [show f2 + 1 - 1 = f2 by omega]
            conv => lhs; unfold dnH
            rw [HKid.out, if_neg (by rw [hr2]; intro h; rcases h with h | h; omega; cases h)]
          have HSw : Hid (∀ m, Calls Tryd.prog 115 #[.slice (some ⟨g, 0, none⟩) N c, .int .i64 (k : Int), .int .i64 (j1 : Int)] (wr.drewN m) fun e w' => e = .returned (.tuple #[]) ∧ Hid (Rdy B b (.slice (some ⟨g, 0, none⟩) N c) (swp X k j1) w' ∧ Oth (RdS b (.slice (some ⟨g, 0, none⟩) N c)) w w')) := fun m => by
            have := Swap_any B b g c k j1 X (wr.drewN m) (hX2.out.drewN m) (by have := HNn.out; omega) (by have := HNn.out; omega)
            rw [hX] at this
            exact this.mono fun e w' ⟨q1, q2, q3⟩ => ⟨q1, q2, (hO.trans (Oth.drewN _ _ m)).trans q3⟩
          have HK : Hid (j1 ≤ N ∧ (swp X k j1).length = N ∧ N ≤ j1 + (f - 1) ∧ dnH nlt (f - 1) (swp X k j1) n j1 = dnH nlt N L n 0 ∧ k < j1) := ⟨by have := HNn.out; omega, by rw [swp_len]; exact hX, by have := HNn.out; omega, by rw [← HE.out]; exact hup, by omega⟩
          clear hX2 HE hup hR hO hX hkf hk HI H0 h1 hj1 hj2 HJ HKid hr2
          go_wp2_with (first
            | (go_at_call 114; with_reducible refine HC.out.mono ?_; rintro e w2 ⟨rfl, m2, rfl⟩)
            | (go_at_call 115; refine (HSw.out _).mono ?_; rintro e w3 ⟨rfl, H3⟩)
            | go_in)
          obtain ⟨k1, k2, k3, k4, k5⟩ := HK.out
          refine ⟨⟨j1, f - 1, swp X k j1, rfl, k1, k2, k3, k4, H3.out.1, H3.out.2⟩, ?_⟩
          simp [RowKit.intOf]
          omega
end Go.Proofs.YtoccfkinnopnjaaDoor

/- The library's heap at names: one comes, the least goes. -/
namespace Go.Proofs.YtoccfkinnopnjaaDoor
open Go.RowKit Go.Shelf

/-- A heap of names in memory: these names, in whatever order. -/
structure HpAt (B b : Nat) (v : Value) (L : List ByteArray) (w : World) : Prop where
  rd : Rdy B b v L w
  hp : Hp nlt L L.length
/-- The row is the one that it was, or a new one. -/
def NewB (v v2 : Value) (w : World) : Prop := ∀ g, v2.ownBlock = some g → v.ownBlock = some g ∨ w.heap.size ≤ g
theorem NewB.refl (v : Value) (w : World) : NewB v v w := fun _ h => .inl h
theorem oth_two {b : Nat} {v v2 : Value} {w w1 w2 : World} (h1 : Oth (RdS b v) w w1) (h2 : Oth (RdS b v2) w1 w2) (hn : NewB v v2 w) : Oth (RdS b v) w w2 :=
  ⟨h2.os.trans h1.os, h2.tape.trans h1.tape, h2.output.trans h1.output, Nat.le_trans h1.size h2.size, fun g hg hS => (h2.block g (Nat.lt_of_lt_of_le hg h1.size) (fun h => by
    rcases h with h | h
    · exact hS (.inl h)
    · rcases hn g h with h | h
      · exact hS (.inr h)
      · omega)).trans (h1.block g hg hS)⟩

set_option maxHeartbeats 4000000 in
set_option maxRecDepth 100000 in
theorem HPush_any (B b : Nat) (v : Value) (L : List ByteArray) (x : ByteArray) (w : World) (h : HpAt B b v L w) (hB : B ≤ w.heap.size) (hl : L.length ≤ 100000) :
    Calls Tryd.prog 28 #[rdy b, .iface 9 (.string x)] w fun e w' => e = .returned (.tuple #[]) ∧ ∃ v2 L2, HpAt B b v2 L2 w' ∧ L2.Perm (x :: L) ∧ NewB v v2 w ∧ Oth (RdS b v) w w' := by
  have HP : Hid (Calls Tryd.prog 117 #[.pointer (some ⟨b, 0, none⟩), .iface 9 (.string x)] w fun e w' => e = .returned (.tuple #[]) ∧ ∃ g c, w'.cell? ⟨b, 0, none⟩ = some (.slice (some ⟨g, 0, none⟩) (L.length + 1) c) ∧ Hid (Rdy B b (.slice (some ⟨g, 0, none⟩) (L ++ [x]).length c) (L ++ [x]) w' ∧ (v.ownBlock = some g ∨ w.heap.size ≤ g) ∧ Oth (RdS b v) w w')) := (RPush_any B b v L x w h.rd hB (by omega)).mono fun e w' ⟨q1, g, c, q2, q3, q4⟩ => ⟨q1, g, c, by rw [q2.cell]; simp, q2, q3, q4⟩
  have HU : Hid (∀ (W : World) (g c : Nat), Hid (Rdy B b (.slice (some ⟨g, 0, none⟩) (L ++ [x]).length c) (L ++ [x]) W ∧ (v.ownBlock = some g ∨ w.heap.size ≤ g) ∧ Oth (RdS b v) w W) → Calls Tryd.prog 49 #[rdy b, .int .i64 (L.length : Int)] W fun e w' => e = .returned (.tuple #[]) ∧ ∃ v2 L2, HpAt B b v2 L2 w' ∧ L2.Perm (x :: L) ∧ NewB v v2 w ∧ Oth (RdS b v) w w') := fun W g c hW => by
    obtain ⟨q1, q2, q3⟩ := hW.out
    refine (up_any B b g c L.length (L ++ [x]) W q1 (by simp) (by simp; omega)).mono fun e w' ⟨r1, r2, r3⟩ => ⟨r1, ?_⟩
    have hlen : (upH nlt L.length (L ++ [x]) L.length).length = (L ++ [x]).length := upH_len nlt _ _ _
    have hnb : NewB v (.slice (some ⟨g, 0, none⟩) (L ++ [x]).length c) w := fun g2 hg2 => by
      have : g = g2 := by simpa [Value.ownBlock] using hg2
      subst this
      exact q2
    refine ⟨_, _, ⟨r2, ?_⟩, ?_, hnb, oth_two q3 r3 hnb⟩
    · rw [hlen, show (L ++ [x]).length = L.length + 1 by simp]
      exact push_hp nlt_wk L x h.hp
    · exact (upH_perm nlt _ _ _ (by simp)).trans (List.perm_append_comm)
  have hM := fun W => m_push (v := .pointer (some ⟨b, 0, none⟩)) (w := W)
  have hL1 := fun (W : World) (v : Value) (h : W.cell? ⟨b, 0, none⟩ = some v) => m_len h
  have k1 : ((L.length + 1 : Nat) : Int) - 1 = (L.length : Int) := by omega
  have k2 : IntKind.i64.wrap (L.length : Int) = (L.length : Int) := by rw [IntKind.wrap_i64]; omega
  obtain ⟨n1, hn1⟩ : ∃ n1, n1 = L.length + 1 := ⟨_, rfl⟩
  rw [← hn1] at k1 HP
  clear h hB hl hn1
  go_enter Tryd.func28, Tryd.ntmps28
  go_wp2_with (first
    | (go_at_call 117; refine HP.out.mono ?_; rintro e w1 ⟨rfl, g, c, hc1, H1⟩; have hl1 := hL1 _ _ hc1)
    | (go_at_call 49; refine (HU.out _ _ _ H1).mono ?_; rintro e w2 ⟨rfl, H2⟩)
    | go_in)
  go_end0
  exact ⟨rfl, H2⟩

theorem pop_last (L : List ByteArray) (h0 : 0 < L.length) : (dnH nlt L.length (swp L 0 (L.length - 1)) (L.length - 1) 0).getD (L.length - 1) default = L.getD 0 default := by
  have hs : (swp L 0 (L.length - 1)).length = L.length := swp_len _ _ _
  rw [dnH_keep nlt _ _ _ _ _ (by omega) (Nat.le_refl _), swp_get L (by omega) (by omega), if_pos rfl]

set_option maxHeartbeats 4000000 in
set_option maxRecDepth 100000 in
theorem HPop_any (B b : Nat) (v : Value) (L : List ByteArray) (w : World) (h : HpAt B b v L w) (h0 : 0 < L.length) (hl : L.length ≤ 100000) :
    Calls Tryd.prog 30 #[rdy b] w fun e w' => e = .returned (.iface 9 (.string (L.getD 0 default))) ∧ ∃ v2, HpAt B b v2 (popH nlt L) w' ∧ NewB v v2 w ∧ Oth (RdS b v) w w' := by
  obtain ⟨g, c, rfl, _, _, _⟩ := h.rd.form h0
  obtain ⟨n, hn⟩ : ∃ n, n = L.length - 1 := ⟨_, rfl⟩
  obtain ⟨N, hN⟩ : ∃ N, N = L.length := ⟨_, rfl⟩
  obtain ⟨X, hX⟩ : ∃ X, X = swp L 0 n := ⟨_, rfl⟩
  have hXl : X.length = N := by rw [hX, swp_len, hN]
  obtain ⟨D, hD⟩ : ∃ D, D = dnH nlt N X n 0 := ⟨_, rfl⟩
  have hDl : D.length = N := by rw [hD, dnH_len, hXl]
  have hpop : D.take n = popH nlt L := by unfold popH; rw [hD, hX, hn, hN]
  have hlast : D.getD n default = L.getD 0 default := by rw [hD, hX, hN, hn]; exact pop_last L h0
  have hrd := h.rd
  rw [← hN] at hrd
  have HSw : Hid (Calls Tryd.prog 115 #[.slice (some ⟨g, 0, none⟩) N c, .int .i64 0, .int .i64 (n : Int)] w fun e w' => e = .returned (.tuple #[]) ∧ Hid (Rdy B b (.slice (some ⟨g, 0, none⟩) N c) X w' ∧ Oth (RdS b (.slice (some ⟨g, 0, none⟩) N c)) w w')) := by
    have := Swap_any B b g c 0 n L w h.rd h0 (by omega)
    rw [← hN, ← hX] at this
    exact this
  have HDn : Hid (∀ W, Hid (Rdy B b (.slice (some ⟨g, 0, none⟩) N c) X W ∧ Oth (RdS b (.slice (some ⟨g, 0, none⟩) N c)) w W) → Calls Tryd.prog 50 #[rdy b, .int .i64 0, .int .i64 (n : Int)] W fun e w' => (∃ r : Bool, e = .returned (.bool r)) ∧ Hid (Rdy B b (.slice (some ⟨g, 0, none⟩) N c) D w' ∧ Oth (RdS b (.slice (some ⟨g, 0, none⟩) N c)) w w')) := fun W hW => by
    have := down_any B b g c n X W (by rw [hXl]; exact hW.out.1) (by omega) (by omega)
    rw [hXl, ← hD] at this
    exact this.mono fun e w' ⟨q1, q2, q3⟩ => ⟨q1, q2, hW.out.2.trans q3⟩
  have HPo : Hid (∀ W, Hid (Rdy B b (.slice (some ⟨g, 0, none⟩) N c) D W ∧ Oth (RdS b (.slice (some ⟨g, 0, none⟩) N c)) w W) → Calls Tryd.prog 116 #[.pointer (some ⟨b, 0, none⟩)] W fun e w' => e = .returned (.iface 9 (.string (L.getD 0 default))) ∧ ∃ v2, HpAt B b v2 (popH nlt L) w' ∧ NewB (.slice (some ⟨g, 0, none⟩) N c) v2 w ∧ Oth (RdS b (.slice (some ⟨g, 0, none⟩) N c)) w w') := fun W hW => by
    have := RPop_any B b g c D W (by rw [hDl]; exact hW.out.1) (by omega) (by omega)
    rw [hDl, show N - 1 = n by omega, hlast, hpop] at this
    refine this.mono fun e w' ⟨q1, q2, q3⟩ => ⟨q1, _, ⟨q2, ?_⟩, fun g2 hg2 => .inl (by simpa [Value.ownBlock] using hg2), hW.out.2.trans q3⟩
    have hlp : (popH nlt L).length = L.length - 1 := by rw [← hpop, List.length_take]; omega
    rw [hlp]
    exact pop_hp nlt_wk L h.hp
  have hM := fun W => m_pop (v := .pointer (some ⟨b, 0, none⟩)) (w := W)
  have hc := hrd.cell
  have hL1 := m_len hc
  have hS1 := m_swap hc
  have k1 : (N : Int) - 1 = (n : Int) := by omega
  have k2 : IntKind.i64.wrap (n : Int) = (n : Int) := by rw [IntKind.wrap_i64]; omega
  rw [← hN]
  clear h h0 hl hn hN hX hXl hD hDl hpop hlast hrd
  go_enter Tryd.func30, Tryd.ntmps30
  go_wp2_with (first
    | (go_at_call 115; refine HSw.out.mono ?_; rintro e w1 ⟨rfl, H1⟩)
    | (go_at_call 50; refine (HDn.out _ H1).mono ?_; rintro e w2 ⟨⟨r, rfl⟩, H2⟩)
    | (go_at_call 116; refine (HPo.out _ H2).mono ?_; rintro e w3 ⟨rfl, H3⟩)
    | go_in)
  go_ret
  exact ⟨rfl, H3⟩
end Go.Proofs.YtoccfkinnopnjaaDoor

/- Targets: their names and what they need, plain and in memory. -/
namespace Go.Proofs.YtoccfkinnopnjaaDoor
open Go.RowKit Go.Shelf Go.Maps

/-- A target: its name; its lists as they lie; and what stands in them. -/
structure Tg where
  nm : ByteArray
  vs : Value
  vn : Value
  vo : Value
  vc : Value
  ss : List ByteArray
  ns : List ByteArray
  os : List ByteArray
  cs : List ByteArray
def tnm (t : Tg) : List UInt8 := t.nm.data.toList
/-- How a list of texts reads in a map: by where it lies. -/
def slE (v : Value) : Option (DataW Unit × List MemPlace) := match v with
  | .slice none n c => some (.agg [.lit (.int .i64 (n : Int)), .lit (.int .i64 (c : Int))], [])
  | .slice (some ⟨g, o, none⟩) n c => some (.agg [.lit (.int .i64 (g : Int)), .lit (.int .i64 (o : Int)), .lit (.int .i64 (n : Int)), .lit (.int .i64 (c : Int))], [])
  | .slice (some ⟨g, o, some s⟩) n c => some (.agg [.lit (.int .i64 (g : Int)), .lit (.int .i64 (o : Int)), .lit (.int .i64 (s : Int)), .lit (.int .i64 (n : Int)), .lit (.int .i64 (c : Int))], [])
  | _ => none
def slD (v : Value) : DataW Unit := ((slE v).map (·.1)).getD .nil
/-- A list of texts, as it lies. -/
def IsSl (v : Value) : Prop := ∃ ao n c, v = .slice ao n c
theorem slE_is {v : Value} (h : IsSl v) : slE v = some (slD v, []) := by
  obtain ⟨ao, n, c, rfl⟩ := h
  match ao with
  | none => rfl
  | some ⟨g, o, none⟩ => rfl
  | some ⟨g, o, some s⟩ => rfl
theorem slE_sl {v : Value} {d : DataW Unit} {p : List MemPlace} (h : slE v = some (d, p)) : IsSl v := by
  unfold slE at h
  split at h
  · exact ⟨_, _, _, rfl⟩
  · exact ⟨_, _, _, rfl⟩
  · exact ⟨_, _, _, rfl⟩
  · cases h
theorem slE_inj {u v : Value} {d : DataW Unit} {p q : List MemPlace} (h : slE u = some (d, p)) (k : slE v = some (d, q)) : u = v := by
  obtain ⟨ao, n, c, rfl⟩ := slE_sl h
  obtain ⟨ao2, n2, c2, rfl⟩ := slE_sl k
  match ao, ao2 with
  | none, none =>
    simp [slE] at h k
    obtain ⟨h, _⟩ := h
    obtain ⟨k, _⟩ := k
    rw [← h] at k
    simp at k
    rw [show n2 = n by omega, show c2 = c by omega]
  | some ⟨g, o, none⟩, some ⟨g2, o2, none⟩ =>
    simp [slE] at h k
    obtain ⟨h, _⟩ := h
    obtain ⟨k, _⟩ := k
    rw [← h] at k
    simp at k
    rw [show g2 = g by omega, show o2 = o by omega, show n2 = n by omega, show c2 = c by omega]
  | some ⟨g, o, some s⟩, some ⟨g2, o2, some s2⟩ =>
    simp [slE] at h k
    obtain ⟨h, _⟩ := h
    obtain ⟨k, _⟩ := k
    rw [← h] at k
    simp at k
    rw [show g2 = g by omega, show o2 = o by omega, show s2 = s by omega, show n2 = n by omega, show c2 = c by omega]
  | none, some ⟨g2, o2, none⟩ | none, some ⟨g2, o2, some s2⟩ | some ⟨g, o, none⟩, none | some ⟨g, o, none⟩, some ⟨g2, o2, some s2⟩ | some ⟨g, o, some s⟩, none | some ⟨g, o, some s⟩, some ⟨g2, o2, none⟩ =>
    exfalso
    simp [slE] at h k
    have e := h.1.trans k.1.symm
    simp at e
def tD (t : Tg) : DataW Unit := slD t.vn
/-- What each name needs: its list, by names; the last one of a name stands. -/
def ndD (L : List Tg) : DataW Unit := L.foldl (fun D f => D.put (.string (tnm f)) (tD f)) (.map [])
theorem ndD_snoc (L : List Tg) (f : Tg) : ndD (L ++ [f]) = (ndD L).put (.string (tnm f)) (tD f) := by simp [ndD, List.foldl_append]
theorem ndD_tidy (L : List Tg) : Tidy (ndD L) := by
  refine snocInd (P := fun L => Tidy (ndD L)) tidy_empty (fun l a ih => ?_) L
  rw [ndD_snoc]
  exact ih.put (by exact trivial) _
theorem has_ndD (L : List Tg) (k : List UInt8) : Maps.has (ndD L) (.string k) = L.any (fun f => decide (tnm f = k)) := by
  refine snocInd (P := fun L => Maps.has (ndD L) (.string k) = L.any (fun f => decide (tnm f = k))) rfl (fun l a ih => ?_) L
  rw [ndD_snoc, List.any_append, ← ih]
  by_cases h : tnm a = k
  · subst h
    rw [has_put_same (ndD_tidy l).isMap (by exact trivial)]
    simp
  · rw [has_put_other (fun e => h (by injection e with e; exact e.symm))]
    simp [h]
theorem size_ndD (L : List Tg) : Maps.size (ndD L) ≤ L.length ∧ (Maps.size (ndD L) = L.length ↔ (L.map tnm).Nodup) := by
  refine snocInd (P := fun L => Maps.size (ndD L) ≤ L.length ∧ (Maps.size (ndD L) = L.length ↔ (L.map tnm).Nodup)) ⟨Nat.le_refl _, by simp [ndD, Maps.size]⟩ (fun l a ih => ?_) L
  rw [ndD_snoc, size_put (ndD_tidy l), has_ndD, List.length_append, List.map_append]
  obtain ⟨h1, h2⟩ := ih
  have e1 : [a].length = 1 := rfl
  rw [e1]
  by_cases h : l.any (fun f => decide (tnm f = tnm a)) = true
  · rw [if_pos h]
    refine ⟨by omega, ⟨fun e => by omega, fun e => ?_⟩⟩
    exfalso
    obtain ⟨f, hf, he⟩ := List.any_eq_true.1 h
    rw [List.nodup_append] at e
    exact e.2.2 (tnm f) (List.mem_map.2 ⟨f, hf, rfl⟩) (tnm a) (by simp) (by simpa using he)
  · rw [if_neg h]
    refine ⟨by omega, ⟨fun e => ?_, fun e => ?_⟩⟩
    · rw [List.nodup_append]
      refine ⟨h2.1 (by omega), by simp, fun x hx y hy e => ?_⟩
      obtain ⟨f, hf, rfl⟩ := List.mem_map.1 hx
      have hy' : y = tnm a := by simpa using hy
      exact h (List.any_eq_true.2 ⟨f, hf, by rw [e, hy']; simp⟩)
    · have := h2.2 (List.nodup_append.1 e).1
      omega
theorem at_ndD {L : List Tg} (hn : (L.map tnm).Nodup) {f : Tg} (hf : f ∈ L) (z : DataW Unit) : (ndD L).atKey (.string (tnm f)) z = tD f := by
  refine snocInd (P := fun L => (L.map tnm).Nodup → f ∈ L → (ndD L).atKey (.string (tnm f)) z = tD f) (fun _ h => by cases h) (fun l a ih => ?_) L hn hf
  intro hn hf
  rw [ndD_snoc]
  rw [List.map_append, List.nodup_append] at hn
  rcases List.mem_append.1 hf with h | h
  · have hne : tnm f ≠ tnm a := hn.2.2 _ (List.mem_map.2 ⟨f, h, rfl⟩) _ (by simp)
    rw [atKey_put_other (fun e => hne (by injection e))]
    exact ih hn.1 h
  · have e : f = a := by simpa using h
    subst e
    exact atKey_put_same (ndD_tidy l).isMap (by exact trivial) _ _
theorem atNo_ndD {L : List Tg} {k : List UInt8} (h : ∀ f ∈ L, tnm f ≠ k) (z : DataW Unit) : (ndD L).atKey (.string k) z = z := by
  refine atKey_of_not_has ?_ z
  rw [has_ndD, List.any_eq_false]
  intro f hf
  simpa using h f hf

def tgC (t : Tg) : List Value := [.string t.nm, t.vs, t.vn, t.vo, t.vc]
/-- Targets lie in a block from a place on. -/
def TgAt (g o : Nat) (L : List Tg) (w : World) : Prop := ∀ j (hj : j < L.length), w.cell? ⟨g, o + j * 5, none⟩ = some (.string L[j].nm) ∧ w.cell? ⟨g, o + j * 5 + 1, none⟩ = some L[j].vs ∧ w.cell? ⟨g, o + j * 5 + 2, none⟩ = some L[j].vn ∧ w.cell? ⟨g, o + j * 5 + 3, none⟩ = some L[j].vo ∧ w.cell? ⟨g, o + j * 5 + 4, none⟩ = some L[j].vc
theorem TgAt.below {B g o : Nat} {L : List Tg} {w w' : World} (h : TgAt g o L w) (hb : Below B w w') (hg : g < B) : TgAt g o L w' := fun j hj => by
  obtain ⟨h0, h1, h2, h3, h4⟩ := h j hj
  exact ⟨(hb.cell (p := ⟨g, _, none⟩) hg).trans h0, (hb.cell (p := ⟨g, _, none⟩) hg).trans h1, (hb.cell (p := ⟨g, _, none⟩) hg).trans h2, (hb.cell (p := ⟨g, _, none⟩) hg).trans h3, (hb.cell (p := ⟨g, _, none⟩) hg).trans h4⟩
/-- Texts, and whose block is there. -/
def TxIn (w : World) (v : Value) (ss : List ByteArray) : Prop := IsSl v ∧ ss.length ≤ 1048576 ∧ ∃ ao c, v = .slice ao ss.length c ∧ (ss = [] ∨ ∃ g o, ao = some ⟨g, o, none⟩ ∧ g < w.heap.size ∧ ∀ j (hj : j < ss.length), w.cell? ⟨g, o + j, none⟩ = some (.string ss[j]))
theorem TxIn.below {B : Nat} {w w' : World} {v : Value} {ss : List ByteArray} (h : TxIn w v ss) (hb : Below B w w') (hB : w.heap.size ≤ B) : TxIn w' v ss := by
  obtain ⟨h1, h2, ao, c, h3, h4⟩ := h
  refine ⟨h1, h2, ao, c, h3, ?_⟩
  rcases h4 with h4 | ⟨g, o, e, hg, hc⟩
  · exact .inl h4
  · exact .inr ⟨g, o, e, Nat.lt_of_lt_of_le hg hb.size, fun j hj => (hb.cell (p := ⟨g, o + j, none⟩) (by show g < B; omega)).trans (hc j hj)⟩
/-- A slice that begins at ao has the targets L, whose lists are there. -/
structure IsTg (w : World) (ao : Option Addr) (L : List Tg) : Prop where
  at_ : L = [] ∨ ∃ g o, ao = some ⟨g, o, none⟩ ∧ g < w.heap.size ∧ TgAt g o L w
  tx : ∀ t ∈ L, TxIn w t.vs t.ss ∧ TxIn w t.vn t.ns ∧ TxIn w t.vo t.os ∧ TxIn w t.vc t.cs
  sz : ∀ t ∈ L, t.nm.size ≤ 1048576
theorem IsTg.below {B : Nat} {w w' : World} {ao : Option Addr} {L : List Tg} (h : IsTg w ao L) (hb : Below B w w') (hB : w.heap.size ≤ B) : IsTg w' ao L := by
  refine ⟨?_, fun t ht => ?_, h.sz⟩
  · rcases h.at_ with h | ⟨g, o, e, hg, hc⟩
    · exact .inl h
    · exact .inr ⟨g, o, e, Nat.lt_of_lt_of_le hg hb.size, hc.below hb (by omega)⟩
  · obtain ⟨h1, h2, h3, h4⟩ := h.tx t ht
    exact ⟨h1.below hb hB, h2.below hb hB, h3.below hb hB, h4.below hb hB⟩
end Go.Proofs.YtoccfkinnopnjaaDoor

/- IndexFunc, ContainsFunc at texts and at targets, by functions that only look. -/
namespace Go.Proofs.YtoccfkinnopnjaaDoor
open Go.RowKit Go.Shelf Go.Maps

set_option maxHeartbeats 4000000 in
set_option maxRecDepth 100000 in
theorem idxSb (v : Value) (L : List ByteArray) (N : Nat) (x0 : Value) (p : ByteArray → Bool) (w : World) (hn : L.length ≤ 1048576) (hl : TxIn w v L) (eg : ∀ args w, (callFunc N args).run Tryd.prog w = .ok (.enter N args) w)
    (hc : ∀ x ∈ L, ∀ W, Below w.heap.size w W → Calls Tryd.prog N #[x0, .string x] W fun e w' => e = .returned (.bool (p x)) ∧ Below W.heap.size W w') :
    Calls Tryd.prog 46 #[v, .func (.func N) #[x0] #[]] w fun e w' => ∃ r : Int, e = .returned (.int .i64 r) ∧ decide (0 ≤ r) = L.any p ∧ Below w.heap.size w w' := by
  obtain ⟨_, _, ao, cap, rfl, hmem⟩ := hl
  have HL : Hid (L = [] ∨ ∃ g o, ao = some ⟨g, o, none⟩ ∧ g < w.heap.size ∧ ∀ j (hj : j < L.length), w.cell? ⟨g, o + j, none⟩ = some (.string L[j])) := hmem
  clear hmem
  have HCa : Hid (∀ x ∈ L, ∀ W, Below w.heap.size w W → Calls Tryd.prog N #[x0, .string x] W fun e w' => e = .returned (.bool (p x)) ∧ Below W.heap.size W w') := hc
  have hn1 : (L.length : Int) ≤ 1048576 := by omega
  clear hc
  go_enter Tryd.func46, Tryd.ntmps46
  go_wp2
  go_loopw [8] (fun i wr => ∃ k : Nat, k ≤ L.length ∧ i = .int .i64 (k : Int) ∧ Hid (∀ j, (hj : j < L.length) → j < k → p L[j] = false) ∧ Hid (Below w.heap.size w wr)) (fun i _ => L.length - (intOf i).toNat)
  case atStart =>
    refine ⟨0, Nat.zero_le _, rfl, ?_, Below.refl _ _⟩
    exact (fun j hj h => absurd h (Nat.not_lt_zero _) : ∀ j, (hj : j < L.length) → j < 0 → p L[j] = false)
  case round =>
    obtain ⟨k, hk, rfl, HN, HB⟩ := hrel
    have hb := HB.out
    by_cases hlt : k < L.length
    · have hki : (k : Int) < (L.length : Int) := by omega
      rcases HL.out with h | ⟨g, o, rfl, hg, hcc⟩
      · exfalso; rw [h] at hlt; exact absurd hlt (by simp)
      have c0 : wr.cell? ⟨g, o + k, none⟩ = some (.string L[k]) := (hb.cell (p := ⟨g, o + k, none⟩) hg).trans (hcc k hlt)
      have HC := HCa.out _ (List.getElem_mem hlt) wr hb
      have HP : p L[k] = true → L.any p = true := fun h => List.any_eq_true.2 ⟨L[k], List.getElem_mem hlt, h⟩
      have HN2 : p L[k] = false → ∀ j, (hj : j < L.length) → j < k + 1 → p L[j] = false := fun h j hj hjk => by
        rcases (show j < k ∨ j = k by omega) with e | e
        · exact HN.out j hj e
        · subst e; exact h
      generalize hx : L[k] = x at c0 HC HP HN2
      have HC2 : Hid (Calls Tryd.prog N #[x0, .string x] wr fun e w' => e = .returned (.bool (p x)) ∧ Below wr.heap.size wr w') := HC
      clear hcc hx HC
      cases hpx : p x with
      | true =>
        have HT : Hid (L.any p = true) := HP hpx
        rw [hpx] at HC2
        clear HP HN2 hb hpx
        go_wp2_with (first | (go_at_fn N; refine HC2.out.mono ?_; rintro e w1 ⟨rfl, hb1⟩) | go_in)
        go_ret
        refine ⟨k, rfl, ?_, HB.out.trans (hb1.mono HB.out.size)⟩
        rw [HT.out]
        simp
      | false =>
        have HT : Hid (∀ j, (hj : j < L.length) → j < k + 1 → p L[j] = false) := HN2 hpx
        rw [hpx] at HC2
        clear HP HN2 hb hpx
        go_wp2_with (first | (go_at_fn N; refine HC2.out.mono ?_; rintro e w1 ⟨rfl, hb1⟩) | go_in)
        exact ⟨⟨k + 1, by omega, by go_num, HT, HB.out.trans (hb1.mono HB.out.size)⟩, by simp [intOf]; omega⟩
    · obtain rfl : k = L.length := by omega
      have HT : Hid (L.any p = false) := by
        show _ = _
        rw [List.any_eq_false]
        intro x hx
        obtain ⟨j, hj, rfl⟩ := List.mem_iff_getElem.1 hx
        rw [HN.out j hj hj]
        simp
      clear hb HCa
      go_wp2
      go_ret
      refine ⟨-1, rfl, ?_, HB.out⟩
      rw [HT.out]
      rfl

set_option maxHeartbeats 1000000 in
theorem conSb (v : Value) (L : List ByteArray) (N : Nat) (x0 : Value) (p : ByteArray → Bool) (w : World) (hn : L.length ≤ 1048576) (hl : TxIn w v L) (eg : ∀ args w, (callFunc N args).run Tryd.prog w = .ok (.enter N args) w)
    (hc : ∀ x ∈ L, ∀ W, Below w.heap.size w W → Calls Tryd.prog N #[x0, .string x] W fun e w' => e = .returned (.bool (p x)) ∧ Below W.heap.size W w') :
    Calls Tryd.prog 24 #[v, .func (.func N) #[x0] #[]] w fun e w' => e = .returned (.bool (L.any p)) ∧ Below w.heap.size w w' := by
  have HI : Hid (Calls Tryd.prog 46 #[v, .func (.func N) #[x0] #[]] w fun e w' => ∃ r : Int, e = .returned (.int .i64 r) ∧ decide (0 ≤ r) = L.any p ∧ Below w.heap.size w w') := idxSb v L N x0 p w hn hl eg hc
  clear hc hl eg hn
  go_enter Tryd.func24, Tryd.ntmps24
  go_wp2_with (first | (go_at_call 46; refine HI.out.mono ?_; rintro e w1 ⟨r, rfl, hr, hb1⟩; have HR : Hid (decide (0 ≤ r) = L.any p) := hr; clear hr) | go_in)
  go_ret
  exact ⟨by rw [← HR.out]; first | rfl | simp, hb1⟩

set_option maxHeartbeats 4000000 in
set_option maxRecDepth 100000 in
theorem idxTn (ao : Option Addr) (cap : Nat) (L : List Tg) (N : Nat) (p : Tg → Bool) (w : World) (hn : L.length ≤ 1048576) (hl : IsTg w ao L) (eg : ∀ args w, (callFunc N args).run Tryd.prog w = .ok (.enter N args) w)
    (hc : ∀ x ∈ L, ∀ W, Below w.heap.size w W → Calls Tryd.prog N #[.agg #[.string x.nm, x.vs, x.vn, x.vo, x.vc]] W fun e w' => e = .returned (.bool (p x)) ∧ Below W.heap.size W w') :
    Calls Tryd.prog 47 #[.slice ao L.length cap, .func (.func N) #[] #[]] w fun e w' => ∃ r : Int, e = .returned (.int .i64 r) ∧ decide (0 ≤ r) = L.any p ∧ Below w.heap.size w w' := by
  have HL : Hid (IsTg w ao L) := hl
  clear hl
  have HCa : Hid (∀ x ∈ L, ∀ W, Below w.heap.size w W → Calls Tryd.prog N #[.agg #[.string x.nm, x.vs, x.vn, x.vo, x.vc]] W fun e w' => e = .returned (.bool (p x)) ∧ Below W.heap.size W w') := hc
  have hn1 : (L.length : Int) ≤ 1048576 := by omega
  clear hc
  go_enter Tryd.func47, Tryd.ntmps47
  go_wp2
  go_loopw [8] (fun i wr => ∃ k : Nat, k ≤ L.length ∧ i = .int .i64 (k : Int) ∧ Hid (∀ j, (hj : j < L.length) → j < k → p L[j] = false) ∧ Hid (Below w.heap.size w wr)) (fun i _ => L.length - (intOf i).toNat)
  case atStart =>
    refine ⟨0, Nat.zero_le _, rfl, ?_, Below.refl _ _⟩
    exact (fun j hj h => absurd h (Nat.not_lt_zero _) : ∀ j, (hj : j < L.length) → j < 0 → p L[j] = false)
  case round =>
    obtain ⟨k, hk, rfl, HN, HB⟩ := hrel
    have hb := HB.out
    by_cases hlt : k < L.length
    · have hki : (k : Int) < (L.length : Int) := by omega
      rcases HL.out.at_ with h | ⟨g, o, rfl, hg, hcc⟩
      · exfalso; rw [h] at hlt; exact absurd hlt (by simp)
      obtain ⟨c0, c1, c2, c3, c4⟩ := (hcc.below hb hg) k hlt
      have HC := HCa.out _ (List.getElem_mem hlt) wr hb
      have HP : p L[k] = true → L.any p = true := fun h => List.any_eq_true.2 ⟨L[k], List.getElem_mem hlt, h⟩
      have HN2 : p L[k] = false → ∀ j, (hj : j < L.length) → j < k + 1 → p L[j] = false := fun h j hj hjk => by
        rcases (show j < k ∨ j = k by omega) with e | e
        · exact HN.out j hj e
        · subst e; exact h
      generalize hx : L[k] = x at c0 c1 c2 c3 c4 HC HP HN2
      have HC2 : Hid (Calls Tryd.prog N #[.agg #[.string x.nm, x.vs, x.vn, x.vo, x.vc]] wr fun e w' => e = .returned (.bool (p x)) ∧ Below wr.heap.size wr w') := HC
      clear hcc hx HC
      cases hpx : p x with
      | true =>
        have HT : Hid (L.any p = true) := HP hpx
        rw [hpx] at HC2
        clear HP HN2 hb hpx
        go_wp2_with (first | (go_at_fn N; refine HC2.out.mono ?_; rintro e w1 ⟨rfl, hb1⟩) | go_in)
        go_ret
        refine ⟨k, rfl, ?_, HB.out.trans (hb1.mono HB.out.size)⟩
        rw [HT.out]
        simp
      | false =>
        have HT : Hid (∀ j, (hj : j < L.length) → j < k + 1 → p L[j] = false) := HN2 hpx
        rw [hpx] at HC2
        clear HP HN2 hb hpx
        go_wp2_with (first | (go_at_fn N; refine HC2.out.mono ?_; rintro e w1 ⟨rfl, hb1⟩) | go_in)
        exact ⟨⟨k + 1, by omega, by go_num, HT, HB.out.trans (hb1.mono HB.out.size)⟩, by simp [intOf]; omega⟩
    · obtain rfl : k = L.length := by omega
      have HT : Hid (L.any p = false) := by
        show _ = _
        rw [List.any_eq_false]
        intro x hx
        obtain ⟨j, hj, rfl⟩ := List.mem_iff_getElem.1 hx
        rw [HN.out j hj hj]
        simp
      clear hb HCa
      go_wp2
      go_ret
      refine ⟨-1, rfl, ?_, HB.out⟩
      rw [HT.out]
      rfl

set_option maxHeartbeats 1000000 in
theorem conTn (ao : Option Addr) (cap : Nat) (L : List Tg) (N : Nat) (p : Tg → Bool) (w : World) (hn : L.length ≤ 1048576) (hl : IsTg w ao L) (eg : ∀ args w, (callFunc N args).run Tryd.prog w = .ok (.enter N args) w)
    (hc : ∀ x ∈ L, ∀ W, Below w.heap.size w W → Calls Tryd.prog N #[.agg #[.string x.nm, x.vs, x.vn, x.vo, x.vc]] W fun e w' => e = .returned (.bool (p x)) ∧ Below W.heap.size W w') :
    Calls Tryd.prog 26 #[.slice ao L.length cap, .func (.func N) #[] #[]] w fun e w' => e = .returned (.bool (L.any p)) ∧ Below w.heap.size w w' := by
  have HI : Hid (Calls Tryd.prog 47 #[.slice ao L.length cap, .func (.func N) #[] #[]] w fun e w' => ∃ r : Int, e = .returned (.int .i64 r) ∧ decide (0 ≤ r) = L.any p ∧ Below w.heap.size w w') := idxTn ao cap L N p w hn hl eg hc
  clear hc hl eg hn
  go_enter Tryd.func26, Tryd.ntmps26
  go_wp2_with (first | (go_at_call 47; refine HI.out.mono ?_; rintro e w1 ⟨r, rfl, hr, hb1⟩; have HR : Hid (decide (0 ≤ r) = L.any p) := hr; clear hr) | go_in)
  go_ret
  exact ⟨by rw [← HR.out]; first | rfl | simp, hb1⟩

set_option maxHeartbeats 4000000 in
set_option maxRecDepth 100000 in
theorem idxTc (ao : Option Addr) (cap : Nat) (L : List Tg) (N : Nat) (x0 : Value) (p : Tg → Bool) (w : World) (hn : L.length ≤ 1048576) (hl : IsTg w ao L) (eg : ∀ args w, (callFunc N args).run Tryd.prog w = .ok (.enter N args) w)
    (hc : ∀ x ∈ L, ∀ W, Below w.heap.size w W → Calls Tryd.prog N #[.agg #[.string x.nm, x.vs, x.vn, x.vo, x.vc], x0] W fun e w' => e = .returned (.bool (p x)) ∧ Below W.heap.size W w') :
    Calls Tryd.prog 47 #[.slice ao L.length cap, .func (.func N) #[] #[x0]] w fun e w' => ∃ r : Int, e = .returned (.int .i64 r) ∧ decide (0 ≤ r) = L.any p ∧ Below w.heap.size w w' := by
  have HL : Hid (IsTg w ao L) := hl
  clear hl
  have HCa : Hid (∀ x ∈ L, ∀ W, Below w.heap.size w W → Calls Tryd.prog N #[.agg #[.string x.nm, x.vs, x.vn, x.vo, x.vc], x0] W fun e w' => e = .returned (.bool (p x)) ∧ Below W.heap.size W w') := hc
  have hn1 : (L.length : Int) ≤ 1048576 := by omega
  clear hc
  go_enter Tryd.func47, Tryd.ntmps47
  go_wp2
  go_loopw [8] (fun i wr => ∃ k : Nat, k ≤ L.length ∧ i = .int .i64 (k : Int) ∧ Hid (∀ j, (hj : j < L.length) → j < k → p L[j] = false) ∧ Hid (Below w.heap.size w wr)) (fun i _ => L.length - (intOf i).toNat)
  case atStart =>
    refine ⟨0, Nat.zero_le _, rfl, ?_, Below.refl _ _⟩
    exact (fun j hj h => absurd h (Nat.not_lt_zero _) : ∀ j, (hj : j < L.length) → j < 0 → p L[j] = false)
  case round =>
    obtain ⟨k, hk, rfl, HN, HB⟩ := hrel
    have hb := HB.out
    by_cases hlt : k < L.length
    · have hki : (k : Int) < (L.length : Int) := by omega
      rcases HL.out.at_ with h | ⟨g, o, rfl, hg, hcc⟩
      · exfalso; rw [h] at hlt; exact absurd hlt (by simp)
      obtain ⟨c0, c1, c2, c3, c4⟩ := (hcc.below hb hg) k hlt
      have HC := HCa.out _ (List.getElem_mem hlt) wr hb
      have HP : p L[k] = true → L.any p = true := fun h => List.any_eq_true.2 ⟨L[k], List.getElem_mem hlt, h⟩
      have HN2 : p L[k] = false → ∀ j, (hj : j < L.length) → j < k + 1 → p L[j] = false := fun h j hj hjk => by
        rcases (show j < k ∨ j = k by omega) with e | e
        · exact HN.out j hj e
        · subst e; exact h
      generalize hx : L[k] = x at c0 c1 c2 c3 c4 HC HP HN2
      have HC2 : Hid (Calls Tryd.prog N #[.agg #[.string x.nm, x.vs, x.vn, x.vo, x.vc], x0] wr fun e w' => e = .returned (.bool (p x)) ∧ Below wr.heap.size wr w') := HC
      clear hcc hx HC
      cases hpx : p x with
      | true =>
        have HT : Hid (L.any p = true) := HP hpx
        rw [hpx] at HC2
        clear HP HN2 hb hpx
        go_wp2_with (first | (go_at_fn N; refine HC2.out.mono ?_; rintro e w1 ⟨rfl, hb1⟩) | go_in)
        go_ret
        refine ⟨k, rfl, ?_, HB.out.trans (hb1.mono HB.out.size)⟩
        rw [HT.out]
        simp
      | false =>
        have HT : Hid (∀ j, (hj : j < L.length) → j < k + 1 → p L[j] = false) := HN2 hpx
        rw [hpx] at HC2
        clear HP HN2 hb hpx
        go_wp2_with (first | (go_at_fn N; refine HC2.out.mono ?_; rintro e w1 ⟨rfl, hb1⟩) | go_in)
        exact ⟨⟨k + 1, by omega, by go_num, HT, HB.out.trans (hb1.mono HB.out.size)⟩, by simp [intOf]; omega⟩
    · obtain rfl : k = L.length := by omega
      have HT : Hid (L.any p = false) := by
        show _ = _
        rw [List.any_eq_false]
        intro x hx
        obtain ⟨j, hj, rfl⟩ := List.mem_iff_getElem.1 hx
        rw [HN.out j hj hj]
        simp
      clear hb HCa
      go_wp2
      go_ret
      refine ⟨-1, rfl, ?_, HB.out⟩
      rw [HT.out]
      rfl

set_option maxHeartbeats 1000000 in
theorem conTc (ao : Option Addr) (cap : Nat) (L : List Tg) (N : Nat) (x0 : Value) (p : Tg → Bool) (w : World) (hn : L.length ≤ 1048576) (hl : IsTg w ao L) (eg : ∀ args w, (callFunc N args).run Tryd.prog w = .ok (.enter N args) w)
    (hc : ∀ x ∈ L, ∀ W, Below w.heap.size w W → Calls Tryd.prog N #[.agg #[.string x.nm, x.vs, x.vn, x.vo, x.vc], x0] W fun e w' => e = .returned (.bool (p x)) ∧ Below W.heap.size W w') :
    Calls Tryd.prog 26 #[.slice ao L.length cap, .func (.func N) #[] #[x0]] w fun e w' => e = .returned (.bool (L.any p)) ∧ Below w.heap.size w w' := by
  have HI : Hid (Calls Tryd.prog 47 #[.slice ao L.length cap, .func (.func N) #[] #[x0]] w fun e w' => ∃ r : Int, e = .returned (.int .i64 r) ∧ decide (0 ≤ r) = L.any p ∧ Below w.heap.size w w') := idxTc ao cap L N x0 p w hn hl eg hc
  clear hc hl eg hn
  go_enter Tryd.func26, Tryd.ntmps26
  go_wp2_with (first | (go_at_call 47; refine HI.out.mono ?_; rintro e w1 ⟨r, rfl, hr, hb1⟩; have HR : Hid (decide (0 ≤ r) = L.any p) := hr; clear hr) | go_in)
  go_ret
  exact ⟨by rw [← HR.out]; first | rfl | simp, hb1⟩
end Go.Proofs.YtoccfkinnopnjaaDoor

/- What targets need: needsOf, needsWith. -/
namespace Go.Proofs.YtoccfkinnopnjaaDoor
open Go.RowKit Go.Shelf Go.Maps Go.WideMaps

theorem zeroSl (w : World) : (zeroValue 24).run Tryd.prog w = .ok (.slice none 0 0) w := by kernel_rfl
theorem omapG {H : Type} {w w' : World} {P : Program} {k : TypeId} {R : Value → Option (DataW H × List MemPlace)} {b n : Nat} {D : DataW H} (h : w.ownsMap P k R b n D) (hh : w'.heap[b]? = w.heap[b]?) : w'.ownsMap P k R b n D := by
  obtain ⟨es, clock, hb, rest⟩ := h
  exact ⟨es, clock, hh.trans hb, rest⟩
/-- A name looked for among links. -/
theorem lookL {w : World} {M n : Nat} {D : DataW Unit} (h : w.ownsMap Tryd.prog 9 slE M n D) (x : ByteArray) (hs : x.size ≤ maxLen) : ∃ v ps, (Instr.lookup 38 (.map (some M)) (.string x) true).run Tryd.prog w = .ok (.tuple #[v, .bool (Maps.has D (.string x.data.toList))]) w ∧ slE v = some (D.atKey (.string x.data.toList) (slD (.slice none 0 0)), ps) :=
  h.look_ok lawS Tryd.underlying38 (zeroSl w) (zd := slD (.slice none 0 0)) (zp := []) rfl (keyOf_string_mk Tryd.underlying9 hs)

set_option maxHeartbeats 2000000 in
theorem lacks_any (M n : Nat) (D : DataW Unit) (x : ByteArray) (w : World) (h : w.ownsMap Tryd.prog 9 slE M n D) (hs : x.size ≤ maxLen) :
    Calls Tryd.prog 25 #[.map (some M), .string x] w fun e w' => e = .returned (.bool (!Maps.has D (.string x.data.toList))) ∧ w' = w := by
  obtain ⟨v, ps, hr, _⟩ := lookL h x hs
  generalize Maps.has D (.string x.data.toList) = b at *
  clear h hs
  go_enter Tryd.func25, Tryd.ntmps25
  go_wp2
  go_ret
  exact ⟨by first | rfl | simp, rfl⟩

set_option maxHeartbeats 2000000 in
theorem isUnnamed_any (x : Tg) (w : World) (hs : x.nm.size ≤ maxLen) :
    Calls Tryd.prog 27 #[.agg #[.string x.nm, x.vs, x.vn, x.vo, x.vc]] w fun e w' => e = .returned (.bool (!nameOk x.nm)) ∧ Below w.heap.size w w' := by
  obtain ⟨nm, vs, vn, vo, vc, ss, ns, os, cs⟩ := x
  obtain ⟨V, hV⟩ : ∃ V, V = w.alloc (.cells #[.string nm, vs, vn, vo, vc] 30) := ⟨_, rfl⟩
  have HB : Hid (Below w.heap.size w V) := by show Below _ _ _; rw [hV]; exact (Below.refl _ w).alloc (Nat.le_refl _) _
  have HN : Hid (Calls Tryd.prog 48 #[.string nm] V fun e w' => e = .returned (.bool (nameOk nm)) ∧ Hid (Below V.heap.size V w')) := (IsName_any nm V hs).mono fun e w' q => ⟨q.1, by rw [q.2]; exact Below.refl _ _⟩
  simp only
  rw [hV] at HN
  clear hs
  generalize nameOk nm = b at *
  go_enter Tryd.func27, Tryd.ntmps27
  go_wp2_with (first | (go_at_call 48; refine HN.out.mono ?_; rintro e w1 ⟨rfl, H1⟩; rw [← hV] at H1) | go_in)
  go_ret
  exact ⟨by first | rfl | simp, HB.out.trans (H1.out.mono HB.out.size)⟩

/-- Is some name of a list not among the links? -/
def lckB (D : DataW Unit) (l : List ByteArray) : Bool := l.any fun y => !Maps.has D (.string y.data.toList)

set_option maxHeartbeats 2000000 in
theorem unmet_any (x : Tg) (bx M n : Nat) (D : DataW Unit) (w : World) (hbx : w.cell? ⟨bx, 0, none⟩ = some (.map (some M))) (hown : w.ownsMap Tryd.prog 9 slE M n D) (htx : TxIn w x.vn x.ns) (hs : ∀ y ∈ x.ns, y.size ≤ maxLen) :
    Calls Tryd.prog 23 #[.agg #[.string x.nm, x.vs, x.vn, x.vo, x.vc], .pointer (some ⟨bx, 0, none⟩)] w fun e w' => e = .returned (.bool (lckB D x.ns)) ∧ Below w.heap.size w w' := by
  obtain ⟨nm, vs, vn, vo, vc, ss, ns, os, cs⟩ := x
  simp only at htx hs ⊢
  obtain ⟨V, hV⟩ : ∃ V, V = w.alloc (.cells #[.string nm, vs, vn, vo, vc] 30) := ⟨_, rfl⟩
  have hb : Below w.heap.size w V := by rw [hV]; exact (Below.refl _ w).alloc (Nat.le_refl _) _
  have HB : Hid (Below w.heap.size w V) := hb
  have hbl : bx < w.heap.size := by simpa using World.block_lt_of_cell? w _ hbx
  have hcx : V.cell? ⟨bx, 0, none⟩ = some (.map (some M)) := (hb.cell (p := ⟨bx, 0, none⟩) hbl).trans hbx
  have hoV : V.ownsMap Tryd.prog 9 slE M n D := omapG hown (hb.block M hown.lt)
  have HC : Hid (Calls Tryd.prog 24 #[vn, .func (.func 25) #[.map (some M)] #[]] V fun e w' => e = .returned (.bool (lckB D ns)) ∧ Hid (Below V.heap.size V w')) :=
    conSb vn ns 25 (.map (some M)) (fun y => !Maps.has D (.string y.data.toList)) V htx.2.1 (htx.below hb (Nat.le_refl _)) (enters_of Tryd.func25 (by kernel_rfl) rfl) fun y hy W hW => (lacks_any M n D y W (omapG hoV (hW.block M hoV.lt)) (hs y hy)).mono fun e w' q => ⟨q.1, by rw [q.2]; exact Below.refl _ _⟩
  generalize lckB D ns = r at *
  rw [hV] at HC hcx
  clear hbx hown htx hs hb hbl hoV
  go_enter Tryd.func23, Tryd.ntmps23
  go_wp2_with (first | (go_at_call 24; refine HC.out.mono ?_; rintro e w1 ⟨rfl, H1⟩; rw [← hV] at H1) | go_in)
  go_ret
  exact ⟨by first | rfl | simp, HB.out.trans (H1.out.mono HB.out.size)⟩

/-- What is wrong with targets. -/
def ckN (L : List Tg) : Int := if 60 < L.length then 2 else if (L.any fun t => !nameOk t.nm) = true then 1 else if (L.map tnm).Nodup then (if (L.any fun t => lckB (ndD L) t.ns) = true then 5 else 0) else 6
/-- How needsOf ends. -/
def NdP (L : List Tg) (w : World) (e : Ending) (w' : World) : Prop := ∃ mo, e = .returned (.tuple #[.map mo, .int .i64 (ckN L)]) ∧ (ckN L ≠ 0 → mo = none) ∧ (ckN L = 0 → ∃ M n, mo = some M ∧ w.heap.size ≤ M ∧ n ≤ 60 ∧ w'.ownsMap Tryd.prog 9 slE M n (ndD L)) ∧ Below w.heap.size w w'

set_option maxHeartbeats 4000000 in
set_option maxRecDepth 100000 in
theorem needsOf_any (ao : Option Addr) (cap : Nat) (L : List Tg) (w : World) (hl : IsTg w ao L) (hn : L.length ≤ 1048576) (hs : ∀ t ∈ L, ∀ y ∈ t.ns, y.size ≤ maxLen) :
    Calls Tryd.prog 11 #[.slice ao L.length cap] w (NdP L w) := by
  have hn0 : (L.length : Int) ≤ 1048576 := by omega
  by_cases h60 : 60 < L.length
  · have hk : (60 : Int) < (L.length : Int) := by omega
    have hc : ckN L = 2 := by unfold ckN; rw [if_pos h60]
    have HZ : Hid (NdP L w (.returned (.tuple #[.map none, .int .i64 2])) w) := ⟨none, by rw [hc], (fun _ => rfl), (fun h => by rw [hc] at h; cases h), Below.refl _ _⟩
    clear hl hs hn hc h60
    go_enter Tryd.func11, Tryd.ntmps11
    go_wp2
    go_ret2
    exact HZ.out
  · have hk : ¬ (60 : Int) < (L.length : Int) := by omega
    have HL : Hid (IsTg w ao L) := hl
    have hmm := @run_makeMap Tryd.prog
    obtain ⟨bx, hbx⟩ : ∃ bx, bx = w.heap.size + 1 := ⟨_, rfl⟩
    have H0 : Hid (((w.alloc (.map #[] 0)).alloc (.cells #[.map (some w.heap.size)] 38)).ownsMap Tryd.prog 9 slE w.heap.size 0 (ndD (L.take 0)) ∧ Below w.heap.size w ((w.alloc (.map #[] 0)).alloc (.cells #[.map (some w.heap.size)] 38)) ∧ ((w.alloc (.map #[] 0)).alloc (.cells #[.map (some w.heap.size)] 38)).heap[bx]? = some (.cells #[.map (some w.heap.size)] 38 (0, 0))) := by
      refine ⟨(World.ownsMap_made w Tryd.prog 9 _).alloc _, ((Below.refl _ w).alloc (Nat.le_refl _) _).alloc (by rw [World.size_alloc]; omega) _, ?_⟩
      rw [hbx, ← World.size_alloc w (.map #[] 0)]
      exact heap_alloc_new _ _
    have HSz : Hid (∀ t ∈ L, ∀ y ∈ t.ns, y.size ≤ maxLen) := hs
    have HND : Hid (∀ (W : World) (mo : Option Nat) (c : Int), c = ckN L → (c ≠ 0 → mo = none) → (c = 0 → mo = some w.heap.size ∧ W.ownsMap Tryd.prog 9 slE w.heap.size L.length (ndD L)) → Below w.heap.size w W → NdP L w (.returned (.tuple #[.map mo, .int .i64 c])) W) := fun W mo c hc h1 h2 hb => by
      subst hc
      refine ⟨mo, rfl, h1, fun h => ?_, hb⟩
      obtain ⟨e, ho⟩ := h2 h
      exact ⟨w.heap.size, L.length, e, Nat.le_refl _, by omega, ho⟩
    clear hl hs
    go_enter Tryd.func11, Tryd.ntmps11
    go_wp2
    rw [← hbx]
    have HBX : Hid (w.heap.size < bx) := by show _ < _; omega
    obtain ⟨M, hM⟩ : ∃ M, M = w.heap.size := ⟨_, rfl⟩
    clear hbx
    go_loopw [14] (fun i wr => ∃ k : Nat, k ≤ L.length ∧ i = .int .i64 (k : Int) ∧ Hid (wr.ownsMap Tryd.prog 9 slE w.heap.size k (ndD (L.take k)) ∧ Below w.heap.size w wr ∧ wr.heap[bx]? = some (.cells #[.map (some w.heap.size)] 38 (0, 0)))) (fun i _ => L.length - (intOf i).toNat)
    case atStart => exact ⟨0, Nat.zero_le _, rfl, H0⟩
    case round =>
      obtain ⟨k, hk2, rfl, HI⟩ := hrel
      by_cases hlt : k < L.length
      · have hki : (k : Int) < (L.length : Int) := by omega
        obtain ⟨hown, hb, hbox⟩ := HI.out
        rcases HL.out.at_ with h | ⟨g, o, rfl, hg, hcc⟩
        · exfalso; rw [h] at hlt; exact absurd hlt (by simp)
        obtain ⟨c0, c1, c2, c3, c4⟩ := (hcc.below hb hg) k hlt
        have htx := HL.out.tx _ (List.getElem_mem hlt)
        have hsz := HL.out.sz _ (List.getElem_mem hlt)
        have HE : Hid (ndD (L.take (k + 1)) = (ndD (L.take k)).put (.string (tnm L[k])) (tD L[k])) := by
          show _ = _
          rw [List.take_succ_eq_append_getElem hlt, ndD_snoc]
        have HB : Hid (Below w.heap.size w wr ∧ wr.heap[bx]? = some (.cells #[.map (some w.heap.size)] 38 (0, 0))) := ⟨hb, hbox⟩
        have hwz := hb.size
        have hbl : bx < wr.heap.size := (Array.getElem?_eq_some_iff.1 hbox).1
        generalize hx : L[k] = x at c0 c1 c2 c3 c4 htx hsz HE
        clear hx
        obtain ⟨nm, vs, vn, vo, vc, ss, ns, os, cs⟩ := x
        simp only [tnm, tD] at c0 c1 c2 c3 c4 htx hsz HE
        obtain ⟨⟨_, _, sa, sc, rfl, _⟩, ⟨hsl, _, na, nc, rfl, _⟩, ⟨_, _, oa, oc, rfl, _⟩, ⟨_, _, ca, cc, rfl, _⟩⟩ := htx
        generalize ss.length = s1 at c1
        generalize ns.length = s2 at c2 hsl HE
        generalize os.length = s3 at c3
        generalize cs.length = s4 at c4
        have hkey := keyOf_string_mk Tryd.underlying9 (s := nm) (by unfold maxLen; omega)
        have hown2 := hown.alloc (.cells #[.string nm, .slice sa s1 sc, .slice na s2 nc, .slice oa s3 oc, .slice ca s4 cc] 30)
        have cb : (wr.alloc (.cells #[.string nm, .slice sa s1 sc, .slice na s2 nc, .slice oa s3 oc, .slice ca s4 cc] 30)).cell? ⟨bx, 0, none⟩ = some (.map (some w.heap.size)) := by
          rw [World.cell?_alloc_lt _ _ _ hbl, Lib.cell_of_heap hbox]
          rfl
        have hel := slE_is hsl
        clear hb hown hcc hbox hsl
        go_wp2_with (first
          | (at_mapUpdate; refine wpList_mapUpdate_own _ rfl _ _ _ 38 rfl 9 24 lawS Tryd.underlying38 _ w.heap.size k (ndD (L.take k)) rfl hown2 (by unfold maxLen; omega) _ _ _ rfl rfl hkey _ [] hel ?_; intro w1 hown1 hgrow1)
          | go_in)
        refine ⟨⟨k + 1, by omega, by go_num, ?_⟩, by simp [intOf]; omega⟩
        refine ⟨by rw [HE.out]; exact hown1, ?_, ?_⟩
        · exact ((HB.out.1.alloc (by omega) _).grown hgrow1 (by rw [World.size_alloc]; omega) (fun j hj => by cases hj; exact Nat.le_refl _))
        · have hne : some bx ≠ some w.heap.size := fun e => by have := HBX.out; injection e; omega
          exact (hgrow1.block bx (by rw [World.size_alloc]; omega) hne).trans ((((Below.refl _ wr).alloc (Nat.le_refl _) _).block bx hbl).trans HB.out.2)
      · obtain rfl : k = L.length := by omega
        have hI := HI.out
        rw [List.take_length] at hI
        obtain ⟨hown, hb, hbox⟩ := hI
        have hLw := HL.out.below hb (Nat.le_refl _)
        have hMl := hown.lt
        have hbl : bx < wr.heap.size := (Array.getElem?_eq_some_iff.1 hbox).1
        have hW : ∀ W, Below wr.heap.size wr W → W.cell? ⟨bx, 0, none⟩ = some (.map (some w.heap.size)) ∧ W.ownsMap Tryd.prog 9 slE w.heap.size L.length (ndD L) ∧ Below w.heap.size w W ∧ ∀ ty, (Builtin.len_ #[38] ty #[.map (some w.heap.size)]).run Tryd.prog W = .ok (.int .i64 (Maps.size (ndD L))) W := fun W h => by
          have ho := omapG hown (h.block _ hMl)
          exact ⟨by rw [Lib.cell_of_heap ((h.block bx hbl).trans hbox)]; rfl, ho, hb.trans (h.mono hb.size), fun ty => ho.len Tryd.underlying38 ty⟩
        have HU : Hid (Calls Tryd.prog 26 #[.slice ao L.length cap, .func (.func 27) #[] #[]] wr fun e w' => e = .returned (.bool (L.any fun t => !nameOk t.nm)) ∧ (w'.cell? ⟨bx, 0, none⟩ = some (.map (some w.heap.size)) ∧ ∀ ty, (Builtin.len_ #[38] ty #[.map (some w.heap.size)]).run Tryd.prog w' = .ok (.int .i64 (Maps.size (ndD L))) w') ∧ Hid (Below wr.heap.size wr w')) :=
          (conTn ao cap L 27 (fun t => !nameOk t.nm) wr hn hLw (enters_of Tryd.func27 (by kernel_rfl) rfl) fun x hx W hW => isUnnamed_any x W (by have := HL.out.sz x hx; unfold maxLen; omega)).mono fun e w' q => ⟨q.1, ⟨(hW w' q.2).1, (hW w' q.2).2.2.2⟩, q.2⟩
        have HM : Hid (∀ W, Hid (Below wr.heap.size wr W) → Calls Tryd.prog 26 #[.slice ao L.length cap, .func (.func 23) #[] #[.pointer (some ⟨bx, 0, none⟩)]] W fun e w' => e = .returned (.bool (L.any fun t => lckB (ndD L) t.ns)) ∧ w'.cell? ⟨bx, 0, none⟩ = some (.map (some w.heap.size)) ∧ Hid (Below wr.heap.size wr w')) := fun W h =>
          (conTc ao cap L 23 (.pointer (some ⟨bx, 0, none⟩)) (fun t => lckB (ndD L) t.ns) W hn (hLw.below h.out (Nat.le_refl _)) (enters_of Tryd.func23 (by kernel_rfl) rfl) fun x hx W2 hW2 => by
            have hb2 : Below wr.heap.size wr W2 := h.out.trans (hW2.mono h.out.size)
            exact unmet_any x bx w.heap.size L.length (ndD L) W2 (hW W2 hb2).1 (hW W2 hb2).2.1 (((hLw.below hb2 (Nat.le_refl _)).tx x hx).2.1) (HSz.out x hx)).mono fun e w' q => by
            have hb2 : Below wr.heap.size wr w' := h.out.trans (q.2.mono h.out.size)
            exact ⟨q.1, (hW w' hb2).1, hb2⟩
        have HF : Hid (∀ (W : World) (mo : Option Nat) (c : Int), Hid (Below wr.heap.size wr W) → c = ckN L → (c ≠ 0 → mo = none) → (c = 0 → mo = some w.heap.size) → NdP L w (.returned (.tuple #[.map mo, .int .i64 c])) W) := fun W mo c h h1 h2 h3 => HND.out W mo c h1 h2 (fun h0 => ⟨h3 h0, (hW W h.out).2.1⟩) (hW W h.out).2.2.1
        obtain ⟨s1, s2⟩ := size_ndD L
        generalize Maps.size (ndD L) = s at *
        have hck : ckN L = if (L.any fun t => !nameOk t.nm) = true then 1 else if (L.map tnm).Nodup then (if (L.any fun t => lckB (ndD L) t.ns) = true then 5 else 0) else 6 := by unfold ckN; rw [if_neg h60]
        rw [hck] at HF
        clear hck hown hb hbox hLw hW HI HL HND H0 hMl hbl hlt
        cases hu : (L.any fun t => !nameOk t.nm) with
        | true =>
          rw [hu] at HU HF
          clear hu HM
          go_wp2_with (first | (go_at_call 26; refine HU.out.mono ?_; rintro e w1 ⟨rfl, ⟨d1, d2⟩, H1⟩) | go_in)
          go_ret2
          exact HF.out _ none 1 H1 (by simp) (fun _ => rfl) (fun h => by cases h)
        | false =>
          rw [hu] at HU HF
          clear hu
          by_cases hnd : (L.map tnm).Nodup
          · rw [if_pos hnd] at HF
            have e1 : s = L.length := s2.2 hnd
            subst e1
            clear s1 s2 hnd
            cases hm : (L.any fun t => lckB (ndD L) t.ns) with
            | true =>
              rw [hm] at HM HF
              clear hm
              go_wp2_with (first
                | (go_at_call 26; with_reducible refine HU.out.mono ?_; rintro e w1 ⟨rfl, ⟨d1, d2⟩, H1⟩)
                | (go_at_call 26; with_reducible refine (HM.out _ H1).mono ?_; rintro e w2 ⟨rfl, d3, H2⟩)
                | go_in)
              go_ret2
              exact HF.out _ none 5 H2 (by simp) (fun _ => rfl) (fun h => by cases h)
            | false =>
              rw [hm] at HM HF
              clear hm
              go_wp2_with (first
                | (go_at_call 26; with_reducible refine HU.out.mono ?_; rintro e w1 ⟨rfl, ⟨d1, d2⟩, H1⟩)
                | (go_at_call 26; with_reducible refine (HM.out _ H1).mono ?_; rintro e w2 ⟨rfl, d3, H2⟩)
                | go_in)
              go_ret2
              exact HF.out _ (some w.heap.size) 0 H2 (by simp) (fun h => absurd rfl h) (fun _ => rfl)
          · rw [if_neg hnd] at HF
            have e1 : (s : Int) < (L.length : Int) := by
              have : s ≠ L.length := fun e => hnd (s2.1 e)
              omega
            clear s1 s2 hnd HM
            go_wp2_with (first | (go_at_call 26; refine HU.out.mono ?_; rintro e w1 ⟨rfl, ⟨d1, d2⟩, H1⟩) | go_in)
            go_ret2
            exact HF.out _ none 6 H1 (by simp) (fun _ => rfl) (fun h => by cases h)
end Go.Proofs.YtoccfkinnopnjaaDoor

/- Lists of names in a map, each a row of one's own; one name more behind one of them. -/
namespace Go.Proofs.YtoccfkinnopnjaaDoor
open Go.RowKit Go.Shelf Go.Maps Go.WideMaps

/-- A map of lists: by each key the names us of it, as the row vf of it; no list is there that is empty. -/
structure ML (B M N : Nat) (us : List UInt8 → List ByteArray) (vf : List UInt8 → Value) (D : DataW Unit) (w : World) : Prop where
  own : w.ownsMap Tryd.prog 9 slE M N D
  tidy : Tidy D
  has : ∀ k, Maps.has D (.string k) = decide (us k ≠ [])
  get : ∀ k, us k ≠ [] → ∀ z, D.atKey (.string k) z = slD (vf k)
  row : ∀ k, us k ≠ [] → w.ownsRow B 9 1 (vf k) (us k).length ((us k).map Value.string)
  apart : ∀ k j g, us k ≠ [] → us j ≠ [] → (vf k).ownBlock = some g → (vf j).ownBlock = some g → k = j
  lo : B ≤ M
/-- The blocks of such a map. -/
def MLS (M : Nat) (us : List UInt8 → List ByteArray) (vf : List UInt8 → Value) (g : Nat) : Prop := g = M ∨ ∃ k, us k ≠ [] ∧ (vf k).ownBlock = some g
theorem ML.keep {B M N : Nat} {us : List UInt8 → List ByteArray} {vf : List UInt8 → Value} {D : DataW Unit} {w w' : World} (h : ML B M N us vf D w) (hk : ∀ g, MLS M us vf g → w'.heap[g]? = w.heap[g]?) : ML B M N us vf D w' := by
  refine ⟨omapG h.own (hk M (.inl rfl)), h.tidy, h.has, h.get, fun k hk2 => ?_, h.apart, h.lo⟩
  have hr := h.row k hk2
  refine ⟨hr.1, ?_⟩
  rcases hr.2 with h2 | ⟨g, cap, cur, hv, hb, hg, r⟩
  · exact .inl h2
  · exact .inr ⟨g, cap, cur, hv, hb, (hk g (.inr ⟨k, hk2, by rw [hv]; rfl⟩)).trans hg, r⟩
theorem row_sl {w : World} {B : Nat} {v : Value} {n : Nat} {xs : List Value} (h : w.ownsRow B 9 1 v n xs) : IsSl v := by
  rcases h.2 with ⟨h1, _⟩ | ⟨g, c, cur, h1, _⟩
  · exact ⟨none, 0, 0, h1⟩
  · exact ⟨_, n, c, h1⟩
def updL (us : List UInt8 → List ByteArray) (k : List UInt8) (l : List ByteArray) : List UInt8 → List ByteArray := fun j => if j = k then l else us j
def updV (vf : List UInt8 → Value) (k : List UInt8) (v : Value) : List UInt8 → Value := fun j => if j = k then v else vf j
/-- What a look-up gives: the list, or none. -/
def lkV (us : List UInt8 → List ByteArray) (vf : List UInt8 → Value) (k : List UInt8) : Value := if us k = [] then .slice none 0 0 else vf k
theorem ML.look {B M N : Nat} {us : List UInt8 → List ByteArray} {vf : List UInt8 → Value} {D : DataW Unit} {w : World} (h : ML B M N us vf D w) (x : ByteArray) (hs : x.size ≤ maxLen) :
    (Instr.lookup 38 (.map (some M)) (.string x) false).run Tryd.prog w = .ok (lkV us vf x.data.toList) w := by
  obtain ⟨v, ps, hr, hv⟩ := h.own.lookup lawS Tryd.underlying38 (zeroSl w) (zd := slD (.slice none 0 0)) (zp := []) rfl (keyOf_string_mk Tryd.underlying9 hs)
  have e : v = lkV us vf x.data.toList := by
    unfold lkV
    by_cases he : us x.data.toList = []
    · rw [if_pos he]
      have hno : Maps.has D (.string x.data.toList) = false := by rw [h.has, he]; rfl
      rw [atKey_of_not_has hno] at hv
      exact slE_inj hv (slE_is ⟨none, 0, 0, rfl⟩)
    · rw [if_neg he]
      rw [h.get _ he] at hv
      exact slE_inj hv (slE_is (row_sl (h.row _ he)))
  rw [hr, e]
theorem ML.lrow {B M N : Nat} {us : List UInt8 → List ByteArray} {vf : List UInt8 → Value} {D : DataW Unit} {w : World} (h : ML B M N us vf D w) (k : List UInt8) : w.ownsRow B 9 1 (lkV us vf k) (us k).length ((us k).map Value.string) := by
  unfold lkV
  by_cases he : us k = []
  · rw [if_pos he, he]
    exact World.ownsRow_nil _ _ _ _
  · rw [if_neg he]
    exact h.row k he
/-- One name more behind a list: what append and the map's update leave. -/
theorem ML.put {B M N : Nat} {us : List UInt8 → List ByteArray} {vf : List UInt8 → Value} {D : DataW Unit} {w w1 w2 : World} (h : ML B M N us vf D w) (k : List UInt8) (x : ByteArray) (G C : Nat)
    (hrow : w1.ownsRow B 9 1 (.slice (some ⟨G, 0, none⟩) (us k ++ [x]).length C) (us k ++ [x]).length ((us k ++ [x]).map Value.string))
    (hg : w.grownBy w1 (lkV us vf k).ownBlock) (hat : (lkV us vf k).ownBlock = some G ∨ w.heap.size ≤ G)
    (hown : w2.ownsMap Tryd.prog 9 slE M (N + 1) (D.put (.string k) (slD (.slice (some ⟨G, 0, none⟩) (us k ++ [x]).length C)))) (hg2 : w1.grownBy w2 (some M)) :
    ML B M (N + 1) (updL us k (us k ++ [x])) (updV vf k (.slice (some ⟨G, 0, none⟩) (us k ++ [x]).length C)) (D.put (.string k) (slD (.slice (some ⟨G, 0, none⟩) (us k ++ [x]).length C))) w2 := by
  have hob : ∀ g, (lkV us vf k).ownBlock = some g → us k ≠ [] ∧ (vf k).ownBlock = some g := fun g hg => by
    unfold lkV at hg
    by_cases he : us k = []
    · rw [if_pos he] at hg; cases hg
    · rw [if_neg he] at hg; exact ⟨he, hg⟩
  have hMl := h.own.lt
  have hMo : ∀ j, us j ≠ [] → (vf j).ownBlock ≠ some M := fun j hj e => by
    obtain ⟨es, clock, hb, _⟩ := h.own
    rcases (h.row j hj).2 with ⟨h1, h2⟩ | ⟨g, c, cur, h1, _, h3, _⟩
    · rw [h1] at e; cases e
    · rw [h1] at e
      have : g = M := by simpa [Value.ownBlock] using e
      subst this
      rw [hb] at h3
      cases h3
  have hGM : G ≠ M := fun e => by
    rcases hat with h2 | h2
    · obtain ⟨h3, h4⟩ := hob _ h2
      exact hMo k h3 (by rw [h4, e])
    · omega
  have hkeep : ∀ j, j ≠ k → us j ≠ [] → ∀ g, (vf j).ownBlock = some g → w2.heap[g]? = w.heap[g]? := fun j hj hjn g hgj => by
    have hlt := ((h.row j hjn).lt g hgj).2
    refine (hg2.block g (Nat.lt_of_lt_of_le hlt hg.size) (fun e => hMo j hjn (by rw [hgj]; exact e))).trans (hg.block g hlt fun e => ?_)
    obtain ⟨h3, h4⟩ := hob g e.symm
    exact hj (h.apart j k g hjn h3 hgj h4)
  refine ⟨hown, h.tidy.put (by exact trivial) _, fun j => ?_, fun j hj z => ?_, fun j hj => ?_, fun i j g hi hj hgi hgj => ?_, h.lo⟩
  · unfold updL
    by_cases e : j = k
    · subst e
      rw [has_put_same h.tidy.isMap (by exact trivial), if_pos rfl]
      simp
    · rw [has_put_other (fun e2 => e (by injection e2)), if_neg e]
      exact h.has j
  · unfold updV
    by_cases e : j = k
    · subst e
      rw [if_pos rfl]
      exact atKey_put_same h.tidy.isMap (by exact trivial) _ _
    · rw [if_neg e, atKey_put_other (fun e2 => e (by injection e2))]
      unfold updL at hj
      rw [if_neg e] at hj
      exact h.get j hj z
  · unfold updL updV at *
    by_cases e : j = k
    · subst e
      rw [if_pos rfl, if_pos rfl]
      exact hrow.kept hg2 (.inr (fun e => hGM (by simpa [Value.ownBlock] using e)))
    · rw [if_neg e, if_neg e]
      rw [if_neg e] at hj
      have hr := h.row j hj
      refine ⟨hr.1, ?_⟩
      rcases hr.2 with h2 | ⟨g, cap, cur, hv, hb, hgg, r⟩
      · exact .inl h2
      · exact .inr ⟨g, cap, cur, hv, hb, (hkeep j e hj g (by rw [hv]; rfl)).trans hgg, r⟩
  · unfold updL updV at *
    have key : ∀ j, j ≠ k → us j ≠ [] → (vf j).ownBlock ≠ some G := fun j hjk hjn e => by
      rcases hat with h2 | h2
      · obtain ⟨h3, h4⟩ := hob _ h2
        exact hjk (h.apart j k G hjn h3 e h4)
      · have := ((h.row j hjn).lt G e).2
        omega
    by_cases ei : i = k
    · by_cases ej : j = k
      · rw [ei, ej]
      · rw [if_pos ei] at hgi
        rw [if_neg ej] at hj hgj
        have : G = g := by simpa [Value.ownBlock] using hgi
        subst this
        exact absurd hgj (key j ej hj)
    · rw [if_neg ei] at hi hgi
      by_cases ej : j = k
      · rw [if_pos ej] at hgj
        have : G = g := by simpa [Value.ownBlock] using hgj
        subst this
        exact absurd hgi (key i ei hi)
      · rw [if_neg ej] at hj hgj
        exact h.apart i j g hi hj hgi hgj
end Go.Proofs.YtoccfkinnopnjaaDoor
