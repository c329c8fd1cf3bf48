/- What ReadTexts answers at a packed list of texts. -/
import Derived.Test.YtmjemnmcndajpaaDoorFind
import Derived.Defers
import Derived.Recover
import Derived.Laws.Pointers
namespace Go.Proofs.YtmjemnmcndajpaaDoor
open Go.RowKit Go.Shelf

set_option maxHeartbeats 1000000 in
theorem rd_texts (b : Nat) (s : ByteArray) (w : World) (l : List (List UInt8)) (r : List UInt8) (hs : s.size ≤ maxLen) (hl : l.length ≤ 2000) (ht : ∀ t ∈ l, t.length ≤ 281474976710656) (h : s.data.toList = pk l.length ++ (pkAll l ++ r))
    (hc : w.cell? ⟨b, 0, none⟩ = some (.string s)) (hf : w.frozen? ⟨b, 0, none⟩ = false) :
    Calls Tryd.prog 41 #[.pointer (some ⟨b, 0, none⟩)] w fun e w' => ∃ v, e = .returned v ∧ w'.ownsRow w.heap.size 9 1 v l.length (strs l) ∧ (∃ s' : ByteArray, s'.data.toList = r ∧ s'.size ≤ maxLen ∧ w'.cell? ⟨b, 0, none⟩ = some (.string s')) ∧ w'.frozen? ⟨b, 0, none⟩ = false ∧ w.grownBy w' (some b) := by
  have H : Hid _ := h
  have HT : Hid _ := ht
  clear h ht
  go_enter Tryd.func41, Tryd.ntmps41
  go_wp2_with fail
  refine (rd_list b s w l r hs hl HT.out H.out hc hf).mono ?_
  rintro e w1 ⟨v, rfl, h1, h2, h3, h4⟩
  go_wp2
  go_ret
  exact ⟨v, rfl, h1, h2, h3, h4⟩

theorem catch_idle (p q : Addr) (w : World) :
    CallsD Tryd.prog 60 #[.pointer (some p), .pointer (some q)] .returning w fun e u' w' => e = .returned (.tuple #[]) ∧ u' = .returning ∧ w' = w := by
  refine callsD_of_wpS Tryd.func60 rfl fun c₀ cs hu => ?_
  apply wpS_seq
  apply wpS_region
  simp [wpOpsS, go_sem, recoverD, hu, Tryd.ntmps60, Exit.thenS]
  refine wpS_cond (t := false) (by simp [Act.eval, Array.replicate]) ?_
  simp only [Bool.false_eq_true, if_false]
  refine wpS_of_wp (wp_skip ?_)
  cases c₀
  simp_all [bodyPostS, results, Tryd.results60]

theorem own_shape {w : World} {base : Nat} {e : TypeId} {size : Nat} {v : Value} {n : Nat} {xs : List Value} (h : w.ownsRow base e size v n xs) : ∃ a cap, v = .slice a n cap := by
  rcases h.2 with ⟨h1, h2⟩ | ⟨g, cap, cur, hv, _⟩
  · exact ⟨none, 0, by rw [h1, h2]⟩
  · exact ⟨_, _, hv⟩
theorem own_mono {w : World} {base base' : Nat} {e : TypeId} {size : Nat} {v : Value} {n : Nat} {xs : List Value} (h : w.ownsRow base e size v n xs) (hb : base' ≤ base) : w.ownsRow base' e size v n xs := by
  refine ⟨h.1, ?_⟩
  rcases h.2 with h2 | ⟨g, cap, cur, hv, hg, r⟩
  · exact Or.inl h2
  · exact Or.inr ⟨g, cap, cur, hv, Nat.le_trans hb hg, r⟩
theorem addr_add (g o j : Nat) : (⟨g, o, none⟩ : Addr).add j = ⟨g, o + j, none⟩ := by
  unfold Addr.add
  split <;> simp_all

theorem te_own (base : Nat) (v : Value) (l : List (List UInt8)) (w : World) (hown : w.ownsRow base 9 1 v l.length (strs l)) (hl : l.length ≤ 2000) (ht : ∀ t ∈ l, t.length ≤ 100000) :
    Calls Tryd.prog 42 #[v] w fun e w' => e = .returned (.int .i64 0) ∧ w' = w := by
  refine te_ok v l.length (own_shape hown) w hl ?_
  have hcells := fun (g : Nat) (hg : v.ownBlock = some g) => hown.cells hg
  rcases hown.2 with ⟨h1, h2⟩ | ⟨g, cap, cur, hv, _⟩
  · rw [h1]; exact cf_zero none 0 w
  · subst hv
    have hlen : (l.map fun t => (⟨t.toArray⟩ : ByteArray)).length = l.length := by simp
    have := cf_none g 0 cap (l.map fun t => (⟨t.toArray⟩ : ByteArray)) w (by rw [hlen]; omega)
      (fun j hj => by
        have := hcells g rfl j (.string (l.map fun t => (⟨t.toArray⟩ : ByteArray))[j]) (by rw [hlen] at hj; simp [strs, List.getElem?_map, List.getElem?_eq_getElem hj])
        rw [show (⟨g, 0, none⟩ : Addr).add j = ⟨g, 0 + j, none⟩ from addr_add g 0 j] at this
        exact this)
      (fun s hs => by
        obtain ⟨t, htl, rfl⟩ := List.mem_map.1 hs
        rw [show (⟨t.toArray⟩ : ByteArray).size = t.length from size_of rfl]
        exact ht t htl)
    rw [hlen] at this
    exact this

set_option maxHeartbeats 2000000 in
set_option maxRecDepth 100000 in
theorem whole_texts (s : ByteArray) (w : World) (l : List (List UInt8)) (hs : s.size ≤ maxLen) (hl : l.length ≤ 2000) (ht : ∀ t ∈ l, t.length ≤ 100000) (h : s.data.toList = pk l.length ++ (pkAll l ++ [])) :
    Calls Tryd.prog 40 #[.string s, .func (.func 41) #[] #[], .func (.func 42) #[] #[]] w fun e w' => ∃ v, e = .returned (.tuple #[v, .int .i64 0]) ∧ w'.ownsRow w.heap.size 9 1 v l.length (strs l) ∧ Below w.heap.size w w' := by
  have hmf : ∀ (fn : Fn) (first cap : Array Value) (w : World), (Instr.makeFunc fn first cap).run Tryd.prog w = .ok (.func fn first cap) w := fun _ _ _ _ => rfl
  have H : Hid _ := h
  have HT : Hid _ := ht
  clear h ht
  go_enter_defers Tryd.func40, Tryd.ntmps40
  go_wp2_with fail
  refine (rd_texts (w.heap.size + 1 + 1) s _ l [] hs hl (fun t h => Nat.le_trans (HT.out t h) (by decide)) H.out (by simp [go_sem]) (by simp [go_sem])).mono ?_
  rintro e w1 ⟨v, rfl, hown, ⟨s1, hs1, _, hc1⟩, hf1, hg1⟩
  obtain rfl : s1 = ⟨#[]⟩ := bytes_eq hs1
  have hcv : w1.cell? ⟨w.heap.size, 0, none⟩ = some (.slice none 0 0) := hg1.cell (by simp [go_sem]) (by simp; omega)
  have hce : w1.cell? ⟨w.heap.size + 1, 0, none⟩ = some (.int .i64 0) := hg1.cell (by simp [go_sem]) (by simp)
  have hfv : w1.frozen? ⟨w.heap.size, 0, none⟩ = false := by
    rw [World.frozen?_of_block (hg1.block w.heap.size (by simp; omega) (by simp; omega))]; simp [go_sem]
  have hfe : w1.frozen? ⟨w.heap.size + 1, 0, none⟩ = false := by
    rw [World.frozen?_of_block (hg1.block (w.heap.size + 1) (by simp) (by simp))]; simp [go_sem]
  obtain ⟨a, cap, rfl⟩ := own_shape hown
  have hown' : w1.ownsRow (w.heap.size + 1 + 1 + 1) 9 1 (.slice a l.length cap) l.length (strs l) := by simpa using hown
  have HO : Hid (∀ u1 u2 u3 : Value, ((w1.setCell ⟨w.heap.size, 0, none⟩ u1).ownsRow (w.heap.size + 1 + 1 + 1) 9 1 (.slice a l.length cap) l.length (strs l)) ∧
      (((w1.setCell ⟨w.heap.size, 0, none⟩ u1).setCell ⟨w.heap.size, 0, none⟩ u2).setCell ⟨w.heap.size + 1, 0, none⟩ u3).ownsRow w.heap.size 9 1 (.slice a l.length cap) l.length (strs l)) := by
    intro u1 u2 u3
    have k1 := ownsRow_setCell_below hown' (a := ⟨w.heap.size, 0, none⟩) (by show w.heap.size < _; omega) u1
    have k2 := ownsRow_setCell_below k1 (a := ⟨w.heap.size, 0, none⟩) (by show w.heap.size < _; omega) u2
    exact ⟨k1, own_mono (ownsRow_setCell_below k2 (a := ⟨w.heap.size + 1, 0, none⟩) (by show w.heap.size + 1 < _; omega) u3) (by omega)⟩
  have HB : Hid (Below w.heap.size w w1) := ((((Below.refl _ _).alloc (Nat.le_refl _) _).alloc (by simp) _).alloc (by simp; omega) _).grown hg1 (by simp; omega) (by intro k hk; cases hk; omega)
  clear hown hown' hg1 hs1 hf1 H
  go_wp2_with fail
  refine (te_own _ _ l _ (HO.out _ .nilIface .nilIface).1 hl HT.out).mono ?_
  rintro e w2 ⟨rfl, rfl⟩
  go_wp2
  refine leaves_cons (f := 60) (args := #[.pointer (some ⟨w.heap.size, 0, none⟩), .pointer (some ⟨w.heap.size + 1, 0, none⟩)]) (by simp) (by simp [go_sem]) ?_
  refine (catch_idle ⟨w.heap.size, 0, none⟩ ⟨w.heap.size + 1, 0, none⟩ _).mono ?_
  rintro e u' w'' ⟨rfl, rfl, rfl⟩
  have q0 : ((w1.setCell ⟨w.heap.size, 0, none⟩ (.slice a l.length cap)).setCell ⟨w.heap.size, 0, none⟩ (.slice a l.length cap)).cell? ⟨w.heap.size, 0, none⟩ = some (.slice a l.length cap) :=
    World.cell?_setCell_same' _ _ _ (by rw [World.cell?_setCell_same' _ _ _ (by rw [hcv]; rfl)]; rfl)
  have q1 : (((w1.setCell ⟨w.heap.size, 0, none⟩ (.slice a l.length cap)).setCell ⟨w.heap.size, 0, none⟩ (.slice a l.length cap)).setCell ⟨w.heap.size + 1, 0, none⟩ (.int .i64 0)).cell? ⟨w.heap.size + 1, 0, none⟩ = some (.int .i64 0) :=
    World.cell?_setCell_same' _ _ _ (by simp [go_sem, hce])
  simp [Leaves, settle, results, Tryd.results40, go_sem, q0, q1]
  exact ⟨(HO.out _ _ _).2, ((HB.out.setCell (p := ⟨w.heap.size, 0, none⟩) (Nat.le_refl _) _).setCell (p := ⟨w.heap.size, 0, none⟩) (Nat.le_refl _) _).setCell (p := ⟨w.heap.size + 1, 0, none⟩) (Nat.le_succ _) _⟩

set_option maxHeartbeats 1000000 in
theorem ReadTexts_pk (s : ByteArray) (w : World) (l : List (List UInt8)) (hs : s.size ≤ maxLen) (hl : l.length ≤ 2000) (ht : ∀ t ∈ l, t.length ≤ 100000) (h : s.data.toList = pk l.length ++ pkAll l) :
    Calls Tryd.prog 18 #[.string s] w fun e w' => ∃ v, e = .returned (.tuple #[v, .int .i64 0]) ∧ w'.ownsRow w.heap.size 9 1 v l.length (strs l) ∧ Below w.heap.size w w' := by
  have H : Hid (s.data.toList = pk l.length ++ (pkAll l ++ [])) := by show _ = _; rw [h]; simp
  have HT : Hid _ := ht
  clear h ht
  go_enter Tryd.func18, Tryd.ntmps18
  go_wp2_with fail
  refine (whole_texts s w l hs hl HT.out H.out).mono ?_
  rintro e w1 ⟨v, rfl, h1, h2⟩
  go_wp2
  go_ret2
  exact ⟨v, rfl, h1, h2⟩
end Go.Proofs.YtmjemnmcndajpaaDoor
