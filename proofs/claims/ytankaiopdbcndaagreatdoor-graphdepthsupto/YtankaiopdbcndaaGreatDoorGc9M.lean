/- Who is in a cone: the document's own; what is asked for by name. -/
import Derived.Test.YtankaiopdbcndaaGreatDoorTc7
namespace Go.Proofs.YtankaiopdbcndaaGreatDoor
open Go.RowKit Go.Shelf Go.Maps
attribute [local go_sem ↓] appG_eq2
def cells2 (n : Nat) (h : Nat → Bool) : List Value := (List.range n).map fun j => .bool (h j)
theorem cells2_get {n : Nat} {h : Nat → Bool} {j : Nat} (hj : j < n) : (cells2 n h)[j]? = some (.bool (h j)) := by simp [cells2, hj]

set_option maxRecDepth 100000 in
/-- A row is copied. -/
theorem copy_bl {X Y : World} {g n : Nat} {h : Nat → Bool} (hX : BlAt Y g n h) (hY : Below X.heap.size X Y) (hE : Y.heap[X.heap.size]? = some (.cells #[] 4 (0, 0))) (hn : n ≤ 60) (hp : 0 < n) :
    ∃ (G c : Nat) (w1 : World), (appG #[29, 29] 29 #[.slice (some ⟨X.heap.size, 0, none⟩) 0 0, .slice (some ⟨g, 0, none⟩) n n]).run Tryz.prog Y = .ok (.slice (some ⟨G, 0, none⟩) n c) w1 ∧ BlAt w1 G n h ∧ X.heap.size ≤ G ∧ G < w1.heap.size ∧ Below X.heap.size X w1 := by
  obtain ⟨i0, hi, hz0, hz1, hz2⟩ := infoG infBl
  have hlt : X.heap.size < Y.heap.size := (Array.getElem?_eq_some_iff.1 hE).1
  have hown0 : Y.ownsRow X.heap.size 4 1 (.slice (some ⟨X.heap.size, 0, none⟩) 0 0) 0 [] := ⟨rfl, .inr ⟨X.heap.size, 0, #[], rfl, Nat.le_refl _, hE, Nat.le_refl _, by decide, rfl, rfl⟩⟩
  obtain ⟨v1, w1, hr1, ho1, hg1, _⟩ := run_append_own (P := Tryz.prog) Y X.heap.size 29 29 4 i0 (.bool false) 1 1 Tryz.underlying29 hi hz0 hz1 hz2 rfl (by decide) (.slice (some ⟨X.heap.size, 0, none⟩) 0 0) 0 [] hown0 ⟨g, 0, none⟩ n n (cells2 n h) (by simp [cells2]) (fun j u hu => by
    have hj : j < n := by have := (List.getElem?_eq_some_iff.1 hu).1; simpa [cells2] using this
    rw [addr_add, Nat.zero_add, (hX j hj).1, ← hu, cells2_get hj]) (fun u hu => by obtain ⟨j, _, rfl⟩ := List.mem_map.1 hu; rfl) (by unfold maxLen; omega) (by omega) (by omega)
  have hw1 : Below X.heap.size X w1 := ⟨hg1.os.trans hY.os, hg1.tape.trans hY.tape, hg1.output.trans hY.output, by have := hg1.size; have := hY.size; omega, fun x hx => (hg1.block x (by omega) (fun e => by simp [Value.ownBlock] at e; omega)).trans (hY.block x hx)⟩
  rw [Nat.zero_add, List.nil_append] at ho1
  obtain ⟨G, c, hv, hG1, hG2⟩ := ho1.form hp
  subst hv
  refine ⟨G, c, w1, hr1, fun j hj => ⟨?_, ?_⟩, hG1, hG2, hw1⟩
  · have := ho1.cells rfl j (.bool (h j)) (cells2_get hj)
    rwa [addr_add, Nat.zero_add] at this
  · rcases ho1.2 with ⟨e, _⟩ | ⟨g2, c2, cur, e, _, hb, _⟩
    · cases e
    · injection e with e1 _ _
      injection e1 with e1
      injection e1 with e1
      subst e1
      exact Lib.frozen_of_heap hb j

set_option maxHeartbeats 4000000 in
set_option maxRecDepth 100000 in
theorem InCone_any (ao : Option Addr) (cap : Nat) (L : List Tg) (a : Nat) (w : World) (hf : Fine w ao L) (hN : NmOk L) (ha : a < L.length) :
    Calls Tryz.prog 21 #[.slice ao L.length cap, .int .i64 (a : Int)] w fun e w' => ∃ v h, e = .returned v ∧ BlIn w' v L.length h ∧ (∀ j, j < L.length → (h j = true ↔ j = a ∨ Pk (edg L) L.length a j)) ∧ Below w.heap.size w w' := by
  obtain ⟨W, hW⟩ : ∃ W, W = w.alloc (.cells #[] 4) := ⟨_, rfl⟩
  have hbW : Below w.heap.size w W := by rw [hW]; exact (Below.refl _ w).alloc (Nat.le_refl _) _
  have hEW : W.heap[w.heap.size]? = some (.cells #[] 4 (0, 0)) := by rw [hW]; exact heap_alloc_new w _
  have hWs : w.heap.size < W.heap.size := (Array.getElem?_eq_some_iff.1 hEW).1
  have HR := Reach_any ao cap L W (hf.below hbW) hN
  have hn60 := hN.len
  obtain ⟨n, hn⟩ : ∃ n, n = L.length := ⟨_, rfl⟩
  rw [← hn] at HR ha hn60 ⊢
  have hni : (n : Int) ≤ 60 := by omega
  have hai : (a : Int) < (n : Int) := by omega
  have HRc : Hid (∀ (u : Value) (gs : List Nat) (f : Nat → Nat → Bool) (W1 : World), Mx W.heap.size n u gs f W1 → gs.length = n → (∀ a b, a < n → b < n → (f a b = true ↔ Pk (edg L) n a b)) → Below W.heap.size W W1 → ∃ R c gk G c2 w2, u = .slice (some ⟨R, 0, none⟩) n c ∧ W1.cell? ⟨R, a, none⟩ = some (.slice (some ⟨gk, 0, none⟩) n n) ∧ (appG #[29, 29] 29 #[.slice (some ⟨w.heap.size, 0, none⟩) 0 0, .slice (some ⟨gk, 0, none⟩) n n]).run Tryz.prog W1 = .ok (.slice (some ⟨G, 0, none⟩) n c2) w2 ∧ w2.cell? ⟨G, a, none⟩ = some (.bool (f a a)) ∧ w2.frozen? ⟨G, a, none⟩ = false ∧ Hid (∃ v h, Ending.returned (.slice (some ⟨G, 0, none⟩) n c2) = .returned v ∧ BlIn (w2.setCell ⟨G, a, none⟩ (.bool true)) v n h ∧ (∀ j, j < n → (h j = true ↔ j = a ∨ Pk (edg L) n a j)) ∧ Below w.heap.size w (w2.setCell ⟨G, a, none⟩ (.bool true)))) := fun u gs f W1 m1 m2 m3 m4 => by
    obtain ⟨R, c, hv, hrow⟩ := m1.form (by omega)
    rw [m2] at hv
    have hbl := m1.bl a (by omega)
    obtain ⟨G, c2, w2, r1, r2, r3, r4, r5⟩ := copy_bl hbl (hbW.trans (m4.mono hbW.size)) ((m4.block _ hWs).trans hEW) hn60 (by omega)
    refine ⟨R, c, gs[a], G, c2, w2, hv, hrow a (by omega), r1, (r2 a ha).1, (r2 a ha).2, _, updB (f a) a, rfl, ⟨_, _, rfl, .inr ⟨G, rfl, by simpa [World.setCell] using r4, r2.set ha⟩⟩, fun j hj => ?_, r5.setCell (by show w.heap.size ≤ G; exact r3) _⟩
    unfold updB
    by_cases e : j = a
    · rw [if_pos e]; exact ⟨fun _ => .inl e, fun _ => rfl⟩
    · rw [if_neg e, m3 a j ha hj]; exact ⟨.inr, fun h => h.resolve_left e⟩
  rw [hW] at HR
  clear hf hN hn ha hEW hbW
  go_enter Tryz.func21, Tryz.ntmps21
  go_wp2_with fail
  refine HR.mono ?_
  rintro e W1 ⟨u, gs, f, rfl, m1, m2, m3, m4⟩
  rw [← hW] at m1 m4
  obtain ⟨R, c, gk, G, c2, w2, rfl, k1, k2, k3, k4, HE⟩ := HRc.out u gs f W1 m1 m2 m3 m4
  generalize f a a = fa at *
  clear HR HRc m1 m2 m3 m4 hW
  go_wp2
  go_ret
  obtain ⟨v, h, q1, q2, q3, q4⟩ := HE.out
  exact ⟨v, h, q1, q2, q3, q4⟩

set_option maxHeartbeats 2000000 in
set_option maxRecDepth 100000 in
theorem asked_any (ao : Option Addr) (cap : Nat) (L : List Tg) (x : ByteArray) (w : World) (hf : Fine w ao L) :
    Calls Tryz.prog 20 #[.slice ao L.length cap, .string x] w fun e w' => e = .returned (.tuple #[.int .i64 (tgI L (tl x)), .int .i64 (ckW L x)]) ∧ w' = w := by
  have HC := CheckNames_any ao cap L w hf
  have HT := TargetAt_any ao cap L x w hf.is hf.len
  have hW : ckW L x = if ckN L ≠ 0 then ckN L else if tgI L (tl x) < 0 then 5 else 0 := by
    unfold ckW
    by_cases h0 : ckN L = 0
    · have e0 : ¬ (ckN L ≠ 0) := by simpa using h0
      rw [if_neg e0, if_neg e0]
      rcases tgI_cases L (tl x) with ⟨h1, h2⟩ | ⟨j, hj, h1, h2, _⟩
      · have hn : ¬ (Maps.has (ndD L) (.string x.data.toList) = true) := fun e => h2 (has_mem.1 e)
        rw [if_neg hn, if_pos (by omega)]
      · have : Maps.has (ndD L) (.string x.data.toList) = true := has_mem.2 (by rw [show x.data.toList = tl x from rfl, ← h2]; exact List.mem_map.2 ⟨_, List.getElem_mem hj, rfl⟩)
        rw [if_pos this, if_neg (by omega)]
    · rw [if_pos h0, if_pos h0]
  rw [hW]
  clear hf hW
  generalize L.length = ln at *
  generalize tgI L (tl x) = z at *
  generalize ckN L = c at *
  by_cases h0 : c = 0
  · subst h0
    rw [if_neg (by simp)]
    by_cases hz : z < 0
    · rw [if_pos hz]
      go_enter Tryz.func20, Tryz.ntmps20
      go_wp2_with (first
        | (go_at_call 10; refine HC.mono ?_; rintro e w1 ⟨rfl, rfl⟩)
        | (go_at_call 17; refine HT.mono ?_; rintro e w1 ⟨rfl, rfl⟩)
        | go_in)
      go_ret2
      exact ⟨rfl, rfl⟩
    · rw [if_neg hz]
      go_enter Tryz.func20, Tryz.ntmps20
      go_wp2_with (first
        | (go_at_call 10; refine HC.mono ?_; rintro e w1 ⟨rfl, rfl⟩)
        | (go_at_call 17; refine HT.mono ?_; rintro e w1 ⟨rfl, rfl⟩)
        | go_in)
      go_ret2
      exact ⟨rfl, rfl⟩
  · rw [if_pos h0]
    have hc2 : ((c : Int) == 0) = false := by simpa using h0
    go_enter Tryz.func20, Tryz.ntmps20
    go_wp2_with (first
      | (go_at_call 10; refine HC.mono ?_; rintro e w1 ⟨rfl, rfl⟩)
      | (go_at_call 17; refine HT.mono ?_; rintro e w1 ⟨rfl, rfl⟩)
      | go_in)
    go_ret2
    exact ⟨rfl, rfl⟩
end Go.Proofs.YtankaiopdbcndaaGreatDoor
