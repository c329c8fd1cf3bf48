/- All names in their order: the walk. -/
import Derived.Test.YtankaiopdbcndaaGreatDoorTc3
namespace Go.Proofs.YtankaiopdbcndaaGreatDoor
open Go.RowKit Go.Shelf Go.Maps Go.WideMaps Go.Sort
attribute [local go_sem ↓] appG_eq2
def OrP (nf : List UInt8 → List ByteArray) (D : DataW Unit) (w : World) (e : Ending) (w' : World) : Prop := ∃ (ks : List (List UInt8)) (out : List ByteArray), ks.Nodup ∧ (∀ k, k ∈ ks ↔ Maps.has D (.string k) = true) ∧ Kn ks (ndT nf) ltK (out.map tl) ∧ (∀ k ∈ ks, k ∉ out.map tl → ¬ ∀ y ∈ ndT nf k, y ∈ out.map tl) ∧
  Below w.heap.size w w' ∧ ((out.length < ks.length ∧ e = .returned (.tuple #[.slice none 0 0, .int .i64 10])) ∨ (out.length = ks.length ∧ ∃ v, e = .returned (.tuple #[v, .int .i64 0]) ∧ w'.ownsRow w.heap.size 9 1 v out.length (out.map Value.string)))

def slN : Value → Nat
  | .slice _ n _ => n
  | _ => 0
theorem row_form {w : World} {B n : Nat} {v : Value} {xs : List Value} (h : w.ownsRow B 9 1 v n xs) : ∃ ao c, v = .slice ao n c := by
  rcases h.2 with ⟨h1, h2⟩ | ⟨g, c, cur, h1, _⟩
  · exact ⟨none, 0, by rw [h1, h2]⟩
  · exact ⟨_, _, h1⟩
theorem size_keys {w : World} {M N : Nat} {D : DataW Unit} {ks : List (List UInt8)} (h : w.ownsMap Tryz.prog 9 slE M N D) (hn : ks.Nodup) (hm : ∀ k, k ∈ ks ↔ Maps.has D (.string k) = true) : ks.length = Maps.size D := by
  have hc : Collected D (fun _ => false) ks := ⟨hn, fun x => by rw [hm]; simp⟩
  have := (hc.perm h lawS Tryz.underlying9 (fun _ => rfl)).length_eq
  obtain ⟨es, rfl, _⟩ := h.keysOf
  rw [this]
  simp [strKeys, Maps.size]

theorem row_app {w : World} {B : Nat} {v : Value} {out : List ByteArray} (h : w.ownsRow B 9 1 v out.length (out.map Value.string)) (x : ByteArray) (hB : B ≤ w.heap.size) (hl : out.length ≤ 100000000) :
    ∃ (G C : Nat) (w1 : World), (appG #[23, 23] 23 #[v, .slice (some ⟨w.heap.size, 0, none⟩) 1 1]).run Tryz.prog (w.alloc (.cells #[.string x] 9)) = .ok (.slice (some ⟨G, 0, none⟩) (out ++ [x]).length C) w1 ∧
      w1.ownsRow B 9 1 (.slice (some ⟨G, 0, none⟩) (out ++ [x]).length C) (out ++ [x]).length ((out ++ [x]).map Value.string) ∧ w.grownBy w1 v.ownBlock ∧ (v.ownBlock = some G ∨ w.heap.size ≤ G) := by
  obtain ⟨i0, hi, hz0, hz1, hz2⟩ := infoG sStrG
  obtain ⟨W, hW⟩ : ∃ W, W = w.alloc (.cells #[.string x] 9) := ⟨_, rfl⟩
  have hsz : W.heap.size = w.heap.size + 1 := by rw [hW]; exact World.size_alloc _ _
  have hbW : Below w.heap.size w W := by rw [hW]; exact (Below.refl _ w).alloc (Nat.le_refl _) _
  have hnew : W.heap[w.heap.size]? = some (.cells #[.string x] 9 (0, 0)) := by rw [hW]; exact heap_alloc_new w _
  have hrW : W.ownsRow B 9 1 v out.length (out.map Value.string) := by rw [hW]; exact h.alloc _
  obtain ⟨G, C, w1, a1, a2, a3, a4, _⟩ := run_append_lies (P := Tryz.prog) W 23 23 B 9 i0 (.string ⟨#[]⟩) 1 16 Tryz.underlying23 hi hz0 hz1 hz2 rfl (by decide) v out.length (out.map Value.string) hrW ⟨w.heap.size, 0, none⟩ 1 1 [.string x] rfl (fun j u hu => by rw [addr_add, Nat.zero_add, Lib.cell_of_heap hnew]; simpa using hu) (fun u hu => by simp at hu; subst hu; rfl) (by decide) (by unfold maxLen; omega) (by omega) (by omega) W.heap.size rfl
  have el : out.length + 1 = (out ++ [x]).length := by simp
  have em : out.map Value.string ++ [.string x] = (out ++ [x]).map Value.string := by simp
  rw [el, em] at a2
  refine ⟨G, C, w1, by rw [← hW, ← el]; exact a1, a2, ⟨a3.os.trans hbW.os, a3.tape.trans hbW.tape, a3.output.trans hbW.output, by have := a3.size; omega, fun g hg hn => (a3.block g (by omega) hn).trans (hbW.block g hg)⟩, ?_⟩
  rcases a4 with a4 | a4
  · exact .inl a4
  · exact .inr (by omega)
theorem sum_up (nf : List UInt8 → List ByteArray) (q : Nat) : ∀ ks : List (List UInt8), (∀ k ∈ ks, (nf k).length ≤ q) → (ks.map fun k => (nf k).length).sum ≤ ks.length * q
  | [], _ => Nat.zero_le _
  | k :: ks, h => by
    have h1 := sum_up nf q ks fun k hk => h k (List.mem_cons_of_mem _ hk)
    have h2 := h k List.mem_cons_self
    rw [List.map_cons, List.sum_cons, List.length_cons, Nat.add_mul, Nat.one_mul]
    omega
theorem row_at {w : World} {B : Nat} {v : Value} {l : List ByteArray} (h : w.ownsRow B 9 1 v l.length (l.map Value.string)) : l = [] ∨ ∃ g c, v = .slice (some ⟨g, 0, none⟩) l.length c ∧ B ≤ g ∧ ∀ j (hj : j < l.length), w.cell? ⟨g, j, none⟩ = some (.string l[j]) := by
  by_cases h0 : l = []
  · exact .inl h0
  · have hn : 0 < l.length := List.length_pos_iff.2 h0
    rcases h.2 with ⟨_, h1⟩ | ⟨g, c, cur, e, hb, hg, hr⟩
    · omega
    · refine .inr ⟨g, c, e, hb, fun j hj => ?_⟩
      subst e
      have := h.cells rfl j (.string l[j]) (by rw [List.getElem?_map, List.getElem?_eq_getElem hj]; rfl)
      rwa [addr_add, Nat.zero_add] at this

set_option maxHeartbeats 4000000 in
set_option maxRecDepth 100000 in
theorem order_any (M N : Nat) (D : DataW Unit) (nf : List UInt8 → List ByteArray) (lf : List UInt8 → Value) (w : World) (h : LK M N D nf lf w) (hN : Maps.size D ≤ 60) :
    Calls Tryz.prog 30 #[.map (some M)] w (OrP nf D w) := by
  have HK : Hid (LK M N D nf lf w ∧ Maps.size D ≤ 60) := ⟨h, hN⟩
  have HT := turned_any M N D nf lf w h hN
  have hmm := @run_makeMap Tryz.prog
  clear h hN
  go_enter Tryz.func30, Tryz.ntmps30
  go_wp2_with (first
    | (go_at_call 36; refine HT.mono ?_; rintro e w1 ⟨M2, n2, vf, D2, ks, rfl, t1, t2, t3, t4, t5⟩; have HU : Hid (ML w.heap.size M2 n2 (usF nf ks) vf D2 w1 ∧ ks.Nodup ∧ (∀ k, k ∈ ks ↔ Maps.has D (.string k) = true) ∧ n2 ≤ 60 * 1048576 ∧ Below w.heap.size w w1) := ⟨t1, t2, t3, t4, t5⟩; have hownM := ((omapG HK.out.1.own (t5.block M HK.out.1.own.lt)).alloc (.map #[] 0)).alloc (.cells #[.slice none 0 0] 81); clear t1 t2 t3 t4 t5 HT)
    | (at_range; refine wpList_range_own _ rfl _ 53 rfl 9 23 lawS Tryz.underlying53 _ M _ _ rfl hownM ?_; intro w0 hrg0 hg0 hs0)
    | go_in)
  go_frame
  obtain ⟨A, hA⟩ : ∃ A, A = w1.heap.size := ⟨_, rfl⟩
  obtain ⟨b, hb⟩ : ∃ b, b = (w1.alloc (.map #[] 0)).heap.size := ⟨_, rfl⟩
  obtain ⟨R, hR⟩ : ∃ R, R = ((w1.alloc (.map #[] 0)).alloc (.cells #[.slice none 0 0] 81)).heap.size := ⟨_, rfl⟩
  have hb1 : b = A + 1 := by rw [hb, hA]; exact World.size_alloc _ _
  have hR1 : R = b + 1 := by rw [hR, hb]; exact World.size_alloc _ _
  have H0 : Hid (O1 w0.heap.size A b R M N D nf w0 w0 [] 0 (fun _ => 0) (.slice none 0 0) [] (Maps.has D) (Maps.size D) ∧ Below w.heap.size w w0 ∧ ML w.heap.size M2 n2 (usF nf ks) vf D2 w0) := by
    have hK := HK.out
    have hU := HU.out
    have hMl := hK.1.own.lt
    have hsz := hU.2.2.2.2.size
    have hRl : R < w0.heap.size := by have := hrg0.lt; omega
    have hgb : ∀ g, g < R → w0.heap[g]? = ((w1.alloc (.map #[] 0)).alloc (.cells #[.slice none 0 0] 81)).heap[g]? := fun g hg => hg0.block g (by omega) (by simp)
    have hold : ∀ g, g < A → w0.heap[g]? = w1.heap[g]? := fun g hg => by
      rw [hgb g (by omega)]
      exact (((Below.refl _ w1).alloc (Nat.le_refl _) _).alloc (by rw [World.size_alloc]; omega) _).block g (by omega)
    refine ⟨⟨⟨?_, ⟨⟨?_, World.ownsRow_nil _ _ _ _⟩, fun k h1 h2 => by simp at h2⟩, rfl, rfl, rfl, Nat.le_refl _, fun _ _ _ _ _ => rfl, by omega, by omega, by omega⟩, by rw [hR]; exact hrg0, List.nodup_nil, fun k hk => by rw [hk]; simp, fun k hk => by simp at hk, by simp; exact hK.2, ⟨fun k => by simp, List.nodup_nil, fun k hk => by simp at hk⟩, Nat.le_refl _, ⟨by omega, by omega, by omega⟩, ⟨hRl, by omega, by omega⟩⟩, ?_, ?_⟩
    · rw [hA]
      refine (NM.made w1).keep ?_
      rw [hgb _ (by omega)]
      exact ((Below.refl _ (w1.alloc (.map #[] 0))).alloc (Nat.le_refl _) _).block _ (by rw [World.size_alloc]; omega)
    · rw [hgb b (by omega), hb]
      exact heap_alloc_new _ _
    · have hb5 := hU.2.2.2.2
      exact ⟨hg0.os.trans hb5.os, hg0.tape.trans hb5.tape, hg0.output.trans hb5.output, by omega, fun g hg => (hold g (by omega)).trans (hb5.block g hg)⟩
    · refine hU.1.keep fun g hg => hold g ?_
      rcases hg with rfl | ⟨k, hk, hk2⟩
      · have := hU.1.own.lt; omega
      · have := ((hU.1.row k hk).lt g hk2).2; omega
  obtain ⟨B, hB⟩ : ∃ B, w0.heap.size = B := ⟨_, rfl⟩
  rw [hB] at H0
  rw [← hA, ← hb1, ← hR]
  have HA : Hid (w.heap.size ≤ A ∧ A < b ∧ b < R ∧ M < w.heap.size) := ⟨by rw [hA]; exact HU.out.2.2.2.2.size, by omega, by omega, HK.out.1.own.lt⟩
  have HA2 : Hid (∀ g, MLS M2 (usF nf ks) vf g → g < A) := fun g hg => by
    rw [hA]
    rcases hg with rfl | ⟨k, hk, hk2⟩
    · exact HU.out.1.own.lt
    · exact ((HU.out.1.row k hk).lt g hk2).2
  clear hrg0 hg0 hs0 hownM hb hR hA hb1 hR1
  go_loopw [7] (fun _ wr => ∃ k1 n aw v L left cnt, Hid (O1 B A b R M N D nf w0 wr k1 n aw v L left cnt)) (fun _ wr => wr.rangeLeft M R)
  case atStart => exact ⟨[], _, _, _, _, _, _, H0.out.1⟩
  case round =>
    obtain ⟨k1, n, aw, v, L, left, cnt, HI⟩ := hrel
    have hrg := HI.out.rg
    go_wp2_with (first
      | (at_next; refine wpList_next_ranges _ rfl _ rfl 9 lawS slE encStr (fun u : Value => u) invKG invSl M R _ _ _ _ rfl hrg ?_ ?_)
      | go_in)
    · intro hc0 hl0
      have HKs : Hid (k1.Nodup ∧ ∀ k, k ∈ k1 ↔ Maps.has D (.string k) = true) := ⟨HI.out.nd, fun k => ⟨HI.out.sub k, fun hk => (HI.out.mem k hk).2 (hl0 _)⟩⟩
      have H2 : Hid (O2 B A b R nf w0 wr k1 n aw v L (.slice none 0 0) [] [] ∧ n ≤ 60 + 0 * (60 * 1048576)) := ⟨⟨HI.out.os, HI.out.pi.all, .nil, World.ownsRow_nil _ _ _ _, fun g h => by cases h⟩, by have := HI.out.nn; have := HI.out.szk; rw [Nat.zero_mul]; omega⟩
      clear hc0 hl0 hrg HI
      go_wp2
      obtain ⟨wp, hwp⟩ : ∃ wp, wp = wr := ⟨wr, rfl⟩
      rw [← hwp] at H2 ⊢
      clear hwp
      go_loopw [9] (fun vo wr => ∃ n aw v L out, Hid (O2 B A b R nf w0 wr k1 n aw v L vo out [] ∧ n ≤ 60 + out.length * (60 * 1048576))) (fun vo _ => k1.length - slN vo)
      case atStart => exact ⟨_, _, _, _, [], H2⟩
      case round =>
        obtain ⟨n, aw, v, L, out, HO⟩ := hrel
        have HBel : Hid (Below w.heap.size w wr) := by
          have hA := HA.out
          have ho := HO.out.1.os
          have hb := H0.out.2.1
          have := ho.aB
          exact ⟨ho.os.trans hb.os, ho.tape.trans hb.tape, ho.output.trans hb.output, by have := ho.size; omega, fun g hg => (ho.kept g (by omega) (by omega) (by omega) (by omega)).trans (hb.block g hg)⟩
        have hcell := HO.out.1.os.hp.rd.cell
        obtain ⟨ao, c, rfl⟩ := row_form HO.out.1.os.hp.rd.row
        have HLe := Len_any ao L.length c wr
        obtain ⟨ao2, c2, rfl⟩ := row_form HO.out.1.row
        have hkl := HO.out.1.ki.len
        rw [List.length_map, List.length_map] at hkl
        have hMo := omapG HK.out.1.own (HBel.out.block M HA.out.2.2.2)
        have hlen := fun ty => hMo.len Tryz.underlying53 ty
        have hks := size_keys hMo HKs.out.1 HKs.out.2
        by_cases h0 : L.length = 0
        · obtain rfl := List.length_eq_zero_iff.1 h0
          have HE : Hid (∀ e, ((out.length < k1.length ∧ e = .returned (.tuple #[.slice none 0 0, .int .i64 10])) ∨ (out.length = k1.length ∧ e = .returned (.tuple #[.slice ao2 out.length c2, .int .i64 0]))) → OrP nf D w e wr) := fun e he => by
            refine ⟨k1, out, HKs.out.1, HKs.out.2, HO.out.1.kn, HO.out.1.ki.stop, HBel.out, he.imp id fun ⟨h1, h2⟩ => ⟨h1, _, h2, ?_⟩⟩
            have := HO.out.1.row
            refine ⟨this.1, ?_⟩
            rcases this.2 with h2 | ⟨g, cap, cur, e, hb2, hg, r⟩
            · exact .inl h2
            · exact .inr ⟨g, cap, cur, e, by have := HA.out.1; have := HO.out.1.os.aB; omega, hg, r⟩
          rw [← hks] at hlen
          clear hMo hks HK HU H0 H2 HO HBel HA
          generalize out.length = lo at *
          by_cases hlo : lo < k1.length
          · have hl1 : (lo : Int) < (k1.length : Int) := by omega
            go_wp2_with (first
              | (go_at_call 53; refine HLe.mono ?_; rintro e w9 ⟨rfl, rfl⟩)
              | go_in)
            go_ret2
            exact HE.out _ (.inl ⟨hlo, rfl⟩)
          · have hl1 : ¬ (lo : Int) < (k1.length : Int) := by omega
            go_wp2_with (first
              | (go_at_call 53; refine HLe.mono ?_; rintro e w9 ⟨rfl, rfl⟩)
              | go_in)
            go_ret2
            exact HE.out _ (.inr ⟨by simp at hkl; omega, rfl⟩)
        · have h0' : 0 < L.length := by omega
          have hl60 : k1.length ≤ 60 := by rw [hks]; exact HK.out.2
          have HPo := HPop_any B b _ L wr HO.out.1.os.hp h0' (by omega)
          have hxk : tl (L.getD 0 default) ∈ k1 := HO.out.1.ki.sub _ (List.mem_append_right _ (List.mem_map_of_mem ((pop_perm nlt L h0').mem_iff.1 List.mem_cons_self)))
          have hxs : (L.getD 0 default).size ≤ maxLen := by
            have := HK.out.1.ks _ ((HKs.out.2 _).1 hxk)
            simpa [tl] using this
          have HTk : Hid (∀ v2 w2, HpAt B b v2 (popH nlt L) w2 → NewB (.slice ao L.length c) v2 wr → Oth (RdS b (.slice ao L.length c)) wr w2 → ∃ G C w3, (appG #[23, 23] 23 #[.slice ao2 out.length c2, .slice (some ⟨w2.heap.size, 0, none⟩) 1 1]).run Tryz.prog (w2.alloc (.cells #[.string (L.getD 0 default)] 9)) = .ok (.slice (some ⟨G, 0, none⟩) (out ++ [L.getD 0 default]).length C) w3 ∧ O2 B A b R nf w0 w3 k1 n aw v2 (popH nlt L) (.slice (some ⟨G, 0, none⟩) (out ++ [L.getD 0 default]).length C) (out ++ [L.getD 0 default]) ((usF nf ks (tl (L.getD 0 default))).map tl)) := fun v2 w2 q1 q2 q3 => by
            obtain ⟨t1, t2, t3⟩ := HO.out.1.take q1 q2 q3
            obtain ⟨G, C, w3, p1, p2, p3, p4⟩ := row_app t2 (L.getD 0 default) t1.size (by omega)
            refine ⟨G, C, w3, p1, HO.out.1.pop h0' t1 t3 t2 p3 p2 (fun g hg => ?_) (fun k hk => usF_count nf _ ks HU.out.2.1 k ((HU.out.2.2.1 k).2 ((HKs.out.2 k).1 hk)))⟩
            have : G = g := by simpa [Value.ownBlock] using hg
            subst this
            exact p4
          have HMl : Hid (∀ w3 n aw v L vo out r, O2 B A b R nf w0 w3 k1 n aw v L vo out r → ML w.heap.size M2 n2 (usF nf ks) vf D2 w3) := fun w3 n aw v L vo out r h3 => H0.out.2.2.keep fun g hg => by
            have h1 := HA2.out g hg
            have h2 := HA.out
            have h4 := h3.os.aB
            exact h3.os.kept g (by omega) (by omega) (by omega) (by omega)
          have HMS : Hid (out.length < k1.length) := by show _ < _; omega
          have hul : Hid ((usF nf ks (tl (L.getD 0 default))).length ≤ 60 * 1048576) := by
            have h1 := usF_len nf (tl (L.getD 0 default)) ks
            have h2 := sum_up nf 1048576 ks fun k hk => (HK.out.1.tx k ((HU.out.2.2.1 k).1 hk)).2.1
            have h3 : ks.length ≤ 60 := by rw [size_keys HK.out.1.own HU.out.2.1 HU.out.2.2.1]; exact HK.out.2
            exact Nat.le_trans h1 (Nat.le_trans h2 (Nat.mul_le_mul_right 1048576 h3))
          have HN : Hid (n ≤ 60 + out.length * (60 * 1048576)) := HO.out.2
          have hLg : (0 : Int) < (L.length : Int) := by omega
          have hLx : (L.length : Int) ≤ 60 := by omega
          have hox : (out.length : Int) ≤ 60 := by omega
          generalize L.getD 0 default = x at *
          have hta := ta_str x
          have el : (out ++ [x]).length = out.length + 1 := by simp
          clear hMo hlen hks hkl h0 h0' HO H2 HBel
          go_wp2_with (first
            | (go_at_call 53; refine HLe.mono ?_; rintro e w9 ⟨rfl, rfl⟩)
            | (go_at_call 54; refine HPo.mono ?_; rintro e w2 ⟨rfl, v2, q1, q2, q3⟩; obtain ⟨G, C, w3, hap, ho3⟩ := HTk.out v2 w2 q1 q2 q3; have H3 : Hid (O2 B A b R nf w0 w3 k1 n aw v2 (popH nlt L) (.slice (some ⟨G, 0, none⟩) (out ++ [x]).length C) (out ++ [x]) ((usF nf ks (tl x)).map tl)) := ho3; have hlk := (HMl.out _ _ _ _ _ _ _ _ ho3).look x hxs; clear q1 q2 q3 ho3; obtain ⟨ul, hul2⟩ : ∃ ul, usF nf ks (tl x) = ul := ⟨_, rfl⟩; have hrw := (HMl.out _ _ _ _ _ _ _ _ H3.out).lrow (tl x); rw [hul2] at hrw H3 hul; obtain ⟨ao3, c3, hlv⟩ := row_form hrw; change _ = Result.ok (lkV (usF nf ks) vf (tl x)) _ at hlk; have HRw : Hid (w3.ownsRow w.heap.size 9 1 (lkV (usF nf ks) vf (tl x)) ul.length (ul.map Value.string) ∧ lkV (usF nf ks) vf (tl x) = .slice ao3 ul.length c3 ∧ usF nf ks (tl x) = ul) := ⟨hrw, hlv, hul2⟩; rw [hlv] at hlk; clear hrw hlv hul2; rw [el] at hap)
            | go_in)
          obtain ⟨wo, rfl⟩ : ∃ wo, wo = wr := ⟨wr, rfl⟩
          have HUL : Hid (ul.length ≤ 60 * 1048576) := hul
          have hul1 : (ul.length : Int) ≤ 62914560 := by have := HUL.out; omega
          have HKy : Hid (∀ y ∈ ul, tl y ∈ k1 ∧ y.size ≤ maxLen ∧ (nf (tl y)).length ≤ 1048576) := fun y hy => by
            have h1 := usF_mem nf (tl x) ks y (by rw [HRw.out.2.2]; exact hy)
            have h2 := (HU.out.2.2.1 _).1 h1
            exact ⟨(HKs.out.2 _).2 h2, by have := HK.out.1.ks _ h2; simpa [tl] using this, (HK.out.1.tx _ h2).2.1⟩
          clear hap hlk hul hta HTk HPo HLe
          go_loopw [48] (fun u wr => ∃ (j n : Nat) (aw : List UInt8 → Int) (v : Value) (L : List ByteArray), j ≤ ul.length ∧ u = .int .i64 (j : Int) ∧ Hid (O2 B A b R nf w0 wr k1 n aw v L (.slice (some ⟨G, 0, none⟩) (out ++ [x]).length C) (out ++ [x]) ((ul.drop j).map tl) ∧ n ≤ 60 + out.length * (60 * 1048576) + j)) (fun u _ => ul.length - (intOf u).toNat)
          case atStart => exact ⟨0, n, aw, v2, _, Nat.zero_le _, rfl, ⟨H3.out, by rw [Nat.add_zero]; exact HN.out⟩⟩
          case round =>
            obtain ⟨j, n, aw, v, L, hj, rfl, HJ⟩ := hrel
            by_cases hjl : j < ul.length
            · have hjj : (j : Int) < (ul.length : Int) := by omega
              have hrow := (HMl.out _ _ _ _ _ _ _ _ HJ.out.1).lrow (tl x)
              rw [HRw.out.2.1, HRw.out.2.2] at hrow
              rcases row_at hrow with h | ⟨g, c4, e4, _, hcc⟩
              · exfalso; rw [h] at hjl; exact absurd hjl (by simp)
              injection e4 with e4 e6 e5
              subst e4
              subst e5
              clear e6
              have c0 := hcc j hjl
              obtain ⟨hy1, hy2, hy3⟩ := HKy.out _ (List.getElem_mem hjl)
              have hO : O2 B A b R nf w0 wr k1 n aw v L (.slice (some ⟨G, 0, none⟩) (out ++ [x]).length C) (out ++ [x]) (tl ul[j] :: (ul.drop (j + 1)).map tl) := by
                have := HJ.out.1
                rwa [List.drop_eq_getElem_cons hjl, List.map_cons] at this
              obtain ⟨y, hy⟩ : ∃ y, ul[j] = y := ⟨_, rfl⟩
              rw [hy] at hO c0 hy1 hy2 hy3
              obtain ⟨r, hr⟩ : ∃ r, (ul.drop (j + 1)).map tl = r := ⟨_, rfl⟩
              have hrl : r.length ≤ 60 * 1048576 := by
                have := HUL.out
                rw [← hr, List.length_map, List.length_drop]
                exact Nat.le_trans (Nat.sub_le _ _) this
              rw [hr] at hO
              have hge := (hO.ki.tell hy1).1
              have hle : aw (tl y) ≤ 70000000 := by
                have h1 := hO.ki.awt _ hy1
                have h2 : lft (ndT nf) ((out ++ [x]).map tl) (tl y) ≤ 1048576 := Nat.le_trans (List.length_filter_le _ _) (by rw [ndT, List.length_map]; exact hy3)
                have h3 := List.count_le_length (a := tl y) (l := tl y :: r)
                rw [cnt_inst] at h1
                simp only [List.length_cons] at h3
                omega
              have hnb : n < maxLen := by
                have h1 := HJ.out.2
                have h2 := HUL.out
                have h3 : out.length * (60 * 1048576) ≤ 60 * (60 * 1048576) := Nat.mul_le_mul_right _ (by omega)
                refine Nat.lt_of_le_of_lt (Nat.le_trans h1 (Nat.add_le_add (Nat.add_le_add_left h3 60) (Nat.le_trans hj h2))) (by decide)
              have hl1 : (Instr.lookup 67 (.map (some A)) (.string y) false).run Tryz.prog wr = .ok (.int .i64 (aw (tl y))) wr := hO.os.nm.look y hy2
              obtain ⟨w5, hput, hn5, hg5⟩ := hO.os.nm.put y (aw (tl y) - 1) hy2 hnb (by omega)
              have hl2 : (Instr.lookup 67 (.map (some A)) (.string y) false).run Tryz.prog w5 = .ok (.int .i64 (aw (tl y) - 1)) w5 := by
                have := hn5.look y hy2
                rw [this]
                simp [updI, tl]
              have hn6 : NM A (n + 1) (updI aw (tl y) (aw (tl y) - 1)) w5 := hn5
              have HNn : Hid (n + 1 ≤ 60 + out.length * (60 * 1048576) + (j + 1)) := by
                rw [← Nat.add_assoc (60 + out.length * (60 * 1048576))]
                exact Nat.add_le_add_right HJ.out.2 1
              have HR : Hid ((ul.drop (j + 1)).map tl = r) := hr
              by_cases hz : aw (tl y) - 1 = 0
              · have hO5 := hO.os.put hn6 hg5
                have HPu := HPush_any B b v L y w5 hO5.hp hO5.size (by have := hO.ki.len; rw [List.length_map, List.length_map] at this; omega)
                have HF : Hid (∀ v2 L2 w6, HpAt B b v2 L2 w6 → L2.Perm (y :: L) → NewB v v2 w5 → Oth (RdS b v) w5 w6 → O2 B A b R nf w0 w6 k1 (n + 1) (updI aw (tl y) (aw (tl y) - 1)) v2 L2 (.slice (some ⟨G, 0, none⟩) (out ++ [x]).length C) (out ++ [x]) r) := fun v2 L2 w6 q1 q2 q3 q4 => hO.push hy1 hz hn6 hg5 q1 (by rw [bN_tl]; exact q2) q3 q4
                have ha1 : aw (tl y) = 1 := by omega
                have HAw : Hid (aw (tl y) = 1) := ha1
                have e11 : (1 : Int) - 1 = 0 := rfl
                rw [ha1] at hl1 hl2 hput
                rw [e11] at hl2 hput
                clear e11
                clear hrow hcc hy1 hy2 hy3 hO hy hr hrl hge hle hnb hn5 hn6 hg5 hz hO5 ha1 HJ H3
                go_wp2_with (first
                  | (go_at_call 52; refine HPu.mono ?_; rintro e w6 ⟨rfl, v3, L3, q1, q2, q3, q4⟩; have HE := HF.out v3 L3 w6 q1 q2 q3 q4; clear q1 q2 q3 q4)
                  | go_in)
                refine ⟨⟨j + 1, n + 1, _, v3, L3, by omega, by go_num, ⟨by rw [HR.out]; exact HE, HNn.out⟩⟩, ?_⟩
                simp [intOf]
                omega
              · have HE : Hid (O2 B A b R nf w0 w5 k1 (n + 1) (updI aw (tl y) (aw (tl y) - 1)) v L (.slice (some ⟨G, 0, none⟩) (out ++ [x]).length C) (out ++ [x]) r) := hO.tell hy1 hz hn6 hg5
                clear hrow hcc hy1 hy2 hy3 hO hy hr hrl hnb hn5 hn6 hg5 HJ H3
                generalize updI aw (tl y) (aw (tl y) - 1) = aw2 at *
                generalize aw (tl y) = a at *
                go_wp2
                refine ⟨⟨j + 1, n + 1, aw2, v, L, by omega, by go_num, ⟨by rw [HR.out]; exact HE.out, HNn.out⟩⟩, ?_⟩
                simp [intOf]
                omega
            · obtain rfl : j = ul.length := by omega
              have HE : Hid (O2 B A b R nf w0 wr k1 n aw v L (.slice (some ⟨G, 0, none⟩) (out ++ [x]).length C) (out ++ [x]) [] ∧ n ≤ 60 + (out ++ [x]).length * (60 * 1048576)) := by
                have hJ := HJ.out
                rw [List.drop_length] at hJ
                refine ⟨hJ.1, Nat.le_trans hJ.2 ?_⟩
                rw [el, Nat.add_mul, Nat.one_mul, Nat.add_assoc]
                exact Nat.add_le_add_left (Nat.add_le_add_left HUL.out _) _
              rw [el] at HE
              clear HJ H3
              go_wp2
              refine ⟨⟨n, aw, v, L, out ++ [x], by rw [el]; exact HE⟩, ?_⟩
              have := HMS.out
              simp [slN]
              omega
    · intro x u kl yd yp w2 cnt2 hkey hlk hv hat hrg2 hlt hg2 hs2 hen
      obtain ⟨x', ex, rfl, hxl⟩ := Maps.keyOf_str Tryz.underlying9 hkey
      obtain rfl := encStr_inj ex
      have hhas := has_of_at hat
      have hK := HK.out.1
      obtain ⟨hsl, hln, ao, c, he, hmem⟩ := hK.tx _ hhas
      have hu : u = lf x := by
        have e1 := hK.get _ hhas .nil
        rw [hat] at e1
        subst e1
        exact slE_inj hv (slE_is hsl)
      rw [he] at hu
      subst hu
      have hes : encStr x = .string (bN x) := rfl
      rw [hes] at hen ⊢
      have hxs : (bN x).size ≤ maxLen := by have := hK.ks _ hhas; show x.toArray.size ≤ maxLen; simpa using this
      have hO2 := HI.out.os.rng hg2 HI.out.neR
      obtain ⟨w3, hput, hn3, hg3⟩ := hO2.nm.put (bN x) ((nf x).length : Int) hxs (by have := HI.out.nn; have := HI.out.szk; unfold maxLen; omega) (by omega)
      have ebN : (bN x).data.toList = x := by simp [bN]
      rw [ebN] at hn3
      have HMS : Hid (cnt2 < cnt ∧ wr.rangeLeft M R = cnt) := ⟨hlt, hrg.left_eq⟩
      have hln1 : ((nf x).length : Int) ≤ 1048576 := by omega
      have hr3 := ranges_heap hrg2 (hg3.block M hrg2.owns.lt (fun e => HI.out.neM.2.1 (by injection e))) (hg3.block R hrg2.lt (fun e => HI.out.neR.2.1 (by injection e)))
      by_cases h0 : nf x = []
      · have hO3 := hO2.put hn3 hg3
        have HPu := HPush_any B b v L (bN x) w3 hO3.hp hO3.size (by have := HI.out.len; omega)
        have HF : Hid (∀ v2 L2 w4, HpAt B b v2 L2 w4 → L2.Perm (bN x :: L) → Oth (RdS b v) w3 w4 → O1 B A b R M N D nf w0 w4 (x :: k1) (n + 1) (updI aw x ((nf x).length : Int)) v2 L2 (fun z => left z && !z.sameKey (.string x)) cnt2) := fun v2 L2 w4 q1 q2 q3 => HI.out.push hhas hlk hlt hrg2 hg2 hn3 hg3 h0 q1 q2 q3
        have HL : Hid ((nf x).length = 0) := by rw [h0]; rfl
        have hz : (nf x).length = 0 := HL.out
        have e0 : ((0 : Nat) : Int) = 0 := rfl
        rw [hz] at hput hln1 hen ⊢
        rw [e0] at hput
        clear hkey ex hv hat hrg2 hlt hg2 hs2 hlk hhas hK hsl hln he hmem hxl hes hrg hxs hO2 hO3 hn3 hg3 hr3 h0 ebN hz HI
        go_wp2_with (first
          | (go_at_call 52; refine HPu.mono ?_; rintro e w4 ⟨rfl, v2, L2, q1, q2, q3, q4⟩; have HE := HF.out v2 L2 w4 q1 q2 q4; clear q1 q2 q3 q4)
          | go_in)
        refine ⟨⟨x :: k1, _, _, _, _, _, _, HE⟩, ?_⟩
        rw [HE.rg.left_eq, HMS.out.2]
        exact HMS.out.1
      · have HE : Hid (O1 B A b R M N D nf w0 w3 (x :: k1) (n + 1) (updI aw x ((nf x).length : Int)) v L (fun z => left z && !z.sameKey (.string x)) cnt2) := HI.out.more hhas hlk hlt hrg2 hg2 hn3 hg3 h0
        have hnz : ¬ ((nf x).length : Int) = 0 := fun e => h0 (List.length_eq_zero_iff.1 (by omega))
        clear hkey ex hv hat hrg2 hlt hg2 hs2 hlk hhas hK hsl hln he hmem hxl hes hrg hxs hO2 hn3 hg3 hr3 h0 ebN HI
        generalize (nf x).length = ln at *
        go_wp2
        refine ⟨⟨x :: k1, _, _, _, _, _, _, HE⟩, ?_⟩
        rw [HE.out.rg.left_eq, HMS.out.2]
        exact HMS.out.1
end Go.Proofs.YtankaiopdbcndaaGreatDoor

/- The links that needsOf makes, as links. -/
namespace Go.Proofs.YtankaiopdbcndaaGreatDoor
open Go.RowKit Go.Shelf Go.Maps Go.WideMaps
/-- The last target of a name. -/
def tgF (L : List Tg) (k : List UInt8) : Option Tg := L.foldl (fun o t => if tnm t = k then some t else o) none
theorem tgF_snoc (L : List Tg) (t : Tg) (k : List UInt8) : tgF (L ++ [t]) k = if tnm t = k then some t else tgF L k := by simp [tgF, List.foldl_append]
theorem tgF_spec (L : List Tg) (k : List UInt8) : (∀ t, tgF L k = some t → t ∈ L ∧ tnm t = k ∧ ∀ z, (ndD L).atKey (.string k) z = tD t) ∧ (tgF L k = none → Maps.has (ndD L) (.string k) = false) := by
  refine snocInd (P := fun L => (∀ t, tgF L k = some t → t ∈ L ∧ tnm t = k ∧ ∀ z, (ndD L).atKey (.string k) z = tD t) ∧ (tgF L k = none → Maps.has (ndD L) (.string k) = false)) ⟨fun t h => by simp [tgF] at h, fun _ => rfl⟩ (fun l a ih => ?_) L
  rw [tgF_snoc, ndD_snoc]
  by_cases e : tnm a = k
  · rw [if_pos e]
    refine ⟨fun t h => ?_, fun h => by cases h⟩
    injection h with h
    subst h
    refine ⟨by simp, e, fun z => ?_⟩
    rw [e]
    exact atKey_put_same (ndD_tidy l).isMap (by exact trivial) _ _
  · rw [if_neg e]
    refine ⟨fun t h => ?_, fun h => ?_⟩
    · obtain ⟨h1, h2, h3⟩ := ih.1 t h
      refine ⟨by simp [h1], h2, fun z => ?_⟩
      rw [atKey_put_other (fun e2 => e (by injection e2 with e2; exact e2.symm))]
      exact h3 z
    · rw [has_put_other (fun e2 => e (by injection e2 with e2; exact e2.symm))]
      exact ih.2 h
def nfL (L : List Tg) (k : List UInt8) : List ByteArray := ((tgF L k).map (·.ns)).getD []
def lfL (L : List Tg) (k : List UInt8) : Value := ((tgF L k).map (·.vn)).getD (.slice none 0 0)
theorem lk_of {L : List Tg} {M n : Nat} {w : World} (h : w.ownsMap Tryz.prog 9 slE M n (ndD L)) (ht : ∀ t ∈ L, TxIn w t.vn t.ns) (hs : ∀ t ∈ L, ∀ y ∈ t.ns, y.size ≤ maxLen) (hk : ∀ t ∈ L, (tnm t).length ≤ maxLen) : LK M n (ndD L) (nfL L) (lfL L) w := by
  have key : ∀ k, Maps.has (ndD L) (.string k) = true → ∃ t, tgF L k = some t ∧ t ∈ L ∧ tnm t = k ∧ ∀ z, (ndD L).atKey (.string k) z = tD t := fun k hk => by
    obtain ⟨h1, h2⟩ := tgF_spec L k
    cases e : tgF L k with
    | none => rw [h2 e] at hk; cases hk
    | some t => exact ⟨t, rfl, h1 t e⟩
  refine ⟨h, fun k hk z => ?_, fun k hk => ?_, fun k hk => ?_, fun k hk2 => ?_⟩
  · obtain ⟨t, e, _, _, h4⟩ := key k hk
    rw [h4, lfL, e]
    rfl
  · obtain ⟨t, e, h2, _, _⟩ := key k hk
    rw [lfL, nfL, e]
    exact ht t h2
  · obtain ⟨t, e, h2, _, _⟩ := key k hk
    rw [nfL, e]
    exact hs t h2
  · obtain ⟨t, e, h2, h3, _⟩ := key k hk2
    rw [← h3]
    exact hk t h2
end Go.Proofs.YtankaiopdbcndaaGreatDoor

/- Order of targets: the walk of what is called from outside. -/
namespace Go.Proofs.YtankaiopdbcndaaGreatDoor
open Go.RowKit Go.Shelf Go.Maps Go.WideMaps
/-- How Order ends: names that are wrong tell so; or all as order does. -/
def OdP (L : List Tg) (w : World) (e : Ending) (w' : World) : Prop := (ckN L ≠ 0 ∧ e = .returned (.tuple #[.slice none 0 0, .int .i64 (ckN L)]) ∧ Below w.heap.size w w') ∨ (ckN L = 0 ∧ ∃ w1, Below w.heap.size w w1 ∧ OrP (nfL L) (ndD L) w1 e w')

set_option maxHeartbeats 4000000 in
set_option maxRecDepth 100000 in
theorem Order_any (ao : Option Addr) (cap : Nat) (L : List Tg) (w : World) (hl : IsTg w ao L) (hn : L.length ≤ 1048576) (hs : ∀ t ∈ L, ∀ y ∈ t.ns, y.size ≤ maxLen) (hk : ∀ t ∈ L, (tnm t).length ≤ maxLen) :
    Calls Tryz.prog 9 #[.slice ao L.length cap] w (OdP L w) := by
  have H1 := needsOf_any ao cap L w hl hn hs
  have HL : Hid (∀ M n w1, w1.ownsMap Tryz.prog 9 slE M n (ndD L) → Below w.heap.size w w1 → LK M n (ndD L) (nfL L) (lfL L) w1) := fun M n w1 h1 h2 => lk_of h1 (fun t ht => ((hl.tx t ht).2.1).below h2 (Nat.le_refl _)) hs hk
  have HP : Hid (∀ e w', OdP L w e w' ↔ ((ckN L ≠ 0 ∧ e = .returned (.tuple #[.slice none 0 0, .int .i64 (ckN L)]) ∧ Below w.heap.size w w') ∨ (ckN L = 0 ∧ ∃ w1, Below w.heap.size w w1 ∧ OrP (nfL L) (ndD L) w1 e w'))) := fun e w' => Iff.rfl
  clear hl hn hs hk
  generalize L.length = ln at *
  unfold NdP at H1
  by_cases h0 : ckN L = 0
  · go_enter Tryz.func9, Tryz.ntmps9
    go_wp2_with (first
      | (go_at_call 29; refine H1.mono ?_; rintro e w1 ⟨mo, rfl, g1, g2, g3⟩; obtain ⟨M, n, rfl, g4, g5, g6⟩ := g2 h0; rw [h0]; have H2 := order_any M n _ _ _ w1 (HL.out M n w1 g6 g3) (Nat.le_trans g6.size_le g5); have H3 : Hid (Below w.heap.size w w1) := g3; clear g1 g2 g3 g4 g5 g6 H1)
      | (go_at_call 30; refine H2.mono ?_; rintro e w2 hO; have H4 : Hid (OrP (nfL L) (ndD L) w1 e w2) := hO; obtain ⟨a1, a2, he⟩ : ∃ a1 a2, e = .returned (.tuple #[a1, a2]) := (by obtain ⟨_, _, _, _, _, _, _, h | ⟨_, _, h, _⟩⟩ := hO; exact ⟨_, _, h.2⟩; exact ⟨_, _, h⟩); subst he; clear hO)
      | go_in)
    go_ret2
    exact (HP.out _ _).2 (.inr ⟨h0, w1, H3.out, H4.out⟩)
  · have HC : Hid (ckN L ≠ 0) := h0
    generalize ckN L = c at *
    have hc1 : ¬(c : Int) = 0 := h0
    go_enter Tryz.func9, Tryz.ntmps9
    go_wp2_with (first
      | (go_at_call 29; refine H1.mono ?_; rintro e w1 ⟨mo, rfl, g1, g2, g3⟩; have HB : Hid (Below w.heap.size w w1) := g3; clear g1 g2 g3 H1)
      | go_in)
    go_ret2
    exact (HP.out _ _).2 (.inl ⟨HC.out, rfl, HB.out⟩)
end Go.Proofs.YtankaiopdbcndaaGreatDoor

/- Where one comes from names on, plain; and that an order is the only one. -/
namespace Go.Proofs.YtankaiopdbcndaaGreatDoor
section
variable {α : Type}
/-- One comes to k from the names S on. -/
def Rs (nd : α → List α) (S : α → Prop) (k : α) : Prop := ∀ V : α → Prop, (∀ x, S x → V x) → (∀ a, V a → ∀ y ∈ nd a, V y) → V k
theorem Rs.base {nd : α → List α} {S : α → Prop} {x : α} (h : S x) : Rs nd S x := fun _ h1 _ => h1 x h
theorem Rs.step {nd : α → List α} {S : α → Prop} {a y : α} (h : Rs nd S a) (hy : y ∈ nd a) : Rs nd S y := fun V h1 h2 => h2 a (h V h1 h2) y hy
theorem Rs.mono {nd : α → List α} {S T : α → Prop} {k : α} (h : Rs nd S k) (hs : ∀ x, S x → Rs nd T x) : Rs nd T k := h (Rs nd T) hs fun _ ha _ hy => Rs.step ha hy
theorem Rs.congr {nd nd2 : α → List α} {S T : α → Prop} {k : α} (h : Rs nd S k) (hs : ∀ x, S x → T x) (hn : ∀ a, Rs nd2 T a → ∀ y ∈ nd a, y ∈ nd2 a) : Rs nd2 T k := h (Rs nd2 T) (fun x hx => Rs.base (hs x hx)) fun a ha y hy => Rs.step ha (hn a ha y hy)
/-- What a walk from x on does to those that are there. -/
structure Wlk (nd : α → List α) (V : α → Prop) (x : α) (V2 : α → Prop) : Prop where
  up : ∀ k, V k → V2 k
  got : V2 x
  all : ∀ k, V2 k → V k ∨ ∀ y ∈ nd k, V2 y
  rch : ∀ k, V2 k → V k ∨ Rs nd (fun j => j = x) k
theorem Wlk.old {nd : α → List α} {V : α → Prop} {x : α} (h : V x) : Wlk nd V x V := ⟨fun _ h => h, h, fun _ h => .inl h, fun _ h => .inl h⟩
/-- While those that x links to are walked to: those of l are. -/
structure Wm (nd : α → List α) (V : α → Prop) (x : α) (l : List α) (V2 : α → Prop) : Prop where
  up : ∀ k, V k → V2 k
  got : V2 x
  ls : ∀ y ∈ l, V2 y
  all : ∀ k, V2 k → V k ∨ k = x ∨ ∀ y ∈ nd k, V2 y
  rch : ∀ k, V2 k → V k ∨ Rs nd (fun j => j = x) k
theorem Wm.zero {nd : α → List α} {V : α → Prop} {x : α} : Wm nd V x [] (fun k => k = x ∨ V k) :=
  ⟨fun _ h => .inr h, .inl rfl, (fun _ h => by cases h), fun _ h => h.elim (fun e => .inr (.inl e)) .inl, fun _ h => h.elim (fun e => .inr (Rs.base e)) .inl⟩
theorem Wm.next {nd : α → List α} {V V2 V3 : α → Prop} {x y : α} {l : List α} (h : Wm nd V x l V2) (hy : y ∈ nd x) (k : Wlk nd V2 y V3) : Wm nd V x (l ++ [y]) V3 := by
  refine ⟨fun j hj => k.up j (h.up j hj), k.up x h.got, fun j hj => ?_, fun j hj => ?_, fun j hj => ?_⟩
  · rcases List.mem_append.1 hj with e | e
    · exact k.up j (h.ls j e)
    · rw [List.mem_singleton.1 e]; exact k.got
  · rcases k.all j hj with e | e
    · rcases h.all j e with e | e | e
      · exact .inl e
      · exact .inr (.inl e)
      · exact .inr (.inr fun y hy => k.up y (e y hy))
    · exact .inr (.inr e)
  · rcases k.rch j hj with e | e
    · exact h.rch j e
    · exact .inr (e.mono fun z hz => by rw [hz]; exact Rs.step (Rs.base rfl) hy)
theorem Wm.done {nd : α → List α} {V V2 : α → Prop} {x : α} (h : Wm nd V x (nd x) V2) : Wlk nd V x V2 := by
  refine ⟨h.up, h.got, fun k hk => ?_, h.rch⟩
  rcases h.all k hk with e | e | e
  · exact .inl e
  · exact .inr (by rw [e]; exact h.ls)
  · exact .inr e
/-- While several are walked from. -/
structure Wn (nd : α → List α) (l : List α) (V : α → Prop) : Prop where
  ls : ∀ y ∈ l, V y
  all : ∀ k, V k → ∀ y ∈ nd k, V y
  rch : ∀ k, V k → Rs nd (fun j => j ∈ l) k
theorem Wn.next {nd : α → List α} {V V2 : α → Prop} {l : List α} {x : α} (h : Wn nd l V) (k : Wlk nd V x V2) : Wn nd (l ++ [x]) V2 := by
  refine ⟨fun j hj => ?_, fun j hj => ?_, fun j hj => ?_⟩
  · rcases List.mem_append.1 hj with e | e
    · exact k.up j (h.ls j e)
    · rw [List.mem_singleton.1 e]; exact k.got
  · rcases k.all j hj with e | e
    · exact fun y hy => k.up y (h.all j e y hy)
    · exact e
  · rcases k.rch j hj with e | e
    · exact (h.rch j e).mono fun z hz => Rs.base (List.mem_append_left _ hz)
    · exact e.mono fun z hz => Rs.base (by rw [hz]; simp)
theorem Wn.iff {nd : α → List α} {V : α → Prop} {l : List α} (h : Wn nd l V) (k : α) : V k ↔ Rs nd (fun j => j ∈ l) k := ⟨h.rch k, fun hk => hk V h.ls h.all⟩

theorem Stp.uniq {ks ks2 : List α} {nd nd2 : α → List α} {lt : α → α → Bool} {out : List α} {x y : α} (hk : ∀ k, k ∈ ks ↔ k ∈ ks2) (hn : ∀ k ∈ ks, nd k = nd2 k) (ht : ∀ a b, lt a b = false → lt b a = false → a = b) (h : Stp ks nd lt out x) (h2 : Stp ks2 nd2 lt out y) : x = y :=
  ht _ _ (h2.least x ((hk x).1 h.mem) h.new (by rw [← hn x h.mem]; exact h.rdy)) (h.least y ((hk y).2 h2.mem) h2.new (by rw [hn y ((hk y).2 h2.mem)]; exact h2.rdy))
theorem Kn.pre {ks ks2 : List α} {nd nd2 : α → List α} {lt : α → α → Bool} {o o2 : List α} (hk : ∀ k, k ∈ ks ↔ k ∈ ks2) (hn : ∀ k ∈ ks, nd k = nd2 k) (ht : ∀ a b, lt a b = false → lt b a = false → a = b) (h : Kn ks nd lt o) (h2 : Kn ks2 nd2 lt o2) : ∀ i, i ≤ o.length → i ≤ o2.length → o.take i = o2.take i
  | 0, _, _ => rfl
  | i + 1, a, b => by
    have e := Kn.pre hk hn ht h h2 i (by omega) (by omega)
    have s1 := h i (by omega)
    have s2 := h2 i (by omega)
    rw [← e] at s2
    rw [List.take_succ_eq_append_getElem (by omega), List.take_succ_eq_append_getElem (by omega), e, s1.uniq hk hn ht s2]
theorem Kn.le {ks ks2 : List α} {nd nd2 : α → List α} {lt : α → α → Bool} {o o2 : List α} (hk : ∀ k, k ∈ ks ↔ k ∈ ks2) (hn : ∀ k ∈ ks, nd k = nd2 k) (ht : ∀ a b, lt a b = false → lt b a = false → a = b) (h : Kn ks nd lt o) (h2 : Kn ks2 nd2 lt o2) (s : ∀ k ∈ ks, k ∉ o → ¬ ∀ y ∈ nd k, y ∈ o) : o2.length ≤ o.length := Nat.le_of_not_lt fun hl => by
  have e := Kn.pre hk hn ht h h2 o.length (Nat.le_refl _) (by omega)
  rw [List.take_length] at e
  have s2 := h2 o.length hl
  rw [← e] at s2
  have hm := (hk _).2 s2.mem
  exact s _ hm s2.new (by rw [hn _ hm]; exact s2.rdy)
theorem Kn.uniq {ks ks2 : List α} {nd nd2 : α → List α} {lt : α → α → Bool} {o o2 : List α} (hk : ∀ k, k ∈ ks ↔ k ∈ ks2) (hn : ∀ k ∈ ks, nd k = nd2 k) (ht : ∀ a b, lt a b = false → lt b a = false → a = b) (h : Kn ks nd lt o) (h2 : Kn ks2 nd2 lt o2) (s : ∀ k ∈ ks, k ∉ o → ¬ ∀ y ∈ nd k, y ∈ o) (s2 : ∀ k ∈ ks2, k ∉ o2 → ¬ ∀ y ∈ nd2 k, y ∈ o2) : o = o2 := by
  have l1 := Kn.le hk hn ht h h2 s
  have l2 := Kn.le (fun k => (hk k).symm) (fun k hk2 => (hn k ((hk k).2 hk2)).symm) ht h2 h s2
  have e := Kn.pre hk hn ht h h2 o.length (Nat.le_refl _) l2
  rw [List.take_length, List.take_of_length_le (by omega)] at e
  exact e
end
theorem ltK_tri (a b : List UInt8) (h : ltK a b = false) (k : ltK b a = false) : a = b := by
  have h1 : ¬ a < b := of_decide_eq_false h
  have h2 : ¬ b < a := of_decide_eq_false k
  exact List.le_antisymm (List.not_lt.1 h2) (List.not_lt.1 h1)
end Go.Proofs.YtankaiopdbcndaaGreatDoor

/- From names on: the walk that calls itself. -/
namespace Go.Proofs.YtankaiopdbcndaaGreatDoor
open Go.RowKit Go.Shelf Go.Maps Go.WideMaps

/-- Links, looked up at whatever name: one that is not there has none. -/
structure LT (M N : Nat) (D : DataW Unit) (nf : List UInt8 → List ByteArray) (lf : List UInt8 → Value) (w : World) : Prop where
  own : w.ownsMap Tryz.prog 9 slE M N D
  get : ∀ k, D.atKey (.string k) (slD (.slice none 0 0)) = slD (lf k)
  tx : ∀ k, TxIn w (lf k) (nf k)
  sz : ∀ k, ∀ y ∈ nf k, y.size ≤ maxLen
theorem LT.below {M N B : Nat} {D : DataW Unit} {nf : List UInt8 → List ByteArray} {lf : List UInt8 → Value} {w w' : World} (h : LT M N D nf lf w) (hb : Below B w w') (hB : w.heap.size ≤ B) : LT M N D nf lf w' :=
  ⟨omapG h.own (hb.block M (Nat.lt_of_lt_of_le h.own.lt hB)), h.get, fun k => (h.tx k).below hb hB, h.sz⟩
theorem LT.look {M N : Nat} {D : DataW Unit} {nf : List UInt8 → List ByteArray} {lf : List UInt8 → Value} {w : World} (h : LT M N D nf lf w) (x : ByteArray) (hs : x.size ≤ maxLen) :
    (Instr.lookup 53 (.map (some M)) (.string x) false).run Tryz.prog w = .ok (lf x.data.toList) w := by
  obtain ⟨v, ps, hr, hv⟩ := h.own.lookup lawS Tryz.underlying53 (zeroSl w) (zd := slD (.slice none 0 0)) (zp := []) rfl (keyOf_string_mk Tryz.underlying9 hs)
  rw [h.get _] at hv
  rw [hr, slE_inj hv (slE_is (h.tx _).1)]

def pt (b : Nat) : Value := .pointer (some ⟨b, 0, none⟩)
/-- While a walk is on: those of ks are there; the three boxes lie as they lay. -/
structure FSt (b2 b5 b6 M M2 : Nat) (U : List (List UInt8)) (lf : List UInt8 → Value) (w wr : World) (ks : List (List UInt8)) : Prop where
  own : ∃ D n, wr.ownsMap Tryz.prog 9 slE M2 n D ∧ n ≤ ks.length ∧ Tidy D ∧ (∀ k, k ∈ ks ↔ Maps.has D (.string k) = true) ∧ ∀ k ∈ ks, ∀ z, D.atKey (.string k) z = slD (lf k)
  nod : ks.Nodup
  sub : ∀ k ∈ ks, k ∈ U
  c2 : wr.cell? ⟨b2, 0, none⟩ = some (.map (some M))
  c5 : wr.cell? ⟨b5, 0, none⟩ = some (.map (some M2))
  c6 : wr.cell? ⟨b6, 0, none⟩ = some (.func (.func 58) #[] #[pt b5, pt b2, pt b6])
  bel : Below w.heap.size w wr
  n2 : b2 ≠ M2
  n5 : b5 ≠ M2
  n6 : b6 ≠ M2
  hi : w.heap.size ≤ M2
theorem FSt.len {b2 b5 b6 M M2 : Nat} {U : List (List UInt8)} {lf : List UInt8 → Value} {w wr : World} {ks : List (List UInt8)} (h : FSt b2 b5 b6 M M2 U lf w wr ks) : ks.length ≤ U.length := h.nod.length_le_of_subset (fun k hk => h.sub k hk)
/-- One more. -/
theorem FSt.put {b2 b5 b6 M M2 : Nat} {U : List (List UInt8)} {lf : List UInt8 → Value} {w wr : World} {ks : List (List UInt8)} (h : FSt b2 b5 b6 M M2 U lf w wr ks) (hU : U.length ≤ 60) (x : ByteArray) (hs : x.size ≤ maxLen) (hx : tl x ∈ U) (hn : tl x ∉ ks) (hl : IsSl (lf (tl x))) :
    ∃ w', (Instr.mapUpdate 53 (.map (some M2)) (.string x) (lf (tl x))).run Tryz.prog wr = .ok () w' ∧ FSt b2 b5 b6 M M2 U lf w w' (tl x :: ks) := by
  have hlen := h.len
  obtain ⟨D, n, g1, g2, g3, g4, g5⟩ := h.own
  obtain ⟨w', r1, r2, r3⟩ := g1.update lawS Tryz.underlying53 (by unfold maxLen; omega) (keyOf_string_mk Tryz.underlying9 hs) (slE_is hl)
  have hlt := g1.lt
  have hc : ∀ b, b ≠ M2 → ∀ v, wr.cell? ⟨b, 0, none⟩ = some v → w'.cell? ⟨b, 0, none⟩ = some v := fun b hb v hv => by
    have hbl : b < wr.heap.size := by simpa using World.block_lt_of_cell? wr _ hv
    rw [← hv]
    exact World.cell?_of_block (w := wr) (a := ⟨b, 0, none⟩) (r3.block b hbl (fun e => hb (by injection e)))
  refine ⟨w', r1, ⟨_, n + 1, r2, by simpa using g2, g3.put (by exact trivial) _, fun k => ?_, fun k hk z => ?_⟩, List.nodup_cons.2 ⟨hn, h.nod⟩, fun k hk => ?_, hc _ h.n2 _ h.c2, hc _ h.n5 _ h.c5, hc _ h.n6 _ h.c6, h.bel.grown r3 h.bel.size (fun j hj => by injection hj with hj; have := h.hi; omega), h.n2, h.n5, h.n6, h.hi⟩
  · by_cases e : k = tl x
    · subst e
      rw [show x.data.toList = tl x from rfl, has_put_same g3.isMap (by exact trivial)]
      simp
    · rw [has_put_other (fun e2 => e (by injection e2)), List.mem_cons, ← g4]
      simp [e]
  · by_cases e : k = tl x
    · subst e
      exact atKey_put_same g3.isMap (by exact trivial) _ _
    · rw [atKey_put_other (fun e2 => e (by injection e2))]
      exact g5 k ((List.mem_cons.1 hk).resolve_left e) z
  · rcases List.mem_cons.1 hk with rfl | hk
    · exact hx
    · exact h.sub k hk

/-- How a walk ends. -/
def WkP (b2 b5 b6 M M2 : Nat) (U : List (List UInt8)) (nf : List UInt8 → List ByteArray) (lf : List UInt8 → Value) (w : World) (ks : List (List UInt8)) (x : ByteArray) (e : Ending) (w' : World) : Prop := e = .returned (.tuple #[]) ∧ ∃ ks', FSt b2 b5 b6 M M2 U lf w w' ks' ∧ Wlk (ndT nf) (fun k => k ∈ ks) (tl x) (fun k => k ∈ ks') ∧ ks.length ≤ ks'.length

set_option maxHeartbeats 4000000 in
set_option maxRecDepth 100000 in
theorem walk_step (b2 b5 b6 M M2 N : Nat) (D : DataW Unit) (U : List (List UInt8)) (nf : List UInt8 → List ByteArray) (lf : List UInt8 → Value) (w : World) (hT : LT M N D nf lf w) (hU : U.length ≤ 60) (hcl : ∀ k ∈ U, ∀ y ∈ nf k, tl y ∈ U) (hsz : ∀ k ∈ U, k.length ≤ maxLen) (ks : List (List UInt8)) (x : ByteArray) (wr : World) (h : FSt b2 b5 b6 M M2 U lf w wr ks) (hx : tl x ∈ U)
    (ih : tl x ∉ ks → ∀ (ks2 : List (List UInt8)) (y : ByteArray) (W : World), ks.length < ks2.length → FSt b2 b5 b6 M M2 U lf w W ks2 → tl y ∈ U → Calls Tryz.prog 58 #[.string y, pt b5, pt b2, pt b6] W (WkP b2 b5 b6 M M2 U nf lf w ks2 y)) :
    Calls Tryz.prog 58 #[.string x, pt b5, pt b2, pt b6] wr (WkP b2 b5 b6 M M2 U nf lf w ks x) := by
  have hxs : x.size ≤ maxLen := by have := hsz _ hx; simpa [tl] using this
  obtain ⟨D2, n2, g1, g2, g3, g4, g5⟩ := h.own
  have HLk := lacks_any M2 n2 D2 x wr g1 hxs
  have c5 := h.c5
  by_cases hin : tl x ∈ ks
  · have hh : Maps.has D2 (.string x.data.toList) = true := (g4 (tl x)).1 hin
    have HZ : Hid (WkP b2 b5 b6 M M2 U nf lf w ks x (.returned (.tuple #[])) wr) := ⟨rfl, ks, h, Wlk.old hin, Nat.le_refl _⟩
    rw [hh] at HLk
    clear hT hU hcl hsz hx ih h g1 g2 g3 g4 g5 hxs hin hh
    unfold pt
    go_enter Tryz.func58, Tryz.ntmps58
    go_wp2_with (first | (go_at_call 49; refine HLk.mono ?_; rintro e w1 ⟨rfl, rfl⟩) | go_in)
    refine bodyPost_ret (v := .tuple #[]) (by simp [results, Tryz.results58, go_sem]) rfl ?_
    exact HZ.out
  · have hh : Maps.has D2 (.string x.data.toList) = false := by
      cases e : Maps.has D2 (.string x.data.toList) with
      | false => rfl
      | true => exact absurd ((g4 (tl x)).2 e) hin
    rw [hh] at HLk
    have HI : Hid (∀ (ks2 : List (List UInt8)) (y : ByteArray) (W : World), ks.length < ks2.length → FSt b2 b5 b6 M M2 U lf w W ks2 → tl y ∈ U → Calls Tryz.prog 58 #[.string y, pt b5, pt b2, pt b6] W (WkP b2 b5 b6 M M2 U nf lf w ks2 y)) := ih hin
    have hl1 := (hT.below h.bel (Nat.le_refl _)).look x hxs
    have c2 := h.c2
    obtain ⟨wp, hup, hF⟩ := h.put hU x hxs hx hin (hT.tx _).1
    have hl2 := (hT.below hF.bel (Nat.le_refl _)).look x hxs
    have c2b := hF.c2
    have HCl : Hid (∀ y ∈ nf (tl x), tl y ∈ U) := hcl _ hx
    have HSz : Hid (∀ y ∈ nf (tl x), y.size ≤ maxLen) := hT.sz _
    have hv := hT.tx (tl x)
    have HE : Hid (∀ ks2 W, FSt b2 b5 b6 M M2 U lf w W ks2 → Wm (ndT nf) (fun k => k ∈ ks) (tl x) (ndT nf (tl x)) (fun k => k ∈ ks2) → ks.length < ks2.length → WkP b2 b5 b6 M M2 U nf lf w ks x (.returned (.tuple #[])) W) := fun ks2 W q1 q2 q3 => ⟨rfl, ks2, q1, q2.done, Nat.le_of_lt q3⟩
    have HN : Hid (ndT nf (tl x) = (nf (tl x)).map tl) := rfl
    have H0 : Hid (∃ ks2, FSt b2 b5 b6 M M2 U lf w wp ks2 ∧ Wm (ndT nf) (fun k => k ∈ ks) (tl x) (((nf (tl x)).take 0).map tl) (fun k => k ∈ ks2) ∧ ks.length < ks2.length) := ⟨tl x :: ks, hF, by
      have := Wm.zero (nd := ndT nf) (V := fun k => k ∈ ks) (x := tl x)
      simpa [List.mem_cons] using this, by simp⟩
    rw [show x.data.toList = tl x from rfl] at hl1 hl2
    obtain ⟨nl, hnl⟩ : ∃ nl, nf (tl x) = nl := ⟨_, rfl⟩
    obtain ⟨lv, hlv⟩ : ∃ lv, lf (tl x) = lv := ⟨_, rfl⟩
    rw [hlv] at hl1 hl2 hup hv
    rw [hnl] at hv HCl HSz H0 HN
    obtain ⟨_, hln, ao, c, rfl, hmem⟩ := hv
    have HM : Hid (nl = [] ∨ ∃ g o, ao = some ⟨g, o, none⟩ ∧ g < w.heap.size ∧ ∀ j (hj : j < nl.length), w.cell? ⟨g, o + j, none⟩ = some (.string nl[j])) := hmem
    have hln1 : (nl.length : Int) ≤ 1048576 := by omega
    have eg := enters_of Tryz.func58 (by kernel_rfl) rfl
    clear hT hU hcl hsz hx ih h g1 g2 g3 g4 g5 hxs hin hh hF hmem hln hnl hlv
    unfold pt
    go_enter Tryz.func58, Tryz.ntmps58
    go_wp2_with (first | (go_at_call 49; refine HLk.mono ?_; rintro e w1 ⟨rfl, rfl⟩) | go_in)
    go_loopw [20] (fun u wr => ∃ i : Nat, i ≤ nl.length ∧ u = .int .i64 (i : Int) ∧ Hid (∃ ks2, FSt b2 b5 b6 M M2 U lf w wr ks2 ∧ Wm (ndT nf) (fun k => k ∈ ks) (tl x) ((nl.take i).map tl) (fun k => k ∈ ks2) ∧ ks.length < ks2.length)) (fun u _ => nl.length - (intOf u).toNat)
    case atStart => exact ⟨0, Nat.zero_le _, rfl, H0⟩
    case round =>
      obtain ⟨i, hi, rfl, HJ⟩ := hrel
      by_cases hlt : i < nl.length
      · have hii : (i : Int) < (nl.length : Int) := by omega
        rcases HM.out with h | ⟨g, o, rfl, hg, hcc⟩
        · exfalso; rw [h] at hlt; exact absurd hlt (by simp)
        obtain ⟨ks2, hF, hm, hk2⟩ := HJ.out
        have c0 : wr.cell? ⟨g, o + i, none⟩ = some (.string nl[i]) := (hF.bel.cell (p := ⟨g, o + i, none⟩) hg).trans (hcc i hlt)
        have c6 := hF.c6
        have HC : Hid (Calls Tryz.prog 58 #[.string nl[i], pt b5, pt b2, pt b6] wr fun e w' => e = .returned (.tuple #[]) ∧ Hid (∃ ks2, FSt b2 b5 b6 M M2 U lf w w' ks2 ∧ Wm (ndT nf) (fun k => k ∈ ks) (tl x) ((nl.take (i + 1)).map tl) (fun k => k ∈ ks2) ∧ ks.length < ks2.length)) := (HI.out ks2 nl[i] wr hk2 hF (HCl.out _ (List.getElem_mem hlt))).mono fun e w' ⟨q1, ks3, q2, q3, q4⟩ => ⟨q1, ks3, q2, by
          rw [List.take_succ_eq_append_getElem hlt, List.map_append]
          exact hm.next (by rw [HN.out]; exact List.mem_map.2 ⟨_, List.getElem_mem hlt, rfl⟩) q3, by omega⟩
        generalize nl[i] = y at *
        unfold pt at c6 HC
        clear hF hm hk2 HJ H0 hcc
        go_wp2_with (first | (go_at_call 58; refine HC.out.mono ?_; rintro e w1 ⟨rfl, H1⟩) | go_in)
        exact ⟨⟨i + 1, by omega, by go_num, H1⟩, by simp [intOf]; omega⟩
      · obtain rfl : i = nl.length := by omega
        have HZ : Hid (WkP b2 b5 b6 M M2 U nf lf w ks x (.returned (.tuple #[])) wr) := by
          obtain ⟨ks2, hF, hm, hk2⟩ := HJ.out
          rw [List.take_length, ← HN.out] at hm
          exact HE.out ks2 wr hF hm hk2
        clear HJ H0
        go_wp2
        go_end0
        exact HZ.out
theorem walk_any (b2 b5 b6 M M2 N : Nat) (D : DataW Unit) (U : List (List UInt8)) (nf : List UInt8 → List ByteArray) (lf : List UInt8 → Value) (w : World) (hT : LT M N D nf lf w) (hU : U.length ≤ 60) (hcl : ∀ k ∈ U, ∀ y ∈ nf k, tl y ∈ U) (hsz : ∀ k ∈ U, k.length ≤ maxLen) : ∀ (m : Nat) (ks : List (List UInt8)) (x : ByteArray) (wr : World), U.length < m + ks.length → FSt b2 b5 b6 M M2 U lf w wr ks → tl x ∈ U →
    Calls Tryz.prog 58 #[.string x, pt b5, pt b2, pt b6] wr (WkP b2 b5 b6 M M2 U nf lf w ks x)
  | 0, ks, x, wr, hm, h, _ => by have := h.len; omega
  | m + 1, ks, x, wr, hm, h, hx => walk_step b2 b5 b6 M M2 N D U nf lf w hT hU hcl hsz ks x wr h hx fun _ ks2 y W hl hF hy => walk_any b2 b5 b6 M M2 N D U nf lf w hT hU hcl hsz m ks2 y W (by omega) hF hy
end Go.Proofs.YtankaiopdbcndaaGreatDoor

/- From names on, whole. -/
namespace Go.Proofs.YtankaiopdbcndaaGreatDoor
open Go.RowKit Go.Shelf Go.Maps Go.WideMaps

theorem run_store_fn {P : Program} {w : World} {a : Addr} {m : Mode} (f : Fn) (bs cs : Array Value) : (store a (.func f bs cs) m).run P w = stored P w a (.func f bs cs) m := run_store P w a _ m rfl
attribute [local go_sem] run_store_fn
/-- How from ends: links of all to which one comes. -/
def FrP (nf : List UInt8 → List ByteArray) (lf : List UInt8 → Value) (U : List (List UInt8)) (ns : List ByteArray) (w : World) (e : Ending) (w' : World) : Prop := ∃ (M2 n : Nat) (D2 : DataW Unit) (ks : List (List UInt8)), e = .returned (.map (some M2)) ∧ LK M2 n D2 nf lf w' ∧ n ≤ 60 ∧ ks.Nodup ∧ (∀ k, k ∈ ks ↔ Maps.has D2 (.string k) = true) ∧ (∀ k, k ∈ ks ↔ Rs (ndT nf) (fun j => j ∈ ns.map tl) k) ∧ (∀ k ∈ ks, k ∈ U) ∧ w.heap.size ≤ M2 ∧ Below w.heap.size w w'

set_option maxHeartbeats 4000000 in
set_option maxRecDepth 100000 in
theorem from_any (M N : Nat) (D : DataW Unit) (U : List (List UInt8)) (nf : List UInt8 → List ByteArray) (lf : List UInt8 → Value) (w : World) (hT : LT M N D nf lf w) (hU : U.length ≤ 60) (hcl : ∀ k ∈ U, ∀ y ∈ nf k, tl y ∈ U) (hsz : ∀ k ∈ U, k.length ≤ maxLen) (v : Value) (ns : List ByteArray) (hv : TxIn w v ns) (hns : ∀ y ∈ ns, tl y ∈ U) :
    Calls Tryz.prog 35 #[.map (some M), v] w (FrP nf lf U ns w) := by
  obtain ⟨_, hln, ao, c, rfl, hmem⟩ := hv
  have HM : Hid (ns = [] ∨ ∃ g o, ao = some ⟨g, o, none⟩ ∧ g < w.heap.size ∧ ∀ j (hj : j < ns.length), w.cell? ⟨g, o + j, none⟩ = some (.string ns[j])) := hmem
  have hln1 : (ns.length : Int) ≤ 1048576 := by omega
  have hmm := @run_makeMap Tryz.prog
  have eg := enters_of Tryz.func58 (by kernel_rfl) rfl
  have HNs : Hid (∀ y ∈ ns, tl y ∈ U) := hns
  obtain ⟨b6, h6⟩ : ∃ b, b = w.heap.size + 1 + 1 + 1 := ⟨_, rfl⟩
  obtain ⟨b5, h5⟩ : ∃ b, b = w.heap.size + 1 + 1 := ⟨_, rfl⟩
  obtain ⟨M2, hM2⟩ : ∃ b, b = w.heap.size + 1 := ⟨_, rfl⟩
  obtain ⟨b2, h2⟩ : ∃ b, b = w.heap.size := ⟨_, rfl⟩
  have HW : Hid (∀ ks x wr, FSt b2 b5 b6 M M2 U lf w wr ks → tl x ∈ U → Calls Tryz.prog 58 #[.string x, pt b5, pt b2, pt b6] wr (WkP b2 b5 b6 M M2 U nf lf w ks x)) := fun ks x wr h hx => walk_any b2 b5 b6 M M2 N D U nf lf w hT hU hcl hsz (U.length + 1) ks x wr (by omega) h hx
  have HZ : Hid (∀ ks W, FSt b2 b5 b6 M M2 U lf w W ks → Wn (ndT nf) (ns.map tl) (fun k => k ∈ ks) → FrP nf lf U ns w (.returned (.map (some M2))) W) := fun ks W h hn => by
    have hlen := h.len
    obtain ⟨D2, n, g1, g2, g3, g4, g5⟩ := h.own
    refine ⟨M2, n, D2, ks, rfl, ⟨g1, fun k hk z => g5 k ((g4 k).2 hk) z, fun k hk => (hT.tx k).below h.bel (Nat.le_refl _), fun k hk => hT.sz k, fun k hk => hsz k (h.sub k ((g4 k).2 hk))⟩, by omega, h.nod, g4, fun k => hn.iff k, h.sub, h.hi, h.bel⟩
  have H0 : Hid (∀ W, W = ((((w.alloc (.cells #[.map (some M)] 53)).alloc (.map #[] 0)).alloc (.cells #[.map (some M2)] 53)).alloc (.cells #[.func (.func 58) #[] #[pt b5, pt b2, pt b6]] 91)) → ∃ ks, FSt b2 b5 b6 M M2 U lf w W ks ∧ Wn (ndT nf) ((ns.take 0).map tl) (fun k => k ∈ ks)) := fun W hW => by
    obtain ⟨w1, e1⟩ : ∃ w1, w1 = w.alloc (.cells #[.map (some M)] 53) := ⟨_, rfl⟩
    obtain ⟨w2, e2⟩ : ∃ w2, w2 = w1.alloc (.map #[] 0) := ⟨_, rfl⟩
    obtain ⟨w3, e3⟩ : ∃ w3, w3 = w2.alloc (.cells #[.map (some M2)] 53) := ⟨_, rfl⟩
    rw [← e1, ← e2, ← e3] at hW
    have z1 : w1.heap.size = w.heap.size + 1 := by rw [e1]; exact World.size_alloc _ _
    have z2 : w2.heap.size = w.heap.size + 1 + 1 := by rw [e2, World.size_alloc, z1]
    have z3 : w3.heap.size = w.heap.size + 1 + 1 + 1 := by rw [e3, World.size_alloc, z2]
    have q1 : w1.heap[b2]? = some (.cells #[.map (some M)] 53 (0, 0)) := by rw [e1, h2]; exact heap_alloc_new _ _
    have q3 : w3.heap[b5]? = some (.cells #[.map (some M2)] 53 (0, 0)) := by rw [e3, h5, ← z2]; exact heap_alloc_new _ _
    have q4 : W.heap[b6]? = some (.cells #[.func (.func 58) #[] #[pt b5, pt b2, pt b6]] 91 (0, 0)) := by rw [hW, h6, ← z3]; exact heap_alloc_new _ _
    have o2 := World.ownsMap_made (H := Unit) w1 Tryz.prog 9 slE
    rw [← e2, z1, ← hM2] at o2
    have o4 : W.ownsMap Tryz.prog 9 slE M2 0 (.map []) := by rw [hW, e3]; exact (o2.alloc _).alloc _
    have p5 : W.heap[b5]? = some (.cells #[.map (some M2)] 53 (0, 0)) := by rw [hW, Below.heap_alloc w3 _ b5 (by omega)]; exact q3
    have p2 : W.heap[b2]? = some (.cells #[.map (some M)] 53 (0, 0)) := by rw [hW, Below.heap_alloc w3 _ b2 (by omega), e3, Below.heap_alloc w2 _ b2 (by omega), e2, Below.heap_alloc w1 _ b2 (by omega)]; exact q1
    refine ⟨[], ⟨⟨.map [], 0, o4, Nat.le_refl _, tidy_empty, fun k => ⟨(fun h => by cases h), (fun h => by cases h)⟩, (fun k hk => by cases hk)⟩, List.nodup_nil, (fun k hk => by cases hk), by rw [Lib.cell_of_heap p2]; rfl, by rw [Lib.cell_of_heap p5]; rfl, by rw [Lib.cell_of_heap q4]; rfl, ?_, by omega, by omega, by omega, by omega⟩, ⟨(fun y hy => by simp at hy), (fun k hk => by cases hk), (fun k hk => by cases hk)⟩⟩
    rw [hW, e3, e2, e1]
    exact ((((Below.refl _ w).alloc (Nat.le_refl _) _).alloc (by rw [World.size_alloc]; omega) _).alloc (by rw [World.size_alloc, World.size_alloc]; omega) _).alloc (by rw [World.size_alloc, World.size_alloc, World.size_alloc]; omega) _
  clear hT hU hcl hsz hmem hln hns
  go_enter Tryz.func35, Tryz.ntmps35
  go_wp2
  rw [← h6, ← h5, ← hM2, ← h2]
  have H1 := H0.out _ rfl
  unfold pt at H1
  have H2 : Hid (∃ ks, FSt b2 b5 b6 M M2 U lf w _ ks ∧ Wn (ndT nf) ((ns.take 0).map tl) (fun k => k ∈ ks)) := H1
  clear H1 H0 h6 h5 hM2 h2
  go_loopw [13] (fun u wr => ∃ i : Nat, i ≤ ns.length ∧ u = .int .i64 (i : Int) ∧ Hid (∃ ks, FSt b2 b5 b6 M M2 U lf w wr ks ∧ Wn (ndT nf) ((ns.take i).map tl) (fun k => k ∈ ks))) (fun u _ => ns.length - (intOf u).toNat)
  case atStart => exact ⟨0, Nat.zero_le _, rfl, H2⟩
  case round =>
    obtain ⟨i, hi, rfl, HJ⟩ := hrel
    by_cases hlt : i < ns.length
    · have hii : (i : Int) < (ns.length : Int) := by omega
      rcases HM.out with h | ⟨g, o, rfl, hg, hcc⟩
      · exfalso; rw [h] at hlt; exact absurd hlt (by simp)
      obtain ⟨ks, hF, hm⟩ := HJ.out
      have c0 : wr.cell? ⟨g, o + i, none⟩ = some (.string ns[i]) := (hF.bel.cell (p := ⟨g, o + i, none⟩) hg).trans (hcc i hlt)
      have c6 := hF.c6
      have HC : Hid (Calls Tryz.prog 58 #[.string ns[i], pt b5, pt b2, pt b6] wr fun e w' => e = .returned (.tuple #[]) ∧ Hid (∃ ks, FSt b2 b5 b6 M M2 U lf w w' ks ∧ Wn (ndT nf) ((ns.take (i + 1)).map tl) (fun k => k ∈ ks))) := (HW.out ks ns[i] wr hF (HNs.out _ (List.getElem_mem hlt))).mono fun e w' ⟨q1, ks3, q2, q3, q4⟩ => ⟨q1, ks3, q2, by
        rw [List.take_succ_eq_append_getElem hlt, List.map_append]
        exact hm.next q3⟩
      generalize ns[i] = y at *
      unfold pt at c6 HC
      clear hF hm HJ H2 hcc
      go_wp2_with (first | (go_at_call 58; refine HC.out.mono ?_; rintro e w1 ⟨rfl, H1⟩) | go_in)
      exact ⟨⟨i + 1, by omega, by go_num, H1⟩, by simp [intOf]; omega⟩
    · obtain rfl : i = ns.length := by omega
      obtain ⟨ks, hF, hm⟩ := HJ.out
      rw [List.take_length] at hm
      have c5 := hF.c5
      have HE : Hid (FrP nf lf U ns w (.returned (.map (some M2))) wr) := HZ.out ks wr hF hm
      clear HJ H2 hF hm
      go_wp2
      go_ret
      exact HE.out
end Go.Proofs.YtankaiopdbcndaaGreatDoor

/- What right names tell; the links that needsOf makes, looked up at whatever name. -/
namespace Go.Proofs.YtankaiopdbcndaaGreatDoor
open Go.RowKit Go.Shelf Go.Maps Go.WideMaps
theorem tgF_none {L : List Tg} {k : List UInt8} (h : Maps.has (ndD L) (.string k) = false) : tgF L k = none := by
  cases e : tgF L k with
  | none => rfl
  | some t =>
    obtain ⟨h1, h2, _⟩ := (tgF_spec L k).1 t e
    rw [has_ndD, List.any_eq_false] at h
    exact absurd h2 (by simpa using h t h1)
theorem tgF_of {L : List Tg} (hn : (L.map tnm).Nodup) {t : Tg} (ht : t ∈ L) : tgF L (tnm t) = some t := by
  refine snocInd (P := fun L => (L.map tnm).Nodup → t ∈ L → tgF L (tnm t) = some t) (fun _ h => by cases h) (fun l a ih => ?_) L hn ht
  intro hn ht
  rw [tgF_snoc]
  rw [List.map_append, List.nodup_append] at hn
  rcases List.mem_append.1 ht with h | h
  · have hne : tnm t ≠ tnm a := hn.2.2 _ (List.mem_map.2 ⟨t, h, rfl⟩) _ (by simp)
    rw [if_neg (fun e => hne e.symm)]
    exact ih hn.1 h
  · have e : t = a := by simpa using h
    rw [e, if_pos rfl]
theorem nfL_of {L : List Tg} (hn : (L.map tnm).Nodup) {t : Tg} (ht : t ∈ L) : nfL L (tnm t) = t.ns := by rw [nfL, tgF_of hn ht]; rfl
/-- What right names tell. -/
structure NmOk (L : List Tg) : Prop where
  len : L.length ≤ 60
  nm : ∀ t ∈ L, nameOk t.nm = true
  nod : (L.map tnm).Nodup
  met : ∀ t ∈ L, ∀ y ∈ t.ns, tl y ∈ L.map tnm
theorem has_mem {L : List Tg} {k : List UInt8} : Maps.has (ndD L) (.string k) = true ↔ k ∈ L.map tnm := by
  rw [has_ndD, List.any_eq_true, List.mem_map]
  exact ⟨fun ⟨t, h1, h2⟩ => ⟨t, h1, by simpa using h2⟩, fun ⟨t, h1, h2⟩ => ⟨t, h1, by simpa using h2⟩⟩
theorem ckN_ok {L : List Tg} : ckN L = 0 ↔ NmOk L := by
  unfold ckN
  constructor
  · intro h
    split at h
    · cases h
    · rename_i h1
      split at h
      · cases h
      · rename_i h2
        split at h
        · rename_i h3
          split at h
          · cases h
          · rename_i h4
            refine ⟨by omega, fun t ht => ?_, h3, fun t ht y hy => ?_⟩
            · simp at h2
              exact h2 t ht
            · have h5 := List.any_eq_false.1 (Bool.eq_false_iff.2 h4) t ht
              have h6 := List.any_eq_false.1 (Bool.eq_false_iff.2 (show (t.ns.any fun y => !Maps.has (ndD L) (.string y.data.toList)) ≠ true from h5)) y hy
              exact has_mem.1 (by simpa [tl] using h6)
        · cases h
  · rintro ⟨h1, h2, h3, h4⟩
    rw [if_neg (by omega), if_neg ?_, if_pos h3, if_neg ?_]
    · intro h
      obtain ⟨t, ht, h⟩ := List.any_eq_true.1 h
      obtain ⟨y, hy, h⟩ := List.any_eq_true.1 (show (t.ns.any fun y => !Maps.has (ndD L) (.string y.data.toList)) = true from h)
      rw [show Maps.has (ndD L) (.string y.data.toList) = true from has_mem.2 (h4 t ht y hy)] at h
      cases h
    · intro h
      obtain ⟨t, ht, h⟩ := List.any_eq_true.1 h
      rw [h2 t ht] at h
      cases h
theorem NmOk.cl {L : List Tg} (h : NmOk L) : ∀ k ∈ L.map tnm, ∀ y ∈ nfL L k, tl y ∈ L.map tnm := fun k hk y hy => by
  obtain ⟨t, ht, rfl⟩ := List.mem_map.1 hk
  rw [nfL_of h.nod ht] at hy
  exact h.met t ht y hy
theorem lt_of {L : List Tg} {M n : Nat} {w : World} (h : w.ownsMap Tryz.prog 9 slE M n (ndD L)) (ht : ∀ t ∈ L, TxIn w t.vn t.ns) (hs : ∀ t ∈ L, ∀ y ∈ t.ns, y.size ≤ maxLen) : LT M n (ndD L) (nfL L) (lfL L) w := by
  refine ⟨h, fun k => ?_, fun k => ?_, fun k => ?_⟩
  · cases e : tgF L k with
    | none => rw [atKey_of_not_has ((tgF_spec L k).2 e), lfL, e]; rfl
    | some t => rw [((tgF_spec L k).1 t e).2.2, lfL, e]; rfl
  · rw [lfL, nfL]
    cases e : tgF L k with
    | none => exact ⟨⟨none, 0, 0, rfl⟩, Nat.zero_le _, none, 0, rfl, .inl rfl⟩
    | some t => exact ht t ((tgF_spec L k).1 t e).1
  · rw [nfL]
    cases e : tgF L k with
    | none => intro y hy; cases hy
    | some t => exact hs t ((tgF_spec L k).1 t e).1
theorem ckW_ok {L : List Tg} {x : ByteArray} : ckW L x = 0 ↔ NmOk L ∧ tl x ∈ L.map tnm := by
  unfold ckW
  rw [← ckN_ok, ← has_mem]
  by_cases h : ckN L = 0
  · rw [if_neg (by simpa using h)]
    split
    · rename_i h2; exact ⟨fun _ => ⟨h, h2⟩, fun _ => rfl⟩
    · rename_i h2; exact ⟨(fun h => by cases h), fun h => absurd h.2 h2⟩
  · rw [if_pos h]
    exact ⟨fun e => absurd e h, fun e => absurd e.1 h⟩
end Go.Proofs.YtankaiopdbcndaaGreatDoor

/- Order and Cone of targets, told by what is plain. -/
namespace Go.Proofs.YtankaiopdbcndaaGreatDoor
open Go.RowKit Go.Shelf Go.Maps Go.WideMaps
/-- The names S, in the order that is asked for: out of them came. -/
structure OrQ (nf : List UInt8 → List ByteArray) (S : List UInt8 → Prop) (ks : List (List UInt8)) (out : List ByteArray) : Prop where
  nod : ks.Nodup
  mem : ∀ k, k ∈ ks ↔ S k
  kn : Kn ks (ndT nf) ltK (out.map tl)
  stop : ∀ k ∈ ks, k ∉ out.map tl → ¬ ∀ y ∈ ndT nf k, y ∈ out.map tl
theorem tl_inj {a b : List ByteArray} (h : a.map tl = b.map tl) : a = b := by
  have e : ∀ l : List ByteArray, (l.map tl).map bN = l := fun l => by
    rw [List.map_map]
    refine (List.map_congr_left fun x _ => ?_).trans (List.map_id l)
    exact bN_tl x
  rw [← e a, ← e b, h]
theorem perm_len {α : Type} {a b : List α} (ha : a.Nodup) (hb : b.Nodup) (h : ∀ k, k ∈ a ↔ k ∈ b) : a.length = b.length :=
  Nat.le_antisymm (ha.length_le_of_subset fun k hk => (h k).1 hk) (hb.length_le_of_subset fun k hk => (h k).2 hk)
theorem OrQ.uniq {nf nf2 : List UInt8 → List ByteArray} {S S2 : List UInt8 → Prop} {ks ks2 : List (List UInt8)} {o o2 : List ByteArray} (h : OrQ nf S ks o) (h2 : OrQ nf2 S2 ks2 o2) (hs : ∀ k, S k ↔ S2 k) (hn : ∀ k, S k → nf k = nf2 k) : o = o2 ∧ ks.length = ks2.length := by
  have hk : ∀ k, k ∈ ks ↔ k ∈ ks2 := fun k => (h.mem k).trans ((hs k).trans (h2.mem k).symm)
  exact ⟨tl_inj (Kn.uniq hk (fun k hk => by unfold ndT; rw [hn k ((h.mem k).1 hk)]) ltK_tri h.kn h2.kn h.stop h2.stop), perm_len h.nod h2.nod hk⟩
/-- What Order and Cone tell: names, and an Errno. -/
def LsA (c : Int) (nf : List UInt8 → List ByteArray) (S : List UInt8 → Prop) (out : List ByteArray) (code : Int) : Prop := (c ≠ 0 ∧ out = [] ∧ code = c) ∨ (c = 0 ∧ ∃ ks o, OrQ nf S ks o ∧ ((o.length < ks.length ∧ out = [] ∧ code = 10) ∨ (o.length = ks.length ∧ out = o ∧ code = 0)))
theorem LsA.uniq {c : Int} {nf nf2 : List UInt8 → List ByteArray} {S S2 : List UInt8 → Prop} {o o2 : List ByteArray} {e e2 : Int} (h : LsA c nf S o e) (h2 : LsA c nf2 S2 o2 e2) (hs : c = 0 → ∀ k, S k ↔ S2 k) (hn : c = 0 → ∀ k, S k → nf k = nf2 k) : o = o2 ∧ e = e2 := by
  rcases h with ⟨a, rfl, rfl⟩ | ⟨a, ks, q, hq, h⟩
  · rcases h2 with ⟨_, rfl, rfl⟩ | ⟨b, _⟩
    · exact ⟨rfl, rfl⟩
    · exact absurd b a
  · rcases h2 with ⟨b, _⟩ | ⟨_, ks2, q2, hq2, h2⟩
    · exact absurd a b
    · obtain ⟨e1, e2⟩ := hq.uniq hq2 (hs a) (hn a)
      subst e1
      rcases h with ⟨h, rfl, rfl⟩ | ⟨h, rfl, rfl⟩
      · rcases h2 with ⟨h2, rfl, rfl⟩ | ⟨h2, rfl, rfl⟩
        · exact ⟨rfl, rfl⟩
        · omega
      · rcases h2 with ⟨h2, rfl, rfl⟩ | ⟨h2, rfl, rfl⟩
        · omega
        · exact ⟨rfl, rfl⟩
/-- Names in a row of one's own, and an Errno, are told. -/
def TwP (R : List ByteArray → Int → Prop) (w : World) (e : Ending) (w' : World) : Prop := ∃ out code v, R out code ∧ e = .returned (.tuple #[v, .int .i64 code]) ∧ w'.ownsRow w.heap.size 9 1 v out.length (out.map Value.string) ∧ Below w.heap.size w w'
theorem row_low {w : World} {base base2 : Nat} {e : TypeId} {size : Nat} {v : Value} {n : Nat} {xs : List Value} (h : w.ownsRow base e size v n xs) (hh : base2 ≤ base) : w.ownsRow base2 e size v n xs := by
  refine ⟨h.1, ?_⟩
  rcases h.2 with h2 | ⟨g, cap, cur, a, b, r⟩
  · exact .inl h2
  · exact .inr ⟨g, cap, cur, a, Nat.le_trans hh b, r⟩
theorem OrP.tw {nf : List UInt8 → List ByteArray} {D : DataW Unit} {S : List UInt8 → Prop} {w w1 w' : World} {e : Ending} (h : OrP nf D w1 e w') (hb : Below w.heap.size w w1) (hs : ∀ k, Maps.has D (.string k) = true ↔ S k) : TwP (LsA 0 nf S) w e w' := by
  obtain ⟨ks, out, h1, h2, h3, h4, h5, h6⟩ := h
  have hq : OrQ nf S ks out := ⟨h1, fun k => (h2 k).trans (hs k), h3, h4⟩
  have hbb : Below w.heap.size w w' := hb.trans (h5.mono hb.size)
  rcases h6 with ⟨g1, g2⟩ | ⟨g1, v, g2, g3⟩
  · exact ⟨[], 10, _, .inr ⟨rfl, ks, out, hq, .inl ⟨g1, rfl, rfl⟩⟩, g2, World.ownsRow_nil _ _ _ _, hbb⟩
  · exact ⟨out, 0, v, .inr ⟨rfl, ks, out, hq, .inr ⟨g1, rfl, rfl⟩⟩, g2, row_low g3 hb.size, hbb⟩
theorem TwP.bad {R : List ByteArray → Int → Prop} {w w' : World} {c : Int} (hb : Below w.heap.size w w') (hr : R [] c) : TwP R w (.returned (.tuple #[.slice none 0 0, .int .i64 c])) w' := ⟨[], c, _, hr, rfl, World.ownsRow_nil _ _ _ _, hb⟩
theorem Order_tw (ao : Option Addr) (cap : Nat) (L : List Tg) (w : World) (hl : IsTg w ao L) (hn : L.length ≤ 1048576) (hs : ∀ t ∈ L, ∀ y ∈ t.ns, y.size ≤ maxLen) (hk : ∀ t ∈ L, (tnm t).length ≤ maxLen) :
    Calls Tryz.prog 9 #[.slice ao L.length cap] w (TwP (LsA (ckN L) (nfL L) (fun k => k ∈ L.map tnm)) w) := (Order_any ao cap L w hl hn hs hk).mono fun e w' h => by
  rcases h with ⟨h1, rfl, h3⟩ | ⟨h1, w1, h2, h3⟩
  · exact TwP.bad h3 (.inl ⟨h1, rfl, rfl⟩)
  · rw [h1]
    exact h3.tw h2 fun k => has_mem
end Go.Proofs.YtankaiopdbcndaaGreatDoor

/- Cone of a target, whole. -/
namespace Go.Proofs.YtankaiopdbcndaaGreatDoor
open Go.RowKit Go.Shelf Go.Maps Go.WideMaps
theorem tx_one (w : World) (x : ByteArray) : TxIn (w.alloc (.cells #[.string x] 9)) (.slice (some ⟨w.heap.size, 0, none⟩) 1 1) [x] := by
  refine ⟨⟨_, _, _, rfl⟩, by simp, _, _, rfl, .inr ⟨w.heap.size, 0, rfl, by rw [World.size_alloc]; omega, fun j hj => ?_⟩⟩
  have e : j = 0 := by simp at hj; omega
  subst e
  rw [Lib.cell_of_heap (heap_alloc_new w _)]
  rfl
/-- Where one comes from a name on. -/
def CnS (L : List Tg) (x : ByteArray) (k : List UInt8) : Prop := Rs (ndT (nfL L)) (fun j => j = tl x) k
/-- What from makes of one name: the links of its cone. -/
def FoP (L : List Tg) (x : ByteArray) (w w1 : World) (e : Ending) (w' : World) : Prop := ∃ (M2 n : Nat) (D2 : DataW Unit), e = .returned (.map (some M2)) ∧ LK M2 n D2 (nfL L) (lfL L) w' ∧ n ≤ 60 ∧ (∀ k, Maps.has D2 (.string k) = true ↔ CnS L x k) ∧ (∀ k, CnS L x k → k ∈ L.map tnm) ∧ Below w.heap.size w w' ∧ Below w1.heap.size w1 w'
theorem from_one {L : List Tg} {x : ByteArray} {M n : Nat} {w w1 : World} (h : ckW L x = 0) (hm : w1.ownsMap Tryz.prog 9 slE M n (ndD L)) (hb : Below w.heap.size w w1) (htx : ∀ t ∈ L, TxIn w t.vn t.ns) (hs : ∀ t ∈ L, ∀ y ∈ t.ns, y.size ≤ maxLen) (hk : ∀ t ∈ L, (tnm t).length ≤ maxLen) :
    Calls Tryz.prog 35 #[.map (some M), .slice (some ⟨w1.heap.size, 0, none⟩) 1 1] (w1.alloc (.cells #[.string x] 9)) (FoP L x w w1) := by
  obtain ⟨hN, hx⟩ := ckW_ok.1 h
  have hbA : Below w1.heap.size w1 (w1.alloc (.cells #[.string x] 9)) := (Below.refl _ w1).alloc (Nat.le_refl _) _
  have hT := (lt_of hm (fun t ht => (htx t ht).below hb (Nat.le_refl _)) hs).below hbA (Nat.le_refl _)
  refine (from_any M n (ndD L) (L.map tnm) (nfL L) (lfL L) _ hT (by rw [List.length_map]; exact hN.len) hN.cl (fun k hk2 => ?_) _ [x] (tx_one w1 x) (fun y hy => ?_)).mono fun e w' q => ?_
  · obtain ⟨t, ht, rfl⟩ := List.mem_map.1 hk2
    exact hk t ht
  · rw [List.mem_singleton.1 hy]; exact hx
  · obtain ⟨M2, n2, D2, ks, q1, q2, q3, q4, q5, q6, q7, q8, q9⟩ := q
    have hiff : ∀ k, Maps.has D2 (.string k) = true ↔ CnS L x k := fun k => by
      rw [← q5, q6]
      unfold CnS
      simp
    refine ⟨M2, n2, D2, q1, q2, q3, hiff, fun k hk3 => q7 k ((q5 k).2 ((hiff k).2 hk3)), hb.trans ((hbA.trans (q9.mono hbA.size)).mono hb.size), hbA.trans (q9.mono hbA.size)⟩

set_option maxHeartbeats 4000000 in
set_option maxRecDepth 100000 in
theorem Cone_tw (ao : Option Addr) (cap : Nat) (L : List Tg) (x : ByteArray) (w : World) (hl : IsTg w ao L) (hn : L.length ≤ 1048576) (hs : ∀ t ∈ L, ∀ y ∈ t.ns, y.size ≤ maxLen) (hk : ∀ t ∈ L, (tnm t).length ≤ maxLen) (hx : x.size ≤ maxLen) :
    Calls Tryz.prog 19 #[.slice ao L.length cap, .string x] w (TwP (LsA (ckW L x) (nfL L) (CnS L x)) w) := by
  have H1 := needsWith_any ao cap L x w hl hn hs hx
  have HF : Hid (∀ M n w1, ckW L x = 0 → w1.ownsMap Tryz.prog 9 slE M n (ndD L) → Below w.heap.size w w1 → Calls Tryz.prog 35 #[.map (some M), .slice (some ⟨w1.heap.size, 0, none⟩) 1 1] (w1.alloc (.cells #[.string x] 9)) (FoP L x w w1)) := fun M n w1 h0 h1 h2 => from_one h0 h1 h2 (fun t ht => (hl.tx t ht).2.1) hs hk
  have HO : Hid (∀ M2 n D2 w2, LK M2 n D2 (nfL L) (lfL L) w2 → n ≤ 60 → (∀ k, Maps.has D2 (.string k) = true ↔ CnS L x k) → Below w.heap.size w w2 → Calls Tryz.prog 30 #[.map (some M2)] w2 fun e w' => ∃ a1 a2, e = .returned (.tuple #[a1, a2]) ∧ Hid (TwP (LsA 0 (nfL L) (CnS L x)) w e w')) := fun M2 n D2 w2 h1 h2 h3 h4 => (order_any M2 n _ _ _ w2 h1 (Nat.le_trans h1.own.size_le h2)).mono fun e w' h5 => by
    have h6 : TwP (LsA 0 (nfL L) (CnS L x)) w e w' := OrP.tw h5 h4 h3
    obtain ⟨_, _, v, _, he, _⟩ := id h6
    exact ⟨_, _, he, h6⟩
  have HZ : Hid (∀ w', ckW L x ≠ 0 → Below w.heap.size w w' → TwP (LsA (ckW L x) (nfL L) (CnS L x)) w (.returned (.tuple #[.slice none 0 0, .int .i64 (ckW L x)])) w') := fun w' h0 hb => TwP.bad hb (.inl ⟨h0, rfl, rfl⟩)
  unfold NwP at H1
  generalize hQ : TwP (LsA (ckW L x) (nfL L) (CnS L x)) w = Q at HZ ⊢
  have HQ : Hid (∀ e w', TwP (LsA (ckW L x) (nfL L) (CnS L x)) w e w' → Q e w') := fun e w' h => by rw [← hQ]; exact h
  clear hl hn hs hk hx hQ
  generalize L.length = ln at *
  by_cases h0 : ckW L x = 0
  · rw [h0] at HQ
    clear HZ
    go_enter Tryz.func19, Tryz.ntmps19
    go_wp2_with (first
      | (go_at_call 34; refine H1.mono ?_; rintro e w1 ⟨mo, rfl, g1, g2, g3⟩; obtain ⟨M, n, rfl, g4, g5, g6⟩ := g2 h0; rw [h0]; have H2 := HF.out M n w1 h0 g6 g3; clear g1 g2 g3 g4 g5 g6 H1 HF)
      | (go_at_call 35; refine H2.mono ?_; rintro e w2 ⟨M2, n2, D2, rfl, q1, q2, q3, q4, q5, _⟩; have H3 := HO.out M2 n2 D2 w2 q1 q2 q3 q5; clear q1 q2 q3 q4 q5 H2 HO)
      | (go_at_call 30; refine H3.mono ?_; rintro e w3 ⟨a1, a2, rfl, H4⟩)
      | go_in)
    exact HQ.out _ _ H4.out
  · generalize ckW L x = c at *
    have hc1 : ¬(c : Int) = 0 := h0
    have HC : Hid (c ≠ 0) := h0
    clear h0 HF HO HQ
    go_enter Tryz.func19, Tryz.ntmps19
    go_wp2_with (first
      | (go_at_call 34; refine H1.mono ?_; rintro e w1 ⟨mo, rfl, g1, g2, g3⟩; have HB : Hid (Below w.heap.size w w1) := g3; clear g1 g2 g3 H1)
      | go_in)
    exact HZ.out _ HC.out HB.out
end Go.Proofs.YtankaiopdbcndaaGreatDoor

/- Depth of a target, whole. -/
namespace Go.Proofs.YtankaiopdbcndaaGreatDoor
open Go.RowKit Go.Shelf Go.Maps Go.WideMaps
/-- What Depth tells. -/
def DpA (c : Int) (nf : List UInt8 → List ByteArray) (S : List UInt8 → Prop) (x : List UInt8) (n code : Int) : Prop := (c ≠ 0 ∧ n = 0 ∧ code = c) ∨ (c = 0 ∧ ∃ ks o, OrQ nf S ks o ∧ ((o.length < ks.length ∧ n = 0 ∧ code = 10) ∨ (o.length = ks.length ∧ n = dpF nf o x ∧ code = 0)))
theorem dpF_congr {nf nf2 : List UInt8 → List ByteArray} (os : List ByteArray) (h : ∀ x ∈ os, nf (tl x) = nf2 (tl x)) : dpF nf os = dpF nf2 os := by
  refine snocInd (P := fun os => (∀ x ∈ os, nf (tl x) = nf2 (tl x)) → dpF nf os = dpF nf2 os) (fun _ => rfl) (fun l a ih => ?_) os h
  intro h
  rw [dpF_snoc, dpF_snoc, ih fun x hx => h x (List.mem_append_left _ hx), show nf a.data.toList = nf2 a.data.toList from h a (by simp)]
theorem Kn.sub {α : Type} {ks : List α} {nd : α → List α} {lt : α → α → Bool} {out : List α} (h : Kn ks nd lt out) : ∀ k ∈ out, k ∈ ks := fun k hk => by
  obtain ⟨i, hi, rfl⟩ := List.mem_iff_getElem.1 hk
  exact (h i hi).mem
theorem OrQ.sub {nf : List UInt8 → List ByteArray} {S : List UInt8 → Prop} {ks : List (List UInt8)} {out : List ByteArray} (h : OrQ nf S ks out) : ∀ x ∈ out, S (tl x) := fun x hx => (h.mem _).1 (h.kn.sub _ (List.mem_map.2 ⟨x, hx, rfl⟩))
theorem DpA.uniq {c : Int} {nf nf2 : List UInt8 → List ByteArray} {S S2 : List UInt8 → Prop} {x : List UInt8} {n n2 : Int} {e e2 : Int} (h : DpA c nf S x n e) (h2 : DpA c nf2 S2 x n2 e2) (hs : c = 0 → ∀ k, S k ↔ S2 k) (hn : c = 0 → ∀ k, S k → nf k = nf2 k) : n = n2 ∧ e = e2 := by
  rcases h with ⟨a, rfl, rfl⟩ | ⟨a, ks, q, hq, h⟩
  · rcases h2 with ⟨_, rfl, rfl⟩ | ⟨b, _⟩
    · exact ⟨rfl, rfl⟩
    · exact absurd b a
  · rcases h2 with ⟨b, _⟩ | ⟨_, ks2, q2, hq2, h2⟩
    · exact absurd a b
    · obtain ⟨e1, e2⟩ := hq.uniq hq2 (hs a) (hn a)
      subst e1
      rcases h with ⟨h, rfl, rfl⟩ | ⟨h, rfl, rfl⟩
      · rcases h2 with ⟨h2, rfl, rfl⟩ | ⟨h2, rfl, rfl⟩
        · exact ⟨rfl, rfl⟩
        · omega
      · rcases h2 with ⟨h2, rfl, rfl⟩ | ⟨h2, rfl, rfl⟩
        · omega
        · exact ⟨by rw [dpF_congr q fun x hx => hn a _ (hq.sub x hx)], rfl⟩
theorem row_tx {w : World} {B : Nat} {v : Value} {l : List ByteArray} (h : w.ownsRow B 9 1 v l.length (l.map Value.string)) (hl : l.length ≤ 1048576) : TxIn w v l := by
  obtain ⟨ao, c, hv⟩ := row_form h
  refine ⟨row_sl h, hl, ao, c, hv, ?_⟩
  rcases row_at h with e | ⟨g, c2, e, _, hc⟩
  · exact .inl e
  · rw [hv] at e
    injection e with e1 _ _
    by_cases h0 : l = []
    · exact .inl h0
    · have hp : 0 < l.length := List.length_pos_iff.2 h0
      refine .inr ⟨g, 0, e1, by simpa using World.block_lt_of_cell? w _ (hc 0 hp), fun j hj => by rw [Nat.zero_add]; exact hc j hj⟩

set_option maxHeartbeats 4000000 in
set_option maxRecDepth 100000 in
theorem Depth_any (ao : Option Addr) (cap : Nat) (L : List Tg) (x : ByteArray) (w : World) (hl : IsTg w ao L) (hn : L.length ≤ 1048576) (hs : ∀ t ∈ L, ∀ y ∈ t.ns, y.size ≤ maxLen) (hk : ∀ t ∈ L, (tnm t).length ≤ maxLen) (hx : x.size ≤ maxLen) :
    Calls Tryz.prog 25 #[.slice ao L.length cap, .string x] w fun e w' => ∃ n code, DpA (ckW L x) (nfL L) (CnS L x) (tl x) n code ∧ e = .returned (.tuple #[.int .i64 n, .int .i64 code]) ∧ Below w.heap.size w w' := by
  have H1 := needsWith_any ao cap L x w hl hn hs hx
  have HF : Hid (∀ M n w1, ckW L x = 0 → w1.ownsMap Tryz.prog 9 slE M n (ndD L) → Below w.heap.size w w1 → Calls Tryz.prog 35 #[.map (some M), .slice (some ⟨w1.heap.size, 0, none⟩) 1 1] (w1.alloc (.cells #[.string x] 9)) (FoP L x w w1)) := fun M n w1 h0 h1 h2 => from_one h0 h1 h2 (fun t ht => (hl.tx t ht).2.1) hs hk
  have HL : Hid (∀ M n w1, w1.ownsMap Tryz.prog 9 slE M n (ndD L) → Below w.heap.size w w1 → LK M n (ndD L) (nfL L) (lfL L) w1) := fun M n w1 h1 h2 => lk_of h1 (fun t ht => ((hl.tx t ht).2.1).below h2 (Nat.le_refl _)) hs hk
  have HX : Hid (x.size ≤ maxLen) := hx
  have HZ : Hid (∀ w', ckW L x ≠ 0 → Below w.heap.size w w' → ∃ n code, DpA (ckW L x) (nfL L) (CnS L x) (tl x) n code ∧ Ending.returned (.tuple #[.int .i64 0, .int .i64 (ckW L x)]) = .returned (.tuple #[.int .i64 n, .int .i64 code]) ∧ Below w.heap.size w w') := fun w' h0 hb => ⟨0, ckW L x, .inl ⟨h0, rfl, rfl⟩, rfl, hb⟩
  unfold NwP at H1
  by_cases h0 : ckW L x = 0
  · have HN : Hid (L.length ≤ 60) := (ckW_ok.1 h0).1.len
    have HQ : Hid (∀ w' n code, (∃ ks o, OrQ (nfL L) (CnS L x) ks o ∧ ((o.length < ks.length ∧ n = 0 ∧ code = 10) ∨ (o.length = ks.length ∧ n = dpF (nfL L) o (tl x) ∧ code = 0))) → Below w.heap.size w w' → ∃ n2 code2, DpA (ckW L x) (nfL L) (CnS L x) (tl x) n2 code2 ∧ Ending.returned (.tuple #[.int .i64 n, .int .i64 code]) = .returned (.tuple #[.int .i64 n2, .int .i64 code2]) ∧ Below w.heap.size w w') := fun w' n code h hb => ⟨n, code, .inr ⟨h0, h⟩, rfl, hb⟩
    clear HZ hl hn hs hk hx
    by_cases hc : ∃ ks o, OrQ (nfL L) (CnS L x) ks o ∧ o.length < ks.length
    · have HO : Hid (∀ M2 n D2 w2, LK M2 n D2 (nfL L) (lfL L) w2 → n ≤ 60 → (∀ k, Maps.has D2 (.string k) = true ↔ CnS L x k) → Below w.heap.size w w2 → Calls Tryz.prog 30 #[.map (some M2)] w2 fun e w' => e = .returned (.tuple #[.slice none 0 0, .int .i64 10]) ∧ Hid (Below w.heap.size w w')) := fun M2 n D2 w2 h1 h2 h3 h4 => (order_any M2 n _ _ _ w2 h1 (Nat.le_trans h1.own.size_le h2)).mono fun e w' h5 => by
        obtain ⟨ks, out, g1, g2, g3, g4, g5, g6⟩ := h5
        obtain ⟨ks2, o2, q1, q2⟩ := hc
        obtain ⟨e1, e2⟩ := OrQ.uniq (S := CnS L x) ⟨g1, fun k => (g2 k).trans (h3 k), g3, g4⟩ q1 (fun k => Iff.rfl) (fun _ _ => rfl)
        rcases g6 with ⟨_, g6⟩ | ⟨g6, _⟩
        · exact ⟨g6, h4.trans (g5.mono h4.size)⟩
        · rw [e1] at g6; omega
      have HE : Hid (∀ w', Below w.heap.size w w' → ∃ n2 code2, DpA (ckW L x) (nfL L) (CnS L x) (tl x) n2 code2 ∧ Ending.returned (.tuple #[.int .i64 0, .int .i64 10]) = .returned (.tuple #[.int .i64 n2, .int .i64 code2]) ∧ Below w.heap.size w w') := fun w' hb => by
        obtain ⟨ks2, o2, q1, q2⟩ := hc
        exact HQ.out w' 0 10 ⟨ks2, o2, q1, .inl ⟨q2, rfl, rfl⟩⟩ hb
      clear HQ HL hc
      generalize L.length = ln at *
      go_enter Tryz.func25, Tryz.ntmps25
      go_wp2_with (first
        | (go_at_call 34; refine H1.mono ?_; rintro e w1 ⟨mo, rfl, g1, g2, g3⟩; obtain ⟨M, n, rfl, g4, g5, g6⟩ := g2 h0; rw [h0]; have H2 := HF.out M n w1 h0 g6 g3; clear g1 g2 g3 g4 g5 g6 H1 HF)
        | (go_at_call 35; refine H2.mono ?_; rintro e w2 ⟨M2, n2, D2, rfl, q1, q2, q3, q4, q5, _⟩; have H3 := HO.out M2 n2 D2 w2 q1 q2 q3 q5; clear q1 q2 q3 q4 q5 H2 HO)
        | (go_at_call 30; refine H3.mono ?_; rintro e w3 ⟨rfl, H4⟩)
        | go_in)
      go_ret2
      exact HE.out _ H4.out
    · have HO : Hid (∀ M2 n D2 w2, LK M2 n D2 (nfL L) (lfL L) w2 → n ≤ 60 → (∀ k, Maps.has D2 (.string k) = true ↔ CnS L x k) → Below w.heap.size w w2 → Calls Tryz.prog 30 #[.map (some M2)] w2 fun e w' => ∃ v, e = .returned (.tuple #[v, .int .i64 0]) ∧ Hid (∃ ks out, OrQ (nfL L) (CnS L x) ks out ∧ out.length = ks.length ∧ out.length ≤ 60 ∧ TxIn w' v out ∧ Below w2.heap.size w2 w')) := fun M2 n D2 w2 h1 h2 h3 h4 => (order_any M2 n _ _ _ w2 h1 (Nat.le_trans h1.own.size_le h2)).mono fun e w' h5 => by
        obtain ⟨ks, out, g1, g2, g3, g4, g5, g6⟩ := h5
        have hq : OrQ (nfL L) (CnS L x) ks out := ⟨g1, fun k => (g2 k).trans (h3 k), g3, g4⟩
        rcases g6 with ⟨g6, _⟩ | ⟨g6, v, g7, g8⟩
        · exact absurd ⟨ks, out, hq, g6⟩ hc
        · have hlen : out.length ≤ 60 := by
            rw [g6, size_keys h1.own g1 g2]
            exact Nat.le_trans h1.own.size_le h2
          exact ⟨v, g7, ks, out, hq, g6, hlen, row_tx g8 (by omega), g5⟩
      have HD : Hid (∀ M n w1 w2 w3 v, w1.ownsMap Tryz.prog 9 slE M n (ndD L) → Below w.heap.size w w1 → Below w1.heap.size w1 w2 → (∀ k, CnS L x k → k ∈ L.map tnm) → (∃ ks out, OrQ (nfL L) (CnS L x) ks out ∧ out.length = ks.length ∧ out.length ≤ 60 ∧ TxIn w3 v out ∧ Below w2.heap.size w2 w3) → Calls Tryz.prog 39 #[.map (some M), v] w3 fun e w' => ∃ M3, e = .returned (.map (some M3)) ∧ ∃ r, (Instr.lookup 67 (.map (some M3)) (.string x) false).run Tryz.prog w' = .ok (.int .i64 r) w' ∧ Hid (∃ n2 code2, DpA (ckW L x) (nfL L) (CnS L x) (tl x) n2 code2 ∧ Ending.returned (.tuple #[.int .i64 r, .int .i64 0]) = .returned (.tuple #[.int .i64 n2, .int .i64 code2]) ∧ Below w.heap.size w w')) := fun M n w1 w2 w3 v h1 h2 h3 h4 ⟨ks, out, p1, p2, p3, p4, p5⟩ => by
        have hb3 : Below w1.heap.size w1 w3 := h3.trans (p5.mono h3.size)
        have hK := (HL.out M n w1 h1 h2).below hb3 (Nat.le_refl _)
        refine (depths_any M n _ _ _ w3 hK v out p4 p3 fun y hy => has_mem.2 (h4 _ (p1.sub y hy))).mono fun e w' ⟨M3, n3, q1, q2, q3, q4⟩ => ⟨M3, q1, _, q2.look x HX.out, HQ.out w' _ 0 ⟨ks, out, p1, .inr ⟨p2, rfl, rfl⟩⟩ ?_⟩
        have hb4 : Below w.heap.size w w3 := h2.trans (hb3.mono h2.size)
        exact hb4.trans (q4.mono hb4.size)
      clear HQ HL hc
      generalize L.length = ln at *
      go_enter Tryz.func25, Tryz.ntmps25
      go_wp2_with (first
        | (go_at_call 34; refine H1.mono ?_; rintro e w1 ⟨mo, rfl, g1, g2, g3⟩; obtain ⟨M, n, rfl, g4, g5, g6⟩ := g2 h0; rw [h0]; have H2 := HF.out M n w1 h0 g6 g3; have H7 : Hid (w1.ownsMap Tryz.prog 9 slE M n (ndD L) ∧ Below w.heap.size w w1) := ⟨g6, g3⟩; clear g1 g2 g3 g4 g5 g6 H1 HF)
        | (go_at_call 35; refine H2.mono ?_; rintro e w2 ⟨M2, n2, D2, rfl, q1, q2, q3, q4, q5, q6⟩; have H3 := HO.out M2 n2 D2 w2 q1 q2 q3 q5; have H8 : Hid (∀ k, CnS L x k → k ∈ L.map tnm) := q4; have H9 : Hid (Below w1.heap.size w1 w2) := q6; clear q1 q2 q3 q4 q5 H2 HO)
        | (go_at_call 30; refine H3.mono ?_; rintro e w3 ⟨v, rfl, H4⟩; have H5 := HD.out M n w1 w2 w3 v H7.out.1 H7.out.2 H9.out H8.out H4.out; clear H3 HD H4 H7 H8 H9)
        | (go_at_call 39; refine H5.mono ?_; rintro e w4 ⟨M3, rfl, r, hlk, H6⟩)
        | go_in)
      go_ret2
      exact H6.out
  · have HC : Hid (ckW L x ≠ 0) := h0
    clear HF HL
    generalize ckW L x = c at *
    have hc1 : ¬(c : Int) = 0 := h0
    clear h0 hl hn hs hk hx
    generalize L.length = ln at *
    go_enter Tryz.func25, Tryz.ntmps25
    go_wp2_with (first
      | (go_at_call 34; refine H1.mono ?_; rintro e w1 ⟨mo, rfl, g1, g2, g3⟩; have HB : Hid (Below w.heap.size w w1) := g3; clear g1 g2 g3 H1)
      | go_in)
    go_ret2
    exact HZ.out _ HC.out HB.out
end Go.Proofs.YtankaiopdbcndaaGreatDoor
