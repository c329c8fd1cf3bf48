/- TokenEmpty, walked. -/
import Derived.Test.YtdfimmekhbkglaaDoorTkBr
import Derived.Test.YtdfimmekhbkglaaDoorTkLv
namespace Go.Proofs.YtdfimmekhbkglaaDoor
open Go.RowKit Go.Shelf

theorem catM (a b : List UInt8) (hl : a.length + b.length ≤ 9223372036854775807) (W : World) : (Op.stringOp .add (mkB a) (mkB b)).run Tryd.prog W = .ok (.string (mkB (a ++ b))) W := by
  have e : mkB a ++ mkB b = mkB (a ++ b) := by
    rw [mk_self (mkB a ++ mkB b)]
    congr 1
  have h1 := mk_size a
  have h2 := mk_size b
  have hl2 : ((mkB a).size : Int) + ((mkB b).size : Int) ≤ 9223372036854775807 := by omega
  simp [Op.stringOp, e, hl2]

theorem zsh (P : Nat) (l : List Tk) : (l.map (shT P)).map zT = l.map zT := by rw [List.map_map]; rfl

theorem own_up {w w' : World} {base : Nat} {e : TypeId} {size : Nat} {v : Value} {n : Nat} {xs : List Value} (h : w.ownsRow base e size v n xs) (hb : Below w.heap.size w w') : w'.ownsRow base e size v n xs := own_heap h fun g hg => by
  rcases h.2 with ⟨a, _⟩ | ⟨g', cap, cur, hv, _, hg', _⟩
  · subst a; cases hg
  · subst hv
    simp [Value.ownBlock] at hg
    subst hg
    exact hb.block _ (Array.getElem?_eq_some_iff.1 hg').1

theorem lines_cnt (L : List UInt8) : ∀ (f : Nat) (p q : Sp), SpOk L p 1 → linesF L f p = .ok q → q.toks.length ≤ 4 * L.length + 10 := by
  intro f
  induction f with
  | zero => intro p q _ h; cases h
  | succ f ih =>
    intro p q hk h
    have key : ∀ r : Sp, SpOk L r 2 → (r.come 0).toks.length ≤ 4 * L.length + 10 := fun r hr => by
      obtain ⟨_, _, _, _, a⟩ := come_ok hr.ins 0
      have := hr.cnt
      have := hr.pos
      omega
    unfold linesF at h
    split at h
    · cases h; exact key p ⟨hk.pos, hk.ins, hk.i31, hk.o30, by have := hk.cnt; omega⟩
    split at h
    · cases h
    rename_i r hr
    obtain ⟨b, c⟩ := lineF_ok hk hr
    split at h
    · cases h; exact key r b
    · rename_i hne
      have := b.pos
      exact ih { r with pos := r.pos + 1 } q ⟨by show r.pos + 1 ≤ _; omega, b.ins.of rfl, b.i31, b.o30, by show r.toks.length + r.ins.length ≤ 4 * (r.pos + 1) + 1; have := b.cnt; omega⟩ h
theorem splitL_cnt {L : List UInt8} {l : List Tk} (h : splitL L = .ok l) : l.length ≤ 4 * L.length + 10 := by
  unfold splitL at h
  split at h
  · cases h
  rename_i q hq
  cases h
  exact lines_cnt L _ _ _ ⟨Nat.zero_le _, ⟨by simp, rfl⟩, by decide, by decide, by decide⟩ hq

theorem both_ans (k : Nat) (L : List UInt8) (h6 : k + 13 + L.length ≤ 6000) (k1 z1 k2 z2 : Int) (tv tv2 : Value) (W1 W2 : World) (B1 B2 : Nat)
    (hh1 : (splitA L = .error (k1.toNat, z1.toNat) ∧ 0 ≤ k1 ∧ 0 ≤ z1 ∧ tv = .slice none 0 0) ∨ (k1 = 0 ∧ z1 = 0 ∧ ∃ l, splitA L = .ok l ∧ W1.ownsRow B1 30 4 tv l.length (tcs l)))
    (hh2 : (splitA (ahead k ++ L) = .error (k2.toNat, z2.toNat) ∧ 0 ≤ k2 ∧ 0 ≤ z2 ∧ tv2 = .slice none 0 0) ∨ (k2 = 0 ∧ z2 = 0 ∧ ∃ l, splitA (ahead k ++ L) = .ok l ∧ W2.ownsRow B2 30 4 tv2 l.length (tcs l)))
    (hb : Below W1.heap.size W1 W2) :
    k2 = k1 ∧ ((¬ k1 = 0 ∧ z2 = z1 + ((k + 13 : Nat) : Int) ∧ 0 ≤ z1 ∧ z1 ≤ 6000) ∨ (k1 = 0 ∧ ∃ l l2 : List Tk, l.length ≤ 100000 ∧ l2.length = l.length ∧ l2.map zT = l.map zT ∧ W2.ownsRow B1 30 4 tv l.length (tcs l) ∧ W2.ownsRow B2 30 4 tv2 l2.length (tcs l2))) := by
  have hlen : (ahead k ++ L).length = k + 13 + L.length := by rw [List.length_append, ahead_len]
  have e1 : splitA L = splitL L := if_pos (by omega)
  have e2 : splitA (ahead k ++ L) = splitL (ahead k ++ L) := if_pos (by omega)
  rw [e1] at hh1
  rw [e2, splitL_ahead] at hh2
  cases hs : splitL L with
  | error x =>
    obtain ⟨a, b⟩ := x
    rw [hs] at hh1 hh2
    have hz := (splitL_lv L).2 a b hs
    rcases hh1 with ⟨f1, f2, f3, f4⟩ | ⟨_, _, l, f, _⟩
    · rcases hh2 with ⟨g1, g2, g3, g4⟩ | ⟨_, _, l, g, _⟩
      · simp only [Except.error.injEq, Prod.mk.injEq] at f1 g1
        obtain ⟨f1, f1'⟩ := f1
        obtain ⟨g1, g1'⟩ := g1
        have hk : k2 = k1 := by omega
        refine ⟨hk, ?_⟩
        by_cases h0 : k1 = 0
        · subst f4 g4
          exact .inr ⟨h0, [], [], by decide, rfl, rfl, ⟨rfl, .inl ⟨rfl, rfl⟩⟩, ⟨rfl, .inl ⟨rfl, rfl⟩⟩⟩
        · exact .inl ⟨h0, by omega, by omega, by omega⟩
      · cases g
    · cases f
  | ok l =>
    rw [hs] at hh1 hh2
    rcases hh1 with ⟨f, _⟩ | ⟨f0, _, l1, f1, f2⟩
    · cases f
    · rcases hh2 with ⟨g, _⟩ | ⟨g0, _, l2, g1, g2⟩
      · cases g
      · cases f1
        cases g1
        have hc := splitL_cnt hs
        exact ⟨by omega, .inr ⟨f0, l, l.map (shT (k + 13)), by omega, by simp, zsh _ _, own_up f2 hb, g2⟩⟩

set_option maxHeartbeats 8000000 in
set_option maxRecDepth 100000 in
theorem em_walk (L : List UInt8) (bl : Int) (w : World) (hs : L.length ≤ 140737488355328) (hr : ErrR w) (h0 : -9223372036854775808 ≤ bl) (h1 : bl ≤ 9223372036854775807) :
    Calls Tryd.prog 5 #[.string (mkB L), .int .i64 bl] w fun e w' => e = .returned (.bool true) ∧ Below w.heap.size w w' := by
  have HBg : Hid (Calls Tryd.prog 6 #[] w fun e w' => e = .returned (.bool true) ∧ Below w.heap.size w w') := begun_any w hr
  have HCh : Hid (∀ W, Calls Tryd.prog 8 #[.int .i64 bl, .int .i64 9] W fun e w' => e = .returned (.int .i64 (chs bl 9 : Int)) ∧ w' = W) := fun W => choose_any bl 9 W h0 h1 (by decide)
  have hcl := chs_lt bl (m := 9) (by decide)
  have HR : Hid (ErrR w) := hr
  generalize chs bl 9 = r at *
  have HSp : Hid (∀ (X : List UInt8) (W : World), Below w.heap.size w W → Calls Tryd.prog 7 #[.string (mkB X)] W fun e w' => (∃ tv k z, e = .returned (.tuple #[tv, .agg #[.int .i64 k, .int .i64 z]]) ∧ ((splitA X = .error (k.toNat, z.toNat) ∧ 0 ≤ k ∧ 0 ≤ z ∧ tv = .slice none 0 0) ∨ (k = 0 ∧ z = 0 ∧ ∃ l, splitA X = .ok l ∧ w'.ownsRow W.heap.size 30 4 tv l.length (tcs l))) ∧ Below W.heap.size W w')) := by
    intro X W hW
    refine (Split_any X W (HR.out.up hW)).mono ?_
    rintro e w' ⟨h1, h2, h3⟩
    cases hx : splitA X with
    | error x =>
      obtain ⟨k, z⟩ := x
      exact ⟨_, k, z, h1 k z hx, .inl ⟨by simp, by omega, by omega, rfl⟩, h3⟩
    | ok l =>
      obtain ⟨tv, he, ho⟩ := h2 l hx
      exact ⟨tv, 0, 0, he, .inr ⟨rfl, rfl, l, rfl, ho⟩, h3⟩
  have hcv : ∀ W : World, (convert 32 9 (.slice (some ⟨W.heap.size, 0, none⟩) 1 1)).run Tryd.prog (W.alloc (.cells #[.int .u8 10] 5)) = .ok (.string (mkB [10])) (W.alloc (.cells #[.int .u8 10] 5)) := fun W =>
    run_convert_bytes_back (W.alloc (.cells #[.int .u8 10] 5)) 32 9 5 ⟨W.heap.size, 0, none⟩ 1 [10] Tryd.underlying32 Tryd.underlying5 Tryd.underlying9 fun j hj => by
      have : j = 0 := by simp at hj; omega
      subst this
      rw [add0]
      exact al_at W _ _ _ 0 _ rfl rfl
  clear hr h0 h1
  go_enter Tryd.func5, Tryd.ntmps5
  go_wp2_with fail
  refine HBg.out.mono ?_
  rintro e w1 ⟨rfl, hb1⟩
  have hcv1 := hcv w1
  have HB1 : Hid (Below w.heap.size w (w1.alloc (.cells #[.int .u8 10] 5))) := hb1.alloc hb1.size _
  clear hb1 HBg hcv
  go_wp2
  generalize w1.alloc (.cells #[.int .u8 10] 5) = w2 at *
  clear hcv1
  go_loopw [6, 7] (fun v6 v wr => ∃ k : Nat, k ≤ r ∧ v6 = .string (mkB (List.replicate k 32 ++ [10])) ∧ v = .int .i64 (k : Int) ∧ wr = w2) (fun _ v _ => r - (intOf v).toNat)
  case atStart => exact ⟨0, Nat.zero_le _, rfl, rfl, rfl⟩
  case round =>
    obtain ⟨k, hk, rfl, rfl, rfl⟩ := hrel
    by_cases hlt : k < r
    · have hki : (k : Int) < (r : Int) := by omega
      have hct := catM [32] (List.replicate k 32 ++ [10]) (by simp; omega)
      have hrep : [32] ++ (List.replicate k (32 : UInt8) ++ [10]) = List.replicate (k + 1) 32 ++ [10] := by rw [List.replicate_succ]; rfl
      rw [hrep] at hct
      have hct2 : ∀ W, (Op.stringOp .add ⟨#[32]⟩ (mkB (List.replicate k 32 ++ [10]))).run Tryd.prog W = .ok (.string (mkB (List.replicate (k + 1) 32 ++ [10]))) W := hct
      obtain ⟨k1, hk1⟩ : ∃ k1, k1 = k + 1 := ⟨_, rfl⟩
      rw [← hk1] at hct2
      have hk2 : (k : Int) + 1 = (k1 : Int) := by omega
      have hw2 : IntKind.i64.wrap (k1 : Int) = (k1 : Int) := by rw [IntKind.wrap_i64]; omega
      have HK : Hid (k1 = k + 1) := hk1
      clear hct hrep hk1
      generalize mkB (List.replicate k 32 ++ [10]) = x0 at *
      generalize hx1 : mkB (List.replicate k1 32 ++ [10]) = x1 at *
      have HX1 : Hid (mkB (List.replicate k1 32 ++ [10]) = x1) := hx1
      clear hx1
      go_wp2_with fail
      refine (HCh.out wr).mono ?_
      rintro e w3 ⟨rfl, rfl⟩
      go_wp2
      refine ⟨⟨k1, by rw [HK.out]; exact hlt, by rw [HX1.out], rfl, trivial⟩, ?_⟩
      have := HK.out
      simp [intOf]; omega
    · have hki : ¬ (k : Int) < (r : Int) := by omega
      have hkr : k = r := by omega
      subst hkr
      have hmk : mkB (List.replicate k 32 ++ [10] ++ (ahead1 ++ [10] ++ L)) = mkB (ahead k ++ L) := by unfold ahead; simp
      have hA1 : ahead1.length = 11 := rfl
      have t1 := catM ahead1 [10] (by decide)
      have t2 := catM (ahead1 ++ [10]) L (by simp [hA1]; omega)
      have t3 := catM (List.replicate k 32 ++ [10]) (ahead1 ++ [10] ++ L) (by simp [hA1]; omega)
      rw [hmk] at t3
      have t1' : ∀ W, (Op.stringOp .add ⟨#[32, 32, 35, 32, 110, 111, 116, 104, 105, 110, 103]⟩ (mkB [10])).run Tryd.prog W = .ok (.string (mkB (ahead1 ++ [10]))) W := t1
      have hlen : (ahead k ++ L).length = k + 13 + L.length := by rw [List.length_append, ahead_len]
      have hszT : (mkB (ahead k ++ L)).size = k + 13 + L.length := by rw [mk_size, hlen]
      have hszL : (mkB L).size = L.length := mk_size L
      -- both answers
      have HS1 : Hid (Calls Tryd.prog 7 #[.string (mkB L)] wr fun e w' => ∃ tv k z, e = .returned (.tuple #[tv, .agg #[.int .i64 k, .int .i64 z]]) ∧ ((splitA L = .error (k.toNat, z.toNat) ∧ 0 ≤ k ∧ 0 ≤ z ∧ tv = .slice none 0 0) ∨ (k = 0 ∧ z = 0 ∧ ∃ l, splitA L = .ok l ∧ w'.ownsRow wr.heap.size 30 4 tv l.length (tcs l))) ∧ Below wr.heap.size wr w') := HSp.out L wr HB1.out
      have HS2 : Hid (∀ W, Below w.heap.size w W → Calls Tryd.prog 7 #[.string (mkB (ahead k ++ L))] W fun e w' => ∃ tv k_1 z, e = .returned (.tuple #[tv, .agg #[.int .i64 k_1, .int .i64 z]]) ∧ ((splitA (ahead k ++ L) = .error (k_1.toNat, z.toNat) ∧ 0 ≤ k_1 ∧ 0 ≤ z ∧ tv = .slice none 0 0) ∨ (k_1 = 0 ∧ z = 0 ∧ ∃ l, splitA (ahead k ++ L) = .ok l ∧ w'.ownsRow W.heap.size 30 4 tv l.length (tcs l))) ∧ Below W.heap.size W w') := fun W hW => HSp.out (ahead k ++ L) W hW
      clear t1 hmk HSp hlen hA1
      go_wp2_with fail
      refine (HCh.out wr).mono ?_
      rintro e w3 ⟨rfl, rfl⟩
      have hki : ¬ (k : Int) < (k : Int) := by omega
      generalize mkB (ahead k ++ L) = xt at *
      generalize mkB L = xl at *
      generalize mkB (ahead1 ++ [10]) = xa at *
      generalize mkB (ahead1 ++ [10] ++ L) = xb at *
      generalize mkB (List.replicate k 32 ++ [10]) = xc at *
      have HsT : Hid (xt.size = k + 13 + L.length) := hszT
      have HsL : Hid (xl.size = L.length) := hszL
      clear hszT hszL
      go_wp2_with fail
      refine HS1.out.mono ?_
      rintro e w4 ⟨tv, k1, z1, rfl, hh1, hb4⟩
      have HH1 : Hid (((splitA L = .error (k1.toNat, z1.toNat) ∧ 0 ≤ k1 ∧ 0 ≤ z1 ∧ tv = .slice none 0 0) ∨ (k1 = 0 ∧ z1 = 0 ∧ ∃ l, splitA L = .ok l ∧ w4.ownsRow w3.heap.size 30 4 tv l.length (tcs l))) ∧ Below w3.heap.size w3 w4) := ⟨hh1, hb4⟩
      clear hh1 hb4
      go_wp2_with fail
      refine (HS2.out _ ?_).mono ?_
      · exact HB1.out.trans ((HH1.out.2.alloc HH1.out.2.size _).mono HB1.out.size)
      rintro e w6 ⟨tv2, k2, z2, rfl, hh2, hb6⟩
      have hb5 : Below w.heap.size w (w4.alloc (.cells #[.int .i64 k1, .int .i64 z1] 26)) := HB1.out.trans ((HH1.out.2.alloc HH1.out.2.size _).mono HB1.out.size)
      have hz5 : (w4.alloc (.cells #[.int .i64 k1, .int .i64 z1] 26)).heap.size = w4.heap.size + 1 := World.size_alloc _ _
      have hz6 := hb6.size
      have hz45 : w4.heap.size < w6.heap.size := by omega
      have l5 := heap_alloc_new w4 (.cells #[.int .i64 k1, .int .i64 z1] 26)
      have l6 : w6.heap[w4.heap.size]? = _ := (hb6.block w4.heap.size (by omega)).trans l5
      have hb67 : Below w6.heap.size w6 (w6.alloc (.cells #[.int .i64 k2, .int .i64 z2] 26)) := (Below.refl _ w6).alloc (Nat.le_refl _) _
      have l7 : (w6.alloc (.cells #[.int .i64 k2, .int .i64 z2] 26)).heap[w4.heap.size]? = _ := (hb67.block w4.heap.size hz45).trans l6
      have l8 := heap_alloc_new w6 (.cells #[.int .i64 k2, .int .i64 z2] 26)
      have c0 : (w6.alloc (.cells #[.int .i64 k2, .int .i64 z2] 26)).cell? ⟨w4.heap.size, 0, none⟩ = some (.int .i64 k1) := by rw [Lib.cell_of_heap l7]; rfl
      have c1 : (w6.alloc (.cells #[.int .i64 k2, .int .i64 z2] 26)).cell? ⟨w4.heap.size, 1, none⟩ = some (.int .i64 z1) := by rw [Lib.cell_of_heap l7]; rfl
      have c2 : (w6.alloc (.cells #[.int .i64 k2, .int .i64 z2] 26)).cell? ⟨w6.heap.size, 0, none⟩ = some (.int .i64 k2) := by rw [Lib.cell_of_heap l8]; rfl
      have c3 : (w6.alloc (.cells #[.int .i64 k2, .int .i64 z2] 26)).cell? ⟨w6.heap.size, 1, none⟩ = some (.int .i64 z2) := by rw [Lib.cell_of_heap l8]; rfl
      have hbw6 : Below w.heap.size w w6 := hb5.trans (hb6.mono hb5.size)
      have HB7 : Hid (Below w.heap.size w (w6.alloc (.cells #[.int .i64 k2, .int .i64 z2] 26))) := hbw6.alloc hbw6.size _
      have hb46 : Below w4.heap.size w4 w6 := ((Below.refl _ w4).alloc (Nat.le_refl _) _).trans (hb6.mono (by omega))
      by_cases h6 : k + 13 + L.length ≤ 6000
      · have BA := both_ans k L h6 k1 z1 k2 z2 tv tv2 w4 w6 _ _ HH1.out.1 hh2 hb46
        clear hh2 HH1 HS1 HS2 hb5 hb46 hbw6 l5 l6 l7 l8 hb67 hb6 hz5 hz6 hz45
        have hn6 : ¬ (6000 : Int) < (xt.size : Int) := by rw [HsT.out]; omega
        obtain ⟨rfl, BA⟩ := BA
        rcases BA with ⟨hk0, hz2, hz0, hz1⟩ | ⟨rfl, l, l2, hl1, hl2, hl3, ho1, ho2⟩
        · obtain ⟨y1, hy1⟩ : ∃ y1 : Int, y1 = z1 + (xt.size : Int) := ⟨_, rfl⟩
          have hsT := HsT.out
          have hsL := HsL.out
          have x1 : IntKind.i64.wrap (z1 + (xt.size : Int)) = y1 := by rw [IntKind.wrap_i64]; omega
          have x2 : wrap64 (z1 + (xt.size : Int)) = y1 := by unfold wrap64; omega
          have x3 : IntKind.i64.wrap (y1 - (xl.size : Int)) = z2 := by rw [IntKind.wrap_i64]; omega
          have x4 : wrap64 (y1 - (xl.size : Int)) = z2 := by unfold wrap64; omega
          clear hy1 hz2 hz0 hz1 hsT hsL h6 HsT HsL
          by_cases h2 : k2 = 2
          · subst h2
            by_cases hz : z1 = 0
            · subst hz
              go_wp2
              go_ret
              exact ⟨rfl, HB7.out⟩
            · go_wp2
              go_ret
              exact ⟨rfl, HB7.out⟩
          · go_wp2
            go_ret
            exact ⟨rfl, HB7.out⟩
        · have hc2 : l.length ≤ 100000 := hl1
          have HO : Hid ((w6.alloc (.cells #[.int .i64 0, .int .i64 z2] 26)).ownsRow w3.heap.size 30 4 tv l.length (tcs l) ∧ (w6.alloc (.cells #[.int .i64 0, .int .i64 z2] 26)).ownsRow (w4.alloc (.cells #[.int .i64 0, .int .i64 z1] 26)).heap.size 30 4 tv2 l2.length (tcs l2)) := ⟨ho1.alloc _, ho2.alloc _⟩
          clear ho1 ho2 h6 hl1 HsT HsL
          go_wp2_with fail
          generalize hw7 : w6.alloc (.cells #[.int .i64 0, .int .i64 z2] 26) = w7 at *
          clear hw7
          refine (bare_any _ tv l w7 HO.out.1 hc2).mono ?_
          rintro e w8 ⟨v8, rfl, ho8, hb8⟩
          have H8 : Hid (w8.ownsRow w7.heap.size 30 4 v8 l.length (tcs (l.map zT)) ∧ w8.ownsRow (w4.alloc (.cells #[.int .i64 0, .int .i64 z1] 26)).heap.size 30 4 tv2 l2.length (tcs l2) ∧ Below w.heap.size w w8) := ⟨ho8, own_up HO.out.2 hb8, HB7.out.trans (hb8.mono HB7.out.size)⟩
          clear ho8 hb8 HO HB7
          go_wp2_with fail
          refine (bare_any _ tv2 l2 w8 H8.out.2.1 (by rw [hl2]; exact hc2)).mono ?_
          rintro e w9 ⟨v9, rfl, ho9, hb9⟩
          have H9 : Hid (w9.ownsRow w7.heap.size 30 4 v8 l.length (tcs (l.map zT)) ∧ w9.ownsRow w8.heap.size 30 4 v9 l2.length (tcs (l.map zT)) ∧ Below w.heap.size w w9) := ⟨own_up H8.out.1 hb9, hl3 ▸ ho9, H8.out.2.2.trans (hb9.mono H8.out.2.2.size)⟩
          clear ho9 hb9 H8
          go_wp2_with fail
          refine (sameTokens_any _ _ v8 v9 (l.map zT) l.length l2.length w9 (by simp) (by rw [hl2]; simp) H9.out.1 H9.out.2.1 (by simpa using hc2)).mono ?_
          rintro e w10 ⟨rfl, m, rfl⟩
          have HE : Hid (Below w.heap.size w (w9.drewN m)) := below_drewN H9.out.2.2 m
          go_wp2
          go_ret
          exact ⟨rfl, HE.out⟩
      · have hn6 : (6000 : Int) < (xt.size : Int) := by rw [HsT.out]; omega
        clear hh2 HH1 HS1 HS2 hb5 hb46 hbw6 l5 l6 l7 l8 hb67 hb6 hz5 hz6 hz45 c0 c1 c2 c3 h6
        go_wp2
        go_ret
        exact ⟨rfl, HB7.out⟩
end Go.Proofs.YtdfimmekhbkglaaDoor
