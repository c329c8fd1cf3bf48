/- post: what is asked for a part. -/
import Derived.Laws.OwnMore
import Derived.Deep.RegionHeld3
import Derived.Shelf.Strconv.Clone
import Derived.Test.YtcaeeackccgclaaGreatDoorTb5
namespace Go.Proofs.YtcaeeackccgclaaGreatDoor
open Go.RowKit Go.Shelf
attribute [local go_sem ↓] fld0 fld1 fld2 fld3

/-- What is called: its blocks are some that stay; what comes of it lies there, or is new. -/
def CallC (P T Y : Nat) (m : Ex → Ps → Px Ex) : Prop := ∀ (W : World) (S : Nat → Prop) (e : Ex) (c : List Value) (p : Ps) (z : Except Ft (Ex × Ps)), PsA P T W p → ExA W S e c → (∀ g, S g → g ≠ P) → m e p = some z → Calls Tryz.prog Y #[pt P, .agg c.toArray] W (PoA P T (fun w' x v => ∃ c', v = .agg c'.toArray ∧ ExA w' (fun g => S g ∨ W.heap.size ≤ g) x c') W z)
/-- Where post stands. -/
def PoI (P T n L : Nat) (w : World) (E : Ps → Px Ex) (z : Except Ft (Ex × Ps)) (wr : World) : Prop := ∃ e p f c, psL E f e p = some z ∧ PsA P T wr p ∧ KP P w wr ∧ EV wr L c ∧ ExA wr (fun g => n + 1 ≤ g ∧ g ≠ L) e c ∧ wr.heap[n]? = some ez
theorem EV.five {w : World} {L : Nat} {v0 v1 v2 v3 v4 : Value} (h : EV w L [v0, v1, v2, v3, v4]) : w.cell? ⟨L, 0, none⟩ = some v0 ∧ w.cell? ⟨L, 1, none⟩ = some v1 ∧ w.cell? ⟨L, 2, none⟩ = some v2 ∧ w.cell? ⟨L, 3, none⟩ = some v3 ∧ w.cell? ⟨L, 4, none⟩ = some v4 := ⟨h.2 0 v0 rfl, h.2 1 v1 rfl, h.2 2 v2 rfl, h.2 3 v3 rfl, h.2 4 v4 rfl⟩
theorem EV.fz {w : World} {L : Nat} {c : List Value} (h : EV w L c) (i : Nat) : w.frozen? ⟨L, i, none⟩ = false := by
  obtain ⟨⟨c0, h1, _⟩, _⟩ := h
  exact Lib.frozen_of_heap h1 i
theorem idx_facts {P T n m : Nat} {W w4 : World} {L : Nat} {e y : Ex} {a1 a2 b1 b2 : Option Addr} {c1 c2 d1 d2 : Nat} {q : Ps} (hPl : P < W.heap.size) (hTl : T < W.heap.size) (hs1 : W.heap.size < L) (hev : EV w4 L [.int .i64 e.kind, .int .i64 e.num, .string (mkB e.text), .slice a1 e.kids.length c1, .slice a2 e.names.length c2]) (hr : w4.heap[W.heap.size]? = some ez)
    (hx : ExA w4 (fun g => n + 1 ≤ g ∧ g ≠ L) e [.int .i64 e.kind, .int .i64 e.num, .string (mkB e.text), .slice a1 e.kids.length c1, .slice a2 e.names.length c2]) (hy : ExA w4 (fun g => m ≤ g) y [.int .i64 y.kind, .int .i64 y.num, .string (mkB y.text), .slice b1 y.kids.length d1, .slice b2 y.names.length d2]) (hm : L < m) (hp : PsA P T w4 q) (hk : KP P W w4) (hn : n = W.heap.size) :
    PsA P T ((w4.alloc (.cells #[.int .i64 e.kind, .int .i64 e.num, .string (mkB e.text), .slice a1 e.kids.length c1, .slice a2 e.names.length c2, .int .i64 y.kind, .int .i64 y.num, .string (mkB y.text), .slice b1 y.kids.length d1, .slice b2 y.names.length d2] 38)).setCells L 0 [.int .i64 11, .int .i64 0, .string ⟨#[]⟩, .slice (some ⟨w4.heap.size, 0, none⟩) 2 2, .slice none 0 0]) q ∧ ((w4.alloc (.cells #[.int .i64 e.kind, .int .i64 e.num, .string (mkB e.text), .slice a1 e.kids.length c1, .slice a2 e.names.length c2, .int .i64 y.kind, .int .i64 y.num, .string (mkB y.text), .slice b1 y.kids.length d1, .slice b2 y.names.length d2] 38)).setCells L 0 [.int .i64 11, .int .i64 0, .string ⟨#[]⟩, .slice (some ⟨w4.heap.size, 0, none⟩) 2 2, .slice none 0 0]).heap[W.heap.size]? = some ez ∧ EV ((w4.alloc (.cells #[.int .i64 e.kind, .int .i64 e.num, .string (mkB e.text), .slice a1 e.kids.length c1, .slice a2 e.names.length c2, .int .i64 y.kind, .int .i64 y.num, .string (mkB y.text), .slice b1 y.kids.length d1, .slice b2 y.names.length d2] 38)).setCells L 0 [.int .i64 11, .int .i64 0, .string ⟨#[]⟩, .slice (some ⟨w4.heap.size, 0, none⟩) 2 2, .slice none 0 0]) L [.int .i64 11, .int .i64 0, .string ⟨#[]⟩, .slice (some ⟨w4.heap.size, 0, none⟩) 2 2, .slice none 0 0] ∧ KP P W ((w4.alloc (.cells #[.int .i64 e.kind, .int .i64 e.num, .string (mkB e.text), .slice a1 e.kids.length c1, .slice a2 e.names.length c2, .int .i64 y.kind, .int .i64 y.num, .string (mkB y.text), .slice b1 y.kids.length d1, .slice b2 y.names.length d2] 38)).setCells L 0 [.int .i64 11, .int .i64 0, .string ⟨#[]⟩, .slice (some ⟨w4.heap.size, 0, none⟩) 2 2, .slice none 0 0]) ∧ ExA ((w4.alloc (.cells #[.int .i64 e.kind, .int .i64 e.num, .string (mkB e.text), .slice a1 e.kids.length c1, .slice a2 e.names.length c2, .int .i64 y.kind, .int .i64 y.num, .string (mkB y.text), .slice b1 y.kids.length d1, .slice b2 y.names.length d2] 38)).setCells L 0 [.int .i64 11, .int .i64 0, .string ⟨#[]⟩, .slice (some ⟨w4.heap.size, 0, none⟩) 2 2, .slice none 0 0]) (fun g => n + 1 ≤ g ∧ g ≠ L) ⟨11, 0, [], [e, y], []⟩ [.int .i64 11, .int .i64 0, .string ⟨#[]⟩, .slice (some ⟨w4.heap.size, 0, none⟩) 2 2, .slice none 0 0] ∧ L < ((w4.alloc (.cells #[.int .i64 e.kind, .int .i64 e.num, .string (mkB e.text), .slice a1 e.kids.length c1, .slice a2 e.names.length c2, .int .i64 y.kind, .int .i64 y.num, .string (mkB y.text), .slice b1 y.kids.length d1, .slice b2 y.names.length d2] 38)).setCells L 0 [.int .i64 11, .int .i64 0, .string ⟨#[]⟩, .slice (some ⟨w4.heap.size, 0, none⟩) 2 2, .slice none 0 0]).heap.size ∧
    (w4.alloc (.cells #[.int .i64 e.kind, .int .i64 e.num, .string (mkB e.text), .slice a1 e.kids.length c1, .slice a2 e.names.length c2, .int .i64 y.kind, .int .i64 y.num, .string (mkB y.text), .slice b1 y.kids.length d1, .slice b2 y.names.length d2] 38)).cell? ⟨L, 0, none⟩ = some (.int .i64 e.kind) ∧ (w4.alloc (.cells #[.int .i64 e.kind, .int .i64 e.num, .string (mkB e.text), .slice a1 e.kids.length c1, .slice a2 e.names.length c2, .int .i64 y.kind, .int .i64 y.num, .string (mkB y.text), .slice b1 y.kids.length d1, .slice b2 y.names.length d2] 38)).cell? ⟨L, 1, none⟩ = some (.int .i64 e.num) ∧ (w4.alloc (.cells #[.int .i64 e.kind, .int .i64 e.num, .string (mkB e.text), .slice a1 e.kids.length c1, .slice a2 e.names.length c2, .int .i64 y.kind, .int .i64 y.num, .string (mkB y.text), .slice b1 y.kids.length d1, .slice b2 y.names.length d2] 38)).cell? ⟨L, 2, none⟩ = some (.string (mkB e.text)) ∧ (w4.alloc (.cells #[.int .i64 e.kind, .int .i64 e.num, .string (mkB e.text), .slice a1 e.kids.length c1, .slice a2 e.names.length c2, .int .i64 y.kind, .int .i64 y.num, .string (mkB y.text), .slice b1 y.kids.length d1, .slice b2 y.names.length d2] 38)).cell? ⟨L, 3, none⟩ = some (.slice a1 e.kids.length c1) ∧ (w4.alloc (.cells #[.int .i64 e.kind, .int .i64 e.num, .string (mkB e.text), .slice a1 e.kids.length c1, .slice a2 e.names.length c2, .int .i64 y.kind, .int .i64 y.num, .string (mkB y.text), .slice b1 y.kids.length d1, .slice b2 y.names.length d2] 38)).cell? ⟨L, 4, none⟩ = some (.slice a2 e.names.length c2) ∧
    (w4.alloc (.cells #[.int .i64 e.kind, .int .i64 e.num, .string (mkB e.text), .slice a1 e.kids.length c1, .slice a2 e.names.length c2, .int .i64 y.kind, .int .i64 y.num, .string (mkB y.text), .slice b1 y.kids.length d1, .slice b2 y.names.length d2] 38)).frozen? ⟨L, 0, none⟩ = false ∧ (w4.alloc (.cells #[.int .i64 e.kind, .int .i64 e.num, .string (mkB e.text), .slice a1 e.kids.length c1, .slice a2 e.names.length c2, .int .i64 y.kind, .int .i64 y.num, .string (mkB y.text), .slice b1 y.kids.length d1, .slice b2 y.names.length d2] 38)).frozen? ⟨L, 1, none⟩ = false ∧ (w4.alloc (.cells #[.int .i64 e.kind, .int .i64 e.num, .string (mkB e.text), .slice a1 e.kids.length c1, .slice a2 e.names.length c2, .int .i64 y.kind, .int .i64 y.num, .string (mkB y.text), .slice b1 y.kids.length d1, .slice b2 y.names.length d2] 38)).frozen? ⟨L, 2, none⟩ = false ∧ (w4.alloc (.cells #[.int .i64 e.kind, .int .i64 e.num, .string (mkB e.text), .slice a1 e.kids.length c1, .slice a2 e.names.length c2, .int .i64 y.kind, .int .i64 y.num, .string (mkB y.text), .slice b1 y.kids.length d1, .slice b2 y.names.length d2] 38)).frozen? ⟨L, 3, none⟩ = false ∧ (w4.alloc (.cells #[.int .i64 e.kind, .int .i64 e.num, .string (mkB e.text), .slice a1 e.kids.length c1, .slice a2 e.names.length c2, .int .i64 y.kind, .int .i64 y.num, .string (mkB y.text), .slice b1 y.kids.length d1, .slice b2 y.names.length d2] 38)).frozen? ⟨L, 4, none⟩ = false := by
  subst hn
  have hl := hev.lt
  have hA : EV (w4.alloc (.cells #[.int .i64 e.kind, .int .i64 e.num, .string (mkB e.text), .slice a1 e.kids.length c1, .slice a2 e.names.length c2, .int .i64 y.kind, .int .i64 y.num, .string (mkB y.text), .slice b1 y.kids.length d1, .slice b2 y.names.length d2] 38)) L [.int .i64 e.kind, .int .i64 e.num, .string (mkB e.text), .slice a1 e.kids.length c1, .slice a2 e.names.length c2] := hev.keep (heap_al _ _ _ hl)
  obtain ⟨u0, u1, u2, u3, u4⟩ := hA.five
  have gF : ∀ g, g ≠ L → g < w4.heap.size → ((w4.alloc (.cells #[.int .i64 e.kind, .int .i64 e.num, .string (mkB e.text), .slice a1 e.kids.length c1, .slice a2 e.names.length c2, .int .i64 y.kind, .int .i64 y.num, .string (mkB y.text), .slice b1 y.kids.length d1, .slice b2 y.names.length d2] 38)).setCells L 0 [.int .i64 11, .int .i64 0, .string ⟨#[]⟩, .slice (some ⟨w4.heap.size, 0, none⟩) 2 2, .slice none 0 0]).heap[g]? = w4.heap[g]? := fun g hg hg2 => (heap_sets _ [.int .i64 11, .int .i64 0, .string ⟨#[]⟩, .slice (some ⟨w4.heap.size, 0, none⟩) 2 2, .slice none 0 0] 0 _ g hg).trans (heap_al w4 _ g hg2)
  have gT : ((w4.alloc (.cells #[.int .i64 e.kind, .int .i64 e.num, .string (mkB e.text), .slice a1 e.kids.length c1, .slice a2 e.names.length c2, .int .i64 y.kind, .int .i64 y.num, .string (mkB y.text), .slice b1 y.kids.length d1, .slice b2 y.names.length d2] 38)).setCells L 0 [.int .i64 11, .int .i64 0, .string ⟨#[]⟩, .slice (some ⟨w4.heap.size, 0, none⟩) 2 2, .slice none 0 0]).heap[w4.heap.size]? = some (.cells #[.int .i64 e.kind, .int .i64 e.num, .string (mkB e.text), .slice a1 e.kids.length c1, .slice a2 e.names.length c2, .int .i64 y.kind, .int .i64 y.num, .string (mkB y.text), .slice b1 y.kids.length d1, .slice b2 y.names.length d2] 38) := (heap_sets _ [.int .i64 11, .int .i64 0, .string ⟨#[]⟩, .slice (some ⟨w4.heap.size, 0, none⟩) 2 2, .slice none 0 0] 0 _ _ (by omega)).trans (heap_alloc_new w4 _)
  have hrl : W.heap.size < w4.heap.size := (Array.getElem?_eq_some_iff.1 hr).1
  refine ⟨hp.keep (gF P (by omega) (by omega)) (gF T (by omega) (by omega)), (gF _ (by omega) hrl).trans hr, hA.put rfl, (hk.trans (KP.al P w4 _)).sets (by omega) _, ?_, by rw [size_sets, World.size_alloc]; omega, u0, u1, u2, u3, u4, hA.fz 0, hA.fz 1, hA.fz 2, hA.fz 3, hA.fz 4⟩
  refine ExA.make (x := ⟨11, 0, [], [e, y], []⟩) (vs := [[.int .i64 e.kind, .int .i64 e.num, .string (mkB e.text), .slice a1 e.kids.length c1, .slice a2 e.names.length c2], [.int .i64 y.kind, .int .i64 y.num, .string (mkB y.text), .slice b1 y.kids.length d1, .slice b2 y.names.length d2]]) ⟨rfl, .inr ⟨w4.heap.size, 2, _, rfl, Nat.zero_le _, gT, Nat.le_refl _, by decide, rfl, rfl⟩⟩ (World.ownsRow_nil _ _ _ _) (fun g hg => ?_) (fun g hg => by cases hg) ⟨hx.keep (fun g hg hg2 => gF g hg.2 hg2) (fun g hg _ => hg), hy.keep (fun g hg hg2 => gF g (by omega) hg2) (fun g hg _ => ⟨by omega, by omega⟩), trivial⟩
  have := ob_le (k := w4.heap.size) hg (Nat.le_refl _)
  exact ⟨by omega, by omega⟩

set_option maxHeartbeats 16000000 in
set_option linter.unusedSimpArgs false in
set_option maxRecDepth 100000 in
theorem post_any {P T : Nat} {E : Ps → Px Ex} (hE : MethC P T 70 E) (hAt : MethC P T 158 (atm E)) (hCa : CallC P T 159 (fun e => lst [41] (caE E) ⟨10, 0, [], [e], []⟩)) : MethC P T 156 (pst E) := by
  intro W p z h hz
  have hPl := h.lt
  have hTl := h.ltT
  have h0 := h.up (alB W ez)
  have hk0 := KP.al P W ez
  have hr0 := heap_alloc_new W ez
  have HE : Hid (MethC P T 70 E) := hE
  have HCa : Hid (CallC P T 159 (fun e => lst [41] (caE E) ⟨10, 0, [], [e], []⟩)) := hCa
  have HC : Hid (∀ z', atm E p = some z' → Calls Tryz.prog 158 #[pt P] (W.alloc ez) (PoA P T (VE (W.heap.size + 1)) (W.alloc ez) z')) := fun z' hz' => by
    have := hAt _ p z' h0 hz'
    rwa [World.size_alloc] at this
  clear hE hAt hCa h h0
  rcases bnd_some hz with ⟨x, hx, rfl⟩ | ⟨x, q, hx, hq⟩
  · have HC1 := HC.out _ hx
    clear HC
    go_enter Tryz.func156, Tryz.ntmps156
    go_wp2_with fail
    refine HC1.mono ?_
    rintro e w1 hpo
    obtain ⟨rfl, hk⟩ := bad_panic hpo hk0
    exact ⟨rfl, rfl, hk⟩
  · have HC1 := HC.out _ hx
    clear HC
    go_enter Tryz.func156, Tryz.ntmps156
    go_wp2_with fail
    refine HC1.mono ?_
    rintro e w1 ⟨v, rfl, ⟨c, rfl, hx1⟩, hp1, hk1⟩
    have hr1 := hk1.heapEq hr0 (by omega)
    have hs1 : W.heap.size < w1.heap.size := (Array.getElem?_eq_some_iff.1 hr1).1
    have hkw := hk0.trans hk1
    obtain ⟨t1, r1, x1, g1⟩ := var5 hx1
    obtain ⟨-, i1, o1, -, j1⟩ := fin5 hr1 rfl hx1
    have HF : Hid ((w1.alloc ez).there w1.heap.size 0 c.toArray.size ∧ (Tryz.prog.info? 38).map (·.size) = some c.toArray.size ∧ c.toArray.all (·.oneCell') = true) := ⟨t1, i1, o1⟩
    have HJ : Hid (PoI P T W.heap.size w1.heap.size W E z ((w1.alloc ez).setCells w1.heap.size 0 c)) := ⟨x, q, _, c, hq, hp1.keep (g1 P (by omega)) (g1 T (by omega)), (hkw.trans (KP.al P w1 ez)).sets (by omega) c, EV.new hx1.len, x1.mono (fun g hg _ => ⟨hg.1, by omega⟩), (g1 _ hs1).trans hr1⟩
    clear t1 r1 x1 g1 i1 o1 j1 hkw hr1 hk1 hp1 hx1 HC1 hk0 hr0 hq hx hz
    go_wp2_with (first
      | (refine wpList_store_mid rfl 38 (Operand.tmp 3) (Operand.tmp 5) rfl w1.heap.size 0 c.toArray rfl rfl HF.out.1 HF.out.2.1 HF.out.2.2 ?_)
      | fail)
    simp only [Act.put]
    go_loopw [] (fun wr => Hid (PoI P T W.heap.size w1.heap.size W E z wr)) (fun wr => tkLen P wr)
    case atStart => exact HJ
    case round =>
      obtain ⟨e, p', f, c', hj, hps, hk, hev, hxe, hrr⟩ := hrel.out
      clear hrel HJ HF
      cases f with
      | zero => cases hj
      | succ f =>
      unfold psL at hj
      have htk := hps.tk
      cases hb0 : p'.sees [[40]] with
      | true =>
        simp only [hb0, cond_true] at hj
        go_wp2_with fail
        refine (passSign_yes hps (x := [40]) hb0).mono ?_
        rintro e2 w2 ⟨rfl, hk2, hp2⟩
        have hxe2 : ExA w2 (fun g => W.heap.size + 1 ≤ g ∧ g ≠ w1.heap.size) e c' := hxe.keep (fun g hg hg2 => hk2.blk g hg2 (by omega)) (fun g hg _ => hg)
        have hev2 := hev.keep (hk2.blk _ hev.lt (by omega))
        have hrr2 := hk2.heapEq hrr (by omega)
        have hkw2 := hk.trans hk2
        have HG : Hid (w2.rangeAt w1.heap.size 0 c' ∧ (Tryz.prog.info? 38).map (·.size) = some c'.length) := ⟨hev2.2, by rw [hxe2.len]; exact szE⟩
        clear hk2 hxe hev hrr hk hps
        rcases bnd_some hj with ⟨y, hy, rfl⟩ | ⟨y, q2, hy, hj2⟩
        · have HD := HCa.out w2 _ e c' p'.adv _ hp2 hxe2 (fun g hg e9 => by have := hg.1; omega) hy
          clear hj hy hp2 HE HCa hxe2 hev2 hrr2
          go_wp2_with (first
            | (refine wpList_load_mid rfl 38 (Operand.tmp 3) rfl w1.heap.size 0 rfl c' _ HG.out.1 Tryz.underlying38 rfl HG.out.2 ?_)
            | fail)
          refine HD.mono ?_
          rintro e3 w3 hpo
          obtain ⟨rfl, hk3⟩ := bad_panic hpo hkw2
          exact ⟨rfl, rfl, hk3⟩
        · have HD := HCa.out w2 _ e c' p'.adv _ hp2 hxe2 (fun g hg e9 => by have := hg.1; omega) hy
          obtain ⟨hle, hj4⟩ := iff_some hj2
          have hle2 : q2.toks.length < p'.toks.length := of_decide_eq_true hle
          clear hj hy hp2 HE HCa hxe2 hj2 hle
          go_wp2_with (first
            | (refine wpList_load_mid rfl 38 (Operand.tmp 3) rfl w1.heap.size 0 rfl c' _ HG.out.1 Tryz.underlying38 rfl HG.out.2 ?_)
            | fail)
          refine HD.mono ?_
          rintro e3 w3 ⟨v3, rfl, ⟨c3, rfl, hx3⟩, hp3, hk3⟩
          have hev3 := hev2.keep (hk3.blk _ hev2.lt (by omega))
          have hrr3 := hk3.heapEq hrr2 (by omega)
          have hl2 := hev2.lt
          have htk3 := hp3.tk
          have ht3 : w3.there w1.heap.size 0 c3.toArray.size := by
            obtain ⟨⟨c0, h1, h2⟩, _⟩ := hev3
            have h3 : c3.toArray.size = c0.size := by rw [h2]; exact hx3.len
            rw [h3]
            exact there_of h1
          have HK : Hid (w3.there w1.heap.size 0 c3.toArray.size ∧ (Tryz.prog.info? 38).map (·.size) = some c3.toArray.size ∧ c3.toArray.all (·.oneCell') = true) := ⟨ht3, by have : c3.toArray.size = 5 := hx3.len; rw [this]; exact szE, all_oneCell_toArray hx3.one⟩
          have HJ : Hid (PoI P T W.heap.size w1.heap.size W E z (w3.setCells w1.heap.size 0 c3)) := ⟨y, q2, f, c3, hj4, hp3.sets (by omega) (by omega) _, (hkw2.trans hk3).sets (by omega) _, hev3.put hx3.len, hx3.keep (fun g hg _ => heap_sets w1.heap.size c3 0 w3 g (by rcases hg with hg | hg; (· exact hg.2); (· omega))) (fun g hg _ => by rcases hg with hg | hg; (· exact hg); (· exact ⟨by omega, by omega⟩)), (heap_sets w1.heap.size c3 0 w3 _ (by omega)).trans hrr3⟩
          have htk9 : tkLen P (w3.setCells w1.heap.size 0 c3) = tkLen P w3 := by
            unfold tkLen
            rw [show (w3.setCells w1.heap.size 0 c3).cell? ⟨P, 0, none⟩ = w3.cell? ⟨P, 0, none⟩ from World.cell?_of_block (heap_sets w1.heap.size c3 0 w3 P (by omega))]
          clear ht3 hev3 hrr3 hx3 hp3 hk3 HD hev2 hrr2 hkw2 HG hj4
          go_wp2_with (first
            | (refine wpList_store_mid rfl 38 (Operand.tmp 3) (Operand.tmp 12) rfl w1.heap.size 0 c3.toArray rfl rfl HK.out.1 HK.out.2.1 HK.out.2.2 ?_)
            | fail)
          simp only [Act.put]
          go_roundw
          case rel => exact HJ
          case measure => rw [htk, htk9, htk3]; exact hle2
      | false =>
      simp only [hb0, cond_false] at hj
      go_wp2_with fail
      refine (passSign_no hps (x := [40]) hb0).mono ?_
      rintro e2 w2 ⟨rfl, hk2, hp2⟩
      have hxe2 : ExA w2 (fun g => W.heap.size + 1 ≤ g ∧ g ≠ w1.heap.size) e c' := hxe.keep (fun g hg hg2 => hk2.blk g hg2 (by omega)) (fun g hg _ => hg)
      have hev2 := hev.keep (hk2.blk _ hev.lt (by omega))
      have hrr2 := hk2.heapEq hrr (by omega)
      have hkw2 := hk.trans hk2
      clear hk2 hxe hev hrr hk hps
      cases hb1 : p'.sees [[91]] with
      | false =>
        simp only [hb1, cond_false] at hj
        cases hj
        go_wp2_with fail
        refine (passSign_no hp2 (x := [91]) hb1).mono ?_
        rintro e3 w3 ⟨rfl, hk3, hp3⟩
        have hxe3 : ExA w3 (fun g => W.heap.size + 1 ≤ g ∧ g ≠ w1.heap.size) e c' := hxe2.keep (fun g hg hg2 => hk3.blk g hg2 (by omega)) (fun g hg _ => hg)
        have hev3 := hev2.keep (hk3.blk _ hev2.lt (by omega))
        have hrr3 := hk3.heapEq hrr2 (by omega)
        obtain ⟨t2, i2, o2, l2, j2⟩ := fin5 hrr3 rfl hxe3
        have HZ : Hid (PoA P T (VE W.heap.size) W (.ok (e, p')) (.returned (.agg c'.toArray)) (w3.setCells W.heap.size 0 c')) := poE_fin2 (Nat.le_refl _) hxe3 (fun g hg => ⟨by omega, by omega⟩) hp3 (hkw2.trans hk3) hPl hTl
        have HG : Hid (w3.rangeAt w1.heap.size 0 c' ∧ (Tryz.prog.info? 38).map (·.size) = some c'.length ∧ w3.there W.heap.size 0 c'.toArray.size ∧ (Tryz.prog.info? 38).map (·.size) = some c'.toArray.size ∧ c'.toArray.all (·.oneCell') = true ∧ (loadVar 38 ⟨W.heap.size, 0, none⟩).run Tryz.prog (w3.setCells W.heap.size 0 c') = .ok (.agg c'.toArray) (w3.setCells W.heap.size 0 c')) := ⟨hev3.2, j2, t2, i2, o2, l2⟩
        clear t2 i2 o2 l2 j2 hxe2 hev2 hrr2 hkw2 hp2 hxe3 hev3 hrr3 hk3 hp3
        go_wp2_with (first
          | (refine wpList_load_mid rfl 38 (Operand.tmp 3) rfl w1.heap.size 0 rfl c' _ HG.out.1 Tryz.underlying38 rfl HG.out.2.1 ?_)
          | (refine wpList_store_mid rfl 38 (Operand.tmp 2) (Operand.tmp 6) rfl W.heap.size 0 c'.toArray rfl rfl HG.out.2.2.1 HG.out.2.2.2.1 HG.out.2.2.2.2.1 ?_)
          | fail)
        refine bodyPost_ret (v := .agg c'.toArray) (res_one Tryz.results156 _ _ rfl HG.out.2.2.2.2.2) rfl HZ.out
      | true =>
        simp only [hb1, cond_true] at hj
        go_wp2_with fail
        refine (passSign_yes hp2 (x := [91]) hb1).mono ?_
        rintro e3 w3 ⟨rfl, hk3, hp3⟩
        have hxe3 : ExA w3 (fun g => W.heap.size + 1 ≤ g ∧ g ≠ w1.heap.size) e c' := hxe2.keep (fun g hg hg2 => hk3.blk g hg2 (by omega)) (fun g hg _ => hg)
        obtain ⟨a1, c1, a2, c2, hc3⟩ := hxe3.form
        subst hc3
        have hev3 := hev2.keep (hk3.blk _ hev2.lt (by omega))
        have hrr3 := hk3.heapEq hrr2 (by omega)
        obtain ⟨x0, x1, x2, x3, x4⟩ := hev3.five
        have HB : Hid (KP P W w3 ∧ EV w3 w1.heap.size [.int .i64 e.kind, .int .i64 e.num, .string (mkB e.text), .slice a1 e.kids.length c1, .slice a2 e.names.length c2] ∧ w3.heap[W.heap.size]? = some ez ∧ ExA w3 (fun g => W.heap.size + 1 ≤ g ∧ g ≠ w1.heap.size) e [.int .i64 e.kind, .int .i64 e.num, .string (mkB e.text), .slice a1 e.kids.length c1, .slice a2 e.names.length c2]) := ⟨hkw2.trans hk3, hev3, hrr3, hxe3⟩
        clear hxe2 hev2 hrr2 hkw2 hp2 hev3 hrr3 hk3 hxe3
        rcases bnd_some hj with ⟨y, hy, rfl⟩ | ⟨y, q2, hy, hj2⟩
        · have HD := HE.out w3.drew _ _ (hp3.drewN 1) hy
          clear hj hy hp3 HE HCa
          go_wp2_with fail
          refine wp_region_any (by kernel_rfl) ?_
          refine wpAny_take (i := 1) (v := pt P) (by rfl) (by kernel_rfl) (by kernel_rfl) (by kernel_rfl) (by intro c a w h; exact h) (.inl ⟨by kernel_rfl, fun _ => by kernel_rfl⟩) ?_
          try simp only [Act.put, List.setIfInBounds_toArray, List.set_cons_zero, List.set_cons_succ]
          change wpAny _ _ _ _ _ _ _ w3.drew
          refine wpAny_ready (rs := [0, 2]) (by kernel_rfl) (by simp) (AllReady.cons (by rfl) (fun K hK => ?_) (AllReady.cons (by rfl) (fun K hK => ?_) AllReady.nil))
          · refine step_call (by rfl) ?_
            go_simp
            refine hK _ _ ?_
            clear hK K
            try simp only [Act.put, List.setIfInBounds_toArray, List.set_cons_zero, List.set_cons_succ]
            refine wpAny_ready (rs := [2]) (by kernel_rfl) (by simp) (AllReady.cons (by rfl) (fun K hK => ?_) AllReady.nil)
            refine step_call (by rfl) ?_
            go_simp
            refine HD.mono ?_
            rintro e9 w4 hpo
            obtain ⟨rfl, hk4⟩ := bad_panic hpo HB.out.1.drew
            exact ⟨rfl, rfl, hk4⟩
          · refine step_call (by rfl) ?_
            go_simp
            refine HD.mono ?_
            rintro e9 w4 hpo
            obtain ⟨rfl, hk4⟩ := bad_panic hpo HB.out.1.drew
            exact ⟨rfl, rfl, hk4⟩
        · have HD := HE.out w3.drew _ _ (hp3.drewN 1) hy
          clear hj hy hp3 HE HCa
          go_wp2_with fail
          refine wp_region_any (by kernel_rfl) ?_
          refine wpAny_take (i := 1) (v := pt P) (by rfl) (by kernel_rfl) (by kernel_rfl) (by kernel_rfl) (by intro c a w h; exact h) (.inl ⟨by kernel_rfl, fun _ => by kernel_rfl⟩) ?_
          try simp only [Act.put, List.setIfInBounds_toArray, List.set_cons_zero, List.set_cons_succ]
          change wpAny _ _ _ _ _ _ _ w3.drew
          refine wpAny_ready (rs := [0, 2]) (by kernel_rfl) (by simp) (AllReady.cons (by rfl) (fun K hK => ?_) (AllReady.cons (by rfl) (fun K hK => ?_) AllReady.nil))
          · refine step_call (by rfl) ?_
            go_simp
            refine hK _ _ ?_
            clear hK K
            try simp only [Act.put, List.setIfInBounds_toArray, List.set_cons_zero, List.set_cons_succ]
            refine wpAny_ready (rs := [2]) (by kernel_rfl) (by simp) (AllReady.cons (by rfl) (fun K hK => ?_) AllReady.nil)
            refine step_call (by rfl) ?_
            go_simp
            refine HD.mono ?_
            rintro e9 w4 ⟨v4, rfl, ⟨c4, rfl, hx4⟩, hp4, hk4⟩
            obtain ⟨b1, d1, b2, d2, hc4⟩ := hx4.form
            subst hc4
            have hev4 : EV w4 w1.heap.size [.int .i64 e.kind, .int .i64 e.num, .string (mkB e.text), .slice a1 e.kids.length c1, .slice a2 e.names.length c2] := HB.out.2.1.keep (hk4.blk _ HB.out.2.1.lt (by omega))
            have hr4 : w4.heap[W.heap.size]? = some ez := hk4.heapEq (a := w3.drew) HB.out.2.2.1 (by omega)
            have hs4 : w1.heap.size < w4.heap.size := hev4.lt
            obtain ⟨u0, u1, u2, u3, u4⟩ := hev4.five
            obtain ⟨hT5, hR5, hS5, hP5, hK5, hX5, ho0, ho1, ho2, ho3, ho4, hf0, hf1, hf2, hf3, hf4⟩ := idx_facts hPl hTl hs1 hev4 hr4 (HB.out.2.2.2.keep (fun g hg hg2 => hk4.blk g hg2 (by omega)) (fun g hg _ => hg)) hx4 (by show w1.heap.size < w3.heap.size; exact HB.out.2.1.lt) hp4 (HB.out.1.drew.trans hk4) rfl
            clear hx4 hp4 hk4 hr4 hev4
            refine hK _ _ ?_
            clear hK K
            try simp only [Act.put, List.setIfInBounds_toArray, List.set_cons_zero, List.set_cons_succ]
            clear u0 u1 u2 u3 u4 hs4
            refine wpAny_ready (rs := [3]) (by kernel_rfl) (by simp) (AllReady.cons (by rfl) (fun K hK => ?_) AllReady.nil)
            refine step_call (by rfl) ?_
            go_simp
            refine hK _ _ ?_
            clear hK K
            try simp only [Act.put, List.setIfInBounds_toArray, List.set_cons_zero, List.set_cons_succ]
            refine wpAny_ready (rs := [4]) (by kernel_rfl) (by simp) (AllReady.cons (by rfl) (fun K hK => ?_) AllReady.nil)
            refine step_call (by rfl) ?_
            go_simp
            refine hK _ _ ?_
            clear hK K
            try simp only [Act.put, List.setIfInBounds_toArray, List.set_cons_zero, List.set_cons_succ]
            refine wpAny_ready (rs := [5]) (by kernel_rfl) (by simp) (AllReady.cons (by rfl) (fun K hK => ?_) AllReady.nil)
            refine step_call (by rfl) ?_
            go_simp
            refine hK _ _ ?_
            clear hK K
            refine wpAny_done (by kernel_rfl) ?_ _
            try simp only [Act.put, List.setIfInBounds_toArray, List.set_cons_zero, List.set_cons_succ]
            rw [sets5] at hT5 hR5 hS5 hP5 hK5 hX5
            rcases bnd_some hj2 with ⟨x9, hx9, rfl⟩ | ⟨_, q4, hx9, hj3⟩
            · have HT := takeSign_any hT5 [93] hx9
              go_wp2_with fail
              refine HT.mono ?_
              rintro e8 w8 hpo
              obtain ⟨rfl, hk8⟩ := bad_panic hpo hP5
              exact ⟨rfl, rfl, hk8⟩
            · have HT := takeSign_any hT5 [93] hx9
              obtain ⟨hle, hj4⟩ := iff_some hj3
              have hle2 : q4.toks.length < p'.toks.length := of_decide_eq_true hle
              go_wp2_with fail
              refine HT.mono ?_
              rintro e8 w8 ⟨v8, rfl, rfl, hp8, hk8⟩
              have htk8 := hp8.tk
              have HJ : Hid (PoI P T W.heap.size w1.heap.size W E z w8) := ⟨_, q4, f, _, hj4, hp8, hP5.trans hk8, hS5.keep (hk8.blk _ hX5 (by omega)), hK5.keep (fun g hg hg2 => hk8.blk g hg2 (by omega)) (fun g hg _ => hg), hk8.heapEq hR5 (by omega)⟩
              clear hle hj3 hj4 hj2 hT5 hR5 hS5 hP5 hK5 hX5 HT hp8 hk8 HB HD
              go_wp2
              exact ⟨HJ, by rw [htk8, htk]; exact hle2⟩
          · refine step_call (by rfl) ?_
            go_simp
            refine HD.mono ?_
            rintro e9 w4 ⟨v4, rfl, ⟨c4, rfl, hx4⟩, hp4, hk4⟩
            obtain ⟨b1, d1, b2, d2, hc4⟩ := hx4.form
            subst hc4
            have hev4 : EV w4 w1.heap.size [.int .i64 e.kind, .int .i64 e.num, .string (mkB e.text), .slice a1 e.kids.length c1, .slice a2 e.names.length c2] := HB.out.2.1.keep (hk4.blk _ HB.out.2.1.lt (by omega))
            have hr4 : w4.heap[W.heap.size]? = some ez := hk4.heapEq (a := w3.drew) HB.out.2.2.1 (by omega)
            have hs4 : w1.heap.size < w4.heap.size := hev4.lt
            obtain ⟨u0, u1, u2, u3, u4⟩ := hev4.five
            obtain ⟨hT5, hR5, hS5, hP5, hK5, hX5, ho0, ho1, ho2, ho3, ho4, hf0, hf1, hf2, hf3, hf4⟩ := idx_facts hPl hTl hs1 hev4 hr4 (HB.out.2.2.2.keep (fun g hg hg2 => hk4.blk g hg2 (by omega)) (fun g hg _ => hg)) hx4 (by show w1.heap.size < w3.heap.size; exact HB.out.2.1.lt) hp4 (HB.out.1.drew.trans hk4) rfl
            clear hx4 hp4 hk4 hr4 hev4
            refine hK _ _ ?_
            clear hK K
            try simp only [Act.put, List.setIfInBounds_toArray, List.set_cons_zero, List.set_cons_succ]
            refine wpAny_ready (rs := [0]) (by kernel_rfl) (by simp) (AllReady.cons (by rfl) (fun K hK => ?_) AllReady.nil)
            refine step_call (by rfl) ?_
            go_simp
            refine hK _ _ ?_
            clear hK K
            try simp only [Act.put, List.setIfInBounds_toArray, List.set_cons_zero, List.set_cons_succ]
            clear u0 u1 u2 u3 u4 hs4
            refine wpAny_ready (rs := [3]) (by kernel_rfl) (by simp) (AllReady.cons (by rfl) (fun K hK => ?_) AllReady.nil)
            refine step_call (by rfl) ?_
            go_simp
            refine hK _ _ ?_
            clear hK K
            try simp only [Act.put, List.setIfInBounds_toArray, List.set_cons_zero, List.set_cons_succ]
            refine wpAny_ready (rs := [4]) (by kernel_rfl) (by simp) (AllReady.cons (by rfl) (fun K hK => ?_) AllReady.nil)
            refine step_call (by rfl) ?_
            go_simp
            refine hK _ _ ?_
            clear hK K
            try simp only [Act.put, List.setIfInBounds_toArray, List.set_cons_zero, List.set_cons_succ]
            refine wpAny_ready (rs := [5]) (by kernel_rfl) (by simp) (AllReady.cons (by rfl) (fun K hK => ?_) AllReady.nil)
            refine step_call (by rfl) ?_
            go_simp
            refine hK _ _ ?_
            clear hK K
            refine wpAny_done (by kernel_rfl) ?_ _
            try simp only [Act.put, List.setIfInBounds_toArray, List.set_cons_zero, List.set_cons_succ]
            rw [sets5] at hT5 hR5 hS5 hP5 hK5 hX5
            rcases bnd_some hj2 with ⟨x9, hx9, rfl⟩ | ⟨_, q4, hx9, hj3⟩
            · have HT := takeSign_any hT5 [93] hx9
              go_wp2_with fail
              refine HT.mono ?_
              rintro e8 w8 hpo
              obtain ⟨rfl, hk8⟩ := bad_panic hpo hP5
              exact ⟨rfl, rfl, hk8⟩
            · have HT := takeSign_any hT5 [93] hx9
              obtain ⟨hle, hj4⟩ := iff_some hj3
              have hle2 : q4.toks.length < p'.toks.length := of_decide_eq_true hle
              go_wp2_with fail
              refine HT.mono ?_
              rintro e8 w8 ⟨v8, rfl, rfl, hp8, hk8⟩
              have htk8 := hp8.tk
              have HJ : Hid (PoI P T W.heap.size w1.heap.size W E z w8) := ⟨_, q4, f, _, hj4, hp8, hP5.trans hk8, hS5.keep (hk8.blk _ hX5 (by omega)), hK5.keep (fun g hg hg2 => hk8.blk g hg2 (by omega)) (fun g hg _ => hg), hk8.heapEq hR5 (by omega)⟩
              clear hle hj3 hj4 hj2 hT5 hR5 hS5 hP5 hK5 hX5 HT hp8 hk8 HB HD
              go_wp2
              exact ⟨HJ, by rw [htk8, htk]; exact hle2⟩
end Go.Proofs.YtcaeeackccgclaaGreatDoor

/- listed: what stands up to a closing sign. -/
namespace Go.Proofs.YtcaeeackccgclaaGreatDoor
open Go.RowKit Go.Shelf
attribute [local go_sem ↓] fld0 fld1 fld2 fld3

/-- What a step comes to that changes what lies in memory. -/
def LPo {σ : Type} (J : World → σ → Ps → Prop) (N : World → Prop) (z : Except Ft (σ × Ps)) (e : Ending) (w' : World) : Prop := match z with
  | .error (k, x) => e = PF k x ∧ N w'
  | .ok (s, q) => e = .returned (.tuple #[]) ∧ J w' s q
structure Liv {σ : Type} (P T : Nat) (J : World → σ → Ps → Prop) (N : World → Prop) : Prop where
  ps : ∀ W s p, J W s p → PsA P T W p
  kp : ∀ W s p w' p', J W s p → KP P W w' → PsA P T w' p' → J w' s p'
  n : ∀ W s p, J W s p → N W
  nk : ∀ W w', N W → KP P W w' → N w'
def EachC {σ : Type} (F : Nat) (caps : Array Value) (J : World → σ → Ps → Prop) (N : World → Prop) (each : σ → Ps → Px σ) : Prop := (∀ args w, (callFunc F args).run Tryz.prog w = .ok (.enter F args) w) ∧ ∀ W s p z, J W s p → each s p = some z → Calls Tryz.prog F caps W (LPo J N z)
theorem bad_lpo {σ : Type} {J : World → σ → Ps → Prop} {N : World → Prop} {x : Ft} {e : Ending} {w2 : World} (h : LPo J N (.error x) e w2) : e = PF x.1 x.2 ∧ N w2 := by
  obtain ⟨k, a⟩ := x
  exact h
theorem lpo_err {σ : Type} {J : World → σ → Ps → Prop} {N : World → Prop} {x : Ft} {w2 : World} (h : N w2) : LPo J N (.error x) (PF x.1 x.2) w2 := by
  obtain ⟨k, a⟩ := x
  exact ⟨rfl, h⟩
/-- Where listed stands. -/
def LsI {σ : Type} (J : World → σ → Ps → Prop) (c : List UInt8) (each : σ → Ps → Px σ) (z : Except Ft (σ × Ps)) (b : Bool) (wr : World) : Prop := ∃ s p f, lsL c each f b s p = some z ∧ J wr s p

set_option maxHeartbeats 8000000 in
set_option maxRecDepth 100000 in
theorem listed_any {σ : Type} {P T F : Nat} {caps : Array Value} {J : World → σ → Ps → Prop} {N : World → Prop} (hL : Liv P T J N) {each : σ → Ps → Px σ} (hm : EachC F caps J N each) (c : List UInt8) {w : World} {s : σ} {p : Ps} (h : J w s p) {z : Except Ft (σ × Ps)} (hz : lst c each s p = some z) :
    Calls Tryz.prog 74 #[pt P, .string (mkB c), .func (.func F) #[] caps] w (LPo J N z) := by
  have hent := hm.1
  have HM : Hid (EachC F caps J N each) := hm
  have HL : Hid (Liv P T J N) := hL
  have HJ : Hid (LsI J c each z true w) := ⟨s, p, _, hz, h⟩
  clear hm hL h hz
  go_enter Tryz.func74, Tryz.ntmps74
  go_wp2
  go_loopw [6] (fun u wr => ∃ b : Bool, u = .bool b ∧ Hid (LsI J c each z b wr)) (fun _ wr => tkLen P wr)
  case atStart => exact ⟨true, rfl, HJ⟩
  case round =>
    obtain ⟨b, rfl, hrel⟩ := hrel
    obtain ⟨s', p', f, hj, hJ⟩ := hrel.out
    clear hrel HJ
    cases f with
    | zero => cases hj
    | succ f =>
    unfold lsL at hj
    have hps := HL.out.ps _ _ _ hJ
    have htk := hps.tk
    cases hb : p'.sees [c] with
    | true =>
      simp only [hb, cond_true] at hj
      cases hj
      have HP := passSign_yes hps (x := c) hb
      clear hps
      go_wp2_with (go_at_call 72; refine HP.mono ?_; rintro e2 w2 ⟨rfl, hk2, hp2⟩)
      go_end0
      exact ⟨rfl, HL.out.kp _ _ _ _ _ hJ hk2 hp2⟩
    | false =>
      simp only [hb, cond_false] at hj
      have HP := passSign_no hps (x := c) hb
      clear hps
      go_wp2_with fail
      refine HP.mono ?_
      rintro e2 w2 ⟨rfl, hk2, hp2⟩
      have hJ2 := HL.out.kp _ _ _ _ _ hJ hk2 hp2
      clear HP hk2 hJ
      cases b with
      | true =>
        simp only [cond_true] at hj
        replace hj : (bnd (each s' p') fun s q => iff (less q p') (lsL c each f false s q)) = some z := hj
        rcases bnd_some hj with ⟨x, hx, rfl⟩ | ⟨s3, q3, hx, hj2⟩
        · have HC := HM.out.2 _ _ _ _ hJ2 hx
          clear hJ2 hx hp2 hj
          go_wp2_with fail
          refine HC.mono ?_
          rintro e3 w3 hpo
          obtain ⟨rfl, hn⟩ := bad_lpo hpo
          exact ⟨rfl, lpo_err hn⟩
        · have HC := HM.out.2 _ _ _ _ hJ2 hx
          obtain ⟨hle, hj3⟩ := iff_some hj2
          have hle2 : q3.toks.length < p'.toks.length := of_decide_eq_true hle
          clear hJ2 hx hp2 hj hj2 hle
          go_wp2_with fail
          refine HC.mono ?_
          rintro e3 w3 ⟨rfl, hJ3⟩
          have htk3 := (HL.out.ps _ _ _ hJ3).tk
          have HJ3 : Hid (LsI J c each z false w3) := ⟨_, _, f, hj3, hJ3⟩
          clear hJ3 hj3 HC
          go_wp2
          exact ⟨⟨false, rfl, HJ3⟩, by rw [htk3, htk]; exact hle2⟩
      | false =>
        simp only [cond_false] at hj
        rcases bnd_some hj with ⟨x, hx, rfl⟩ | ⟨_, q2, hx, hj2⟩
        · have HC := takeSign_any hp2 [44] hx
          have HN : Hid (N w2) := HL.out.n _ _ _ hJ2
          clear hJ2 hx hp2 hj
          go_wp2_with fail
          refine HC.mono ?_
          rintro e3 w3 hpo
          obtain ⟨rfl, hk⟩ := bad_panic hpo (KP.refl P w2)
          exact ⟨rfl, lpo_err (HL.out.nk _ _ HN.out hk)⟩
        · have HC := takeSign_any hp2 [44] hx
          clear hx hp2 hj
          go_wp2_with fail
          refine HC.mono ?_
          rintro e3 w3 ⟨v3, rfl, rfl, hp3, hk3⟩
          have hJ3 := HL.out.kp _ _ _ _ _ hJ2 hk3 hp3
          clear hJ2 hk3 hp3 HC
          rcases bnd_some hj2 with ⟨x, hx, rfl⟩ | ⟨s4, q4, hx, hj3⟩
          · have HC := HM.out.2 _ _ _ _ hJ3 hx
            clear hJ3 hx hj2
            go_wp2_with fail
            refine HC.mono ?_
            rintro e4 w4 hpo
            obtain ⟨rfl, hn⟩ := bad_lpo hpo
            exact ⟨rfl, lpo_err hn⟩
          · have HC := HM.out.2 _ _ _ _ hJ3 hx
            obtain ⟨hle, hj4⟩ := iff_some hj3
            have hle2 : q4.toks.length < p'.toks.length := of_decide_eq_true hle
            clear hJ3 hx hj2 hj3 hle
            go_wp2_with fail
            refine HC.mono ?_
            rintro e4 w4 ⟨rfl, hJ4⟩
            have htk4 := (HL.out.ps _ _ _ hJ4).tk
            have HJ4 : Hid (LsI J c each z false w4) := ⟨_, _, f, hj4, hJ4⟩
            clear hJ4 hj4 HC
            go_wp2
            exact ⟨⟨false, rfl, HJ4⟩, by rw [htk4, htk]; exact hle2⟩
end Go.Proofs.YtcaeeackccgclaaGreatDoor

/- split: what was given up is caught. -/
namespace Go.Proofs.YtcaeeackccgclaaGreatDoor
open Go.RowKit Go.Shelf

theorem infF : (Tryz.prog.info? 25).map (fun i => (i.zero, i.size, i.bytes)) = some (some (.agg #[.int .i64 0, .int .i64 0]), 2, 16) := by
  kernel_rfl
theorem ta_nil (xT : TypeId) (w : World) : (Instr.typeAssert .nilIface xT 25 true).run Tryz.prog w = .ok (.tuple #[.agg #[.int .i64 0, .int .i64 0], .bool false]) w := by
  obtain ⟨i0, hi, hz0, hz1, hz2⟩ := info_p infF
  simp [Instr.typeAssert, run_underlying Tryz.underlying25, zeroValue, typeInfo, hi, hz0, go_sem, Result.andThen]
theorem ta_yes (v : Value) (xT : TypeId) (w : World) : (Instr.typeAssert (.iface 25 v) xT 25 true).run Tryz.prog w = .ok (.tuple #[v, .bool true]) w := by
  simp [Instr.typeAssert, run_underlying Tryz.underlying25, go_sem, Result.andThen]

set_option maxHeartbeats 2000000 in
set_option maxRecDepth 100000 in
theorem catch_idle (p q : Addr) (w : World) :
    CallsD Tryz.prog 30 #[.pointer (some p), .pointer (some q)] .returning w fun e u' w' => e = .returned (.tuple #[]) ∧ u' = .returning ∧ Below w.heap.size w w' := by
  refine callsD_of_wpS Tryz.func30 rfl fun c₀ cs hu => ?_
  apply wpS_seq
  apply wpS_region
  simp [wpOpsS, go_sem, recoverD, hu, Tryz.ntmps30, Exit.thenS, ta_nil]
  apply wpS_seq
  apply wpS_region
  simp [wpOpsS, go_sem, Exit.thenS]
  refine wpS_cond (t := false) (by simp [Act.eval, Array.replicate]) ?_
  simp only [Bool.false_eq_true, if_false]
  refine wpS_of_wp (wp_skip ?_)
  have hb : Below w.heap.size w (w.alloc (.cells #[.int .i64 0, .int .i64 0] 25)) := (Below.refl _ w).alloc (Nat.le_refl _) _
  cases c₀
  simp_all [bodyPostS, results, Tryz.results30]

set_option maxHeartbeats 2000000 in
set_option maxRecDepth 100000 in
theorem catch_pan (B lb fb : Nat) (x y0 y1 : Value) (k : Int) (z : Nat) (older : List PanicEntry) (w : World) (h0 : w.cell? ⟨lb, 0, none⟩ = some x) (h1 : w.cell? ⟨fb, 0, none⟩ = some y0) (h2 : w.cell? ⟨fb, 1, none⟩ = some y1)
    (f0 : w.frozen? ⟨lb, 0, none⟩ = false) (f1 : w.frozen? ⟨fb, 0, none⟩ = false) (f2 : w.frozen? ⟨fb, 1, none⟩ = false) (hn : ¬ lb = fb) (hB : B ≤ lb) (hB2 : B ≤ fb) :
    CallsD Tryz.prog 30 #[.pointer (some ⟨lb, 0, none⟩), .pointer (some ⟨fb, 0, none⟩)] (.panicking ({ v := .iface 25 (.agg #[.int .i64 k, .int .i64 z]), recovered := false } :: older)) w fun e u' w' =>
      e = .returned (.tuple #[]) ∧ u' = .panicking ({ v := .iface 25 (.agg #[.int .i64 k, .int .i64 z]), recovered := true } :: older) ∧ w'.cell? ⟨lb, 0, none⟩ = some (.slice none 0 0) ∧ w'.cell? ⟨fb, 0, none⟩ = some (.int .i64 k) ∧ w'.cell? ⟨fb, 1, none⟩ = some (.int .i64 z) ∧ Below B w w' := by
  refine callsD_of_wpS Tryz.func30 rfl fun c₀ cs hu => ?_
  apply wpS_seq
  apply wpS_region
  simp [wpOpsS, go_sem, recoverD, hu, Tryz.ntmps30, Exit.thenS, ta_yes]
  apply wpS_seq
  apply wpS_region
  simp [wpOpsS, go_sem, Exit.thenS]
  refine wpS_cond (t := true) (by simp [Act.eval, Array.replicate]) ?_
  simp only [if_true]
  refine wpS_of_wp ?_
  simp [Array.replicate]
  have hpl : lb < w.heap.size := World.block_lt_of_cell? w ⟨lb, 0, none⟩ h0
  have hql : fb < w.heap.size := World.block_lt_of_cell? w ⟨fb, 0, none⟩ h1
  have hnew := heap_alloc_new w (.cells #[.int .i64 k, .int .i64 (z : Int)] 25)
  have g0 : (w.alloc (.cells #[.int .i64 k, .int .i64 (z : Int)] 25)).cell? ⟨lb, 0, none⟩ = some x := (World.cell?_alloc_past _ _ _ hpl).trans h0
  have g1 : (w.alloc (.cells #[.int .i64 k, .int .i64 (z : Int)] 25)).cell? ⟨fb, 0, none⟩ = some y0 := (World.cell?_alloc_past _ _ _ hql).trans h1
  have g2 : (w.alloc (.cells #[.int .i64 k, .int .i64 (z : Int)] 25)).cell? ⟨fb, 1, none⟩ = some y1 := (World.cell?_alloc_past _ _ _ hql).trans h2
  have e0 : (w.alloc (.cells #[.int .i64 k, .int .i64 (z : Int)] 25)).frozen? ⟨lb, 0, none⟩ = false := (World.frozen?_of_block (heap_al w _ lb hpl)).trans f0
  have e1 : (w.alloc (.cells #[.int .i64 k, .int .i64 (z : Int)] 25)).frozen? ⟨fb, 0, none⟩ = false := (World.frozen?_of_block (heap_al w _ fb hql)).trans f1
  have e2 : (w.alloc (.cells #[.int .i64 k, .int .i64 (z : Int)] 25)).frozen? ⟨fb, 1, none⟩ = false := (World.frozen?_of_block (heap_al w _ fb hql)).trans f2
  have n0 : (w.alloc (.cells #[.int .i64 k, .int .i64 (z : Int)] 25)).cell? ⟨w.heap.size, 0, none⟩ = some (.int .i64 k) := by rw [Lib.cell_of_heap hnew]; rfl
  have n1 : (w.alloc (.cells #[.int .i64 k, .int .i64 (z : Int)] 25)).cell? ⟨w.heap.size, 1, none⟩ = some (.int .i64 (z : Int)) := by rw [Lib.cell_of_heap hnew]; rfl
  have HB : Hid (Below B w (w.alloc (.cells #[.int .i64 k, .int .i64 (z : Int)] 25))) := (Below.refl B w).alloc (by omega) _
  have m1 : ¬ w.heap.size = lb := by omega
  have m2 : ¬ w.heap.size = fb := by omega
  clear h0 h1 h2 f0 f1 f2 hpl hql hnew
  generalize w.alloc (.cells #[.int .i64 k, .int .i64 (z : Int)] 25) = W at *
  generalize w.heap.size = Z at *
  go_region_with fail
  all_goals
    have hb : Below B w (((W.setCell ⟨lb, 0, none⟩ (.slice none 0 0)).setCell ⟨fb, 0, none⟩ (.int .i64 k)).setCell ⟨fb, 1, none⟩ (.int .i64 (z : Int))).drew := (((HB.out.setCell (p := ⟨lb, 0, none⟩) hB _).setCell (p := ⟨fb, 0, none⟩) hB2 _).setCell (p := ⟨fb, 1, none⟩) hB2 _).drew
    cases c₀
    simp [bodyPostS, results, Tryz.results30, go_sem, g0, g1, g2, hb]
end Go.Proofs.YtcaeeackccgclaaGreatDoor

/- split, whole. -/
namespace Go.Proofs.YtcaeeackccgclaaGreatDoor
open Go.RowKit Go.Shelf

/-- What split answers. -/
def SplP (w : World) (r : Except Ft (List Tk)) (e : Ending) (w' : World) : Prop :=
  (∀ (k z : Nat), r = .error (k, z) → e = .returned (.tuple #[.slice none 0 0, .agg #[.int .i64 (k : Int), .int .i64 (z : Int)]])) ∧
  (∀ l, r = .ok l → ∃ tv, e = .returned (.tuple #[tv, .agg #[.int .i64 0, .int .i64 0]]) ∧ w'.ownsRow w.heap.size 84 4 tv l.length (tcs l)) ∧ Below w.heap.size w w'

theorem row_mono {w : World} {base base' : Nat} {e : TypeId} {size : Nat} {v : Value} {n : Nat} {xs : List Value} (h : w.ownsRow base e size v n xs) (hb : base' ≤ base) : w.ownsRow base' e size v n xs := by
  refine ⟨h.1, ?_⟩
  rcases h.2 with h2 | ⟨g, cap, cur, hv, hg, r⟩
  · exact Or.inl h2
  · exact Or.inr ⟨g, cap, cur, hv, Nat.le_trans hb hg, r⟩
/-- Where split begins. -/
def begW (L : List UInt8) (w : World) : World := (((w.alloc (.cells #[.slice none 0 0] 48)).alloc (.cells #[.int .i64 0, .int .i64 0] 25)).alloc (.cells #[.int .i64 0] 3)).alloc (.cells #[.string (mkB L), .int .i64 0, .slice none 0 0, .slice (some ⟨w.heap.size + 1 + 1, 0, none⟩) 1 1, .int .i64 0] 72)
theorem beg_facts (L : List UInt8) (w : World) : TS (w.heap.size + 1 + 1) (w.heap.size + 1 + 1 + 1) L (.slice none 0 0) (.slice (some ⟨w.heap.size + 1 + 1, 0, none⟩) 1 1) (begW L w) ⟨0, [], [0], 0⟩ ∧ Below w.heap.size w (begW L w) ∧
    (begW L w).heap[w.heap.size]? = some (.cells #[.slice none 0 0] 48 (0, 0)) ∧ (begW L w).heap[w.heap.size + 1]? = some (.cells #[.int .i64 0, .int .i64 0] 25 (0, 0)) := by
  have s1 : (w.alloc (.cells #[.slice none 0 0] 48)).heap.size = w.heap.size + 1 := World.size_alloc _ _
  have s2 : ((w.alloc (.cells #[.slice none 0 0] 48)).alloc (.cells #[.int .i64 0, .int .i64 0] 25)).heap.size = w.heap.size + 1 + 1 := by rw [World.size_alloc, s1]
  have s3 : (((w.alloc (.cells #[.slice none 0 0] 48)).alloc (.cells #[.int .i64 0, .int .i64 0] 25)).alloc (.cells #[.int .i64 0] 3)).heap.size = w.heap.size + 1 + 1 + 1 := by rw [World.size_alloc, s2]
  have b0 : (begW L w).heap[w.heap.size]? = some (.cells #[.slice none 0 0] 48 (0, 0)) := by
    unfold begW
    rw [heap_al _ _ _ (by rw [s3]; omega), heap_al _ _ _ (by rw [s2]; omega), heap_al _ _ _ (by rw [s1]; omega)]
    exact heap_alloc_new w _
  have b1 : (begW L w).heap[w.heap.size + 1]? = some (.cells #[.int .i64 0, .int .i64 0] 25 (0, 0)) := by
    unfold begW
    rw [heap_al _ _ _ (by rw [s3]; omega), heap_al _ _ _ (by rw [s2]; omega), ← s1]
    exact heap_alloc_new _ _
  have b2 : (begW L w).heap[w.heap.size + 1 + 1]? = some (.cells #[.int .i64 0] 3 (0, 0)) := by
    unfold begW
    rw [heap_al _ _ _ (by rw [s3]; omega), ← s2]
    exact heap_alloc_new _ _
  have b3 : (begW L w).heap[w.heap.size + 1 + 1 + 1]? = some (.cells #[.string (mkB L), .int .i64 0, .slice none 0 0, .slice (some ⟨w.heap.size + 1 + 1, 0, none⟩) 1 1, .int .i64 0] 72 (0, 0)) := by
    unfold begW
    rw [← s3]
    exact heap_alloc_new _ _
  refine ⟨⟨by omega, b3, World.ownsRow_nil _ _ _ _, ⟨rfl, .inr ⟨w.heap.size + 1 + 1, 1, _, rfl, Nat.le_refl _, b2, Nat.le_refl _, by decide, rfl, rfl⟩⟩, by simp [Value.ownBlock], by simp [Value.ownBlock], by simp [Value.ownBlock]⟩, ?_, b0, b1⟩
  unfold begW
  exact ((((Below.refl _ w).alloc (Nat.le_refl _) _).alloc (by rw [s1]; omega) _).alloc (by rw [s2]; omega) _).alloc (by rw [s3]; omega) _

set_option maxHeartbeats 4000000 in
set_option maxRecDepth 100000 in
theorem split_any (L : List UInt8) (w : World) (hL : L.length ≤ 6000) (hr : ErrR w) :
    Calls Tryz.prog 19 #[.string (mkB L)] w fun e w' => SplP w (splitL L) e w' := by
  have hmf : ∀ (fn : Fn) (first cap : Array Value) (w : World), (Instr.makeFunc fn first cap).run Tryz.prog w = .ok (.func fn first cap) w := fun _ _ _ _ => rfl
  obtain ⟨t0, hb0, l0, f0⟩ := beg_facts L w
  have hg : 3 < w.heap.size + 1 + 1 := by
    obtain ⟨ev, h1, _⟩ := hr
    have := World.block_lt_of_cell? w ⟨3, 0, none⟩ h1
    have : 3 < w.heap.size := this
    omega
  have HLn : Hid (Calls Tryz.prog 31 #[.pointer (some ⟨w.heap.size + 1 + 1 + 1, 0, none⟩)] (begW L w) fun e w' => StP (w.heap.size + 1 + 1) (w.heap.size + 1 + 1 + 1) L (begW L w) (linesF L (L.length + 1) ⟨0, [], [0], 0⟩) e w') :=
    lines_any t0 hL ⟨Nat.zero_le _, ⟨by simp, rfl⟩, by decide, by decide, by decide⟩ hg (hr.up hb0)
  have HB0 : Hid (Below w.heap.size w (begW L w) ∧ (begW L w).heap[w.heap.size]? = some (.cells #[.slice none 0 0] 48 (0, 0)) ∧ (begW L w).heap[w.heap.size + 1]? = some (.cells #[.int .i64 0, .int .i64 0] 25 (0, 0))) := ⟨hb0, l0, f0⟩
  have HSp : Hid (splitL L = match linesF L (L.length + 1) ⟨0, [], [0], 0⟩ with | .error x => .error x | .ok q => .ok q.toks) := rfl
  clear t0 hb0 l0 f0 hg hr
  cases hli : linesF L (L.length + 1) ⟨0, [], [0], 0⟩ with
  | error x =>
    obtain ⟨k, z⟩ := x
    rw [hli] at HLn HSp
    clear hli
    have HRV : Hid (splitL L = .error (k, z)) := HSp.out
    go_enter_defers Tryz.func19, Tryz.ntmps19
    go_wp2_with fail
    refine HLn.out.mono ?_
    rintro e w1 ⟨h1, -, hb1⟩
    obtain rfl := h1 k z rfl
    have l1 := (hb1.block w.heap.size (by omega)).trans HB0.out.2.1
    have f1 := (hb1.block (w.heap.size + 1) (by omega)).trans HB0.out.2.2
    have HB1 : Hid (Below w.heap.size w w1) := HB0.out.1.trans (hb1.mono (by omega))
    have q0 : w1.cell? ⟨w.heap.size, 0, none⟩ = some (.slice none 0 0) := by rw [Lib.cell_of_heap l1]; rfl
    have q1 : w1.cell? ⟨w.heap.size + 1, 0, none⟩ = some (.int .i64 0) := by rw [Lib.cell_of_heap f1]; rfl
    have q2 : w1.cell? ⟨w.heap.size + 1, 1, none⟩ = some (.int .i64 0) := by rw [Lib.cell_of_heap f1]; rfl
    have r0 : w1.frozen? ⟨w.heap.size, 0, none⟩ = false := Lib.frozen_of_heap l1 0
    have r1 : w1.frozen? ⟨w.heap.size + 1, 0, none⟩ = false := Lib.frozen_of_heap f1 0
    have r2 : w1.frozen? ⟨w.heap.size + 1, 1, none⟩ = false := Lib.frozen_of_heap f1 1
    clear h1 hb1 l1 f1
    go_wp2
    refine leaves_cons (f := 30) (args := #[.pointer (some ⟨w.heap.size, 0, none⟩), .pointer (some ⟨w.heap.size + 1, 0, none⟩)]) (by simp) (by simp [go_sem]) ?_
    refine (catch_pan w.heap.size w.heap.size (w.heap.size + 1) _ _ _ k z [] _ q0 q1 q2 r0 r1 r2 (by omega) (Nat.le_refl _) (Nat.le_succ _)).mono ?_
    rintro e u' w2 ⟨rfl, rfl, s0, s1, s2, hb2⟩
    simp [Leaves, settle, results, Tryz.results19, go_sem, s0, s1, s2]
    refine ⟨fun k' z' hz => ?_, fun l hl => ?_, HB1.out.trans hb2⟩
    · rw [HRV.out] at hz; cases hz; rfl
    · rw [HRV.out] at hl; cases hl
  | ok q =>
    rw [hli] at HLn HSp
    clear hli
    have HRV : Hid (splitL L = .ok q.toks) := HSp.out
    go_enter_defers Tryz.func19, Tryz.ntmps19
    go_wp2_with fail
    refine HLn.out.mono ?_
    rintro e w1 ⟨-, h2, hb1⟩
    obtain ⟨rfl, tv, iv, hts⟩ := h2 q rfl
    have l1 := (hb1.block w.heap.size (by omega)).trans HB0.out.2.1
    have f1 := (hb1.block (w.heap.size + 1) (by omega)).trans HB0.out.2.2
    have HB1 : Hid (Below w.heap.size w w1) := HB0.out.1.trans (hb1.mono (by omega))
    have q0 : w1.cell? ⟨w.heap.size, 0, none⟩ = some (.slice none 0 0) := by rw [Lib.cell_of_heap l1]; rfl
    have q1 : w1.cell? ⟨w.heap.size + 1, 0, none⟩ = some (.int .i64 0) := by rw [Lib.cell_of_heap f1]; rfl
    have q2 : w1.cell? ⟨w.heap.size + 1, 1, none⟩ = some (.int .i64 0) := by rw [Lib.cell_of_heap f1]; rfl
    have r0 : w1.frozen? ⟨w.heap.size, 0, none⟩ = false := Lib.frozen_of_heap l1 0
    have r1 : w1.frozen? ⟨w.heap.size + 1, 0, none⟩ = false := Lib.frozen_of_heap f1 0
    have r2 : w1.frozen? ⟨w.heap.size + 1, 1, none⟩ = false := Lib.frozen_of_heap f1 1
    have c2 := hts.c2
    obtain ⟨ao, cap, htv⟩ := row_shape hts.ot
    subst htv
    have HT : Hid (TS (w.heap.size + 1 + 1) (w.heap.size + 1 + 1 + 1) L (.slice ao q.toks.length cap) iv w1 q) := hts
    clear h2 hb1 l1 f1 hts
    have s0 : (((w1.setCell ⟨w.heap.size, 0, none⟩ (.slice ao q.toks.length cap)).setCell ⟨w.heap.size + 1, 0, none⟩ (.int .i64 0)).setCell ⟨w.heap.size + 1, 1, none⟩ (.int .i64 0)).cell? ⟨w.heap.size, 0, none⟩ = some (.slice ao q.toks.length cap) := by simp [go_sem, q0]
    have s1 : (((w1.setCell ⟨w.heap.size, 0, none⟩ (.slice ao q.toks.length cap)).setCell ⟨w.heap.size + 1, 0, none⟩ (.int .i64 0)).setCell ⟨w.heap.size + 1, 1, none⟩ (.int .i64 0)).cell? ⟨w.heap.size + 1, 0, none⟩ = some (.int .i64 0) := by simp [go_sem, q1]
    have s2 : (((w1.setCell ⟨w.heap.size, 0, none⟩ (.slice ao q.toks.length cap)).setCell ⟨w.heap.size + 1, 0, none⟩ (.int .i64 0)).setCell ⟨w.heap.size + 1, 1, none⟩ (.int .i64 0)).cell? ⟨w.heap.size + 1, 1, none⟩ = some (.int .i64 0) := by simp [go_sem, q2]
    have HS : Hid ((((w1.setCell ⟨w.heap.size, 0, none⟩ (.slice ao q.toks.length cap)).setCell ⟨w.heap.size + 1, 0, none⟩ (.int .i64 0)).setCell ⟨w.heap.size + 1, 1, none⟩ (.int .i64 0)).cell? ⟨w.heap.size, 0, none⟩ = some (.slice ao q.toks.length cap) ∧ (((w1.setCell ⟨w.heap.size, 0, none⟩ (.slice ao q.toks.length cap)).setCell ⟨w.heap.size + 1, 0, none⟩ (.int .i64 0)).setCell ⟨w.heap.size + 1, 1, none⟩ (.int .i64 0)).cell? ⟨w.heap.size + 1, 0, none⟩ = some (.int .i64 0) ∧ (((w1.setCell ⟨w.heap.size, 0, none⟩ (.slice ao q.toks.length cap)).setCell ⟨w.heap.size + 1, 0, none⟩ (.int .i64 0)).setCell ⟨w.heap.size + 1, 1, none⟩ (.int .i64 0)).cell? ⟨w.heap.size + 1, 1, none⟩ = some (.int .i64 0)) := ⟨s0, s1, s2⟩
    have HO : Hid ((((w1.setCell ⟨w.heap.size, 0, none⟩ (.slice ao q.toks.length cap)).setCell ⟨w.heap.size + 1, 0, none⟩ (.int .i64 0)).setCell ⟨w.heap.size + 1, 1, none⟩ (.int .i64 0)).ownsRow (w.heap.size + 1 + 1) 84 4 (.slice ao q.toks.length cap) q.toks.length (tcs q.toks)) := own_heap HT.out.ot fun g hg => by
      have := (HT.out.ot.lt g hg).1
      exact (Below.heap_setCell _ ⟨w.heap.size + 1, 1, none⟩ _ g (by show ¬ g = w.heap.size + 1; omega)).trans ((Below.heap_setCell _ ⟨w.heap.size + 1, 0, none⟩ _ g (by show ¬ g = w.heap.size + 1; omega)).trans (Below.heap_setCell _ ⟨w.heap.size, 0, none⟩ _ g (by show ¬ g = w.heap.size; omega)))
    have HB2 : Hid (Below w.heap.size w (((w1.setCell ⟨w.heap.size, 0, none⟩ (.slice ao q.toks.length cap)).setCell ⟨w.heap.size + 1, 0, none⟩ (.int .i64 0)).setCell ⟨w.heap.size + 1, 1, none⟩ (.int .i64 0))) := ((HB1.out.setCell (p := ⟨w.heap.size, 0, none⟩) (Nat.le_refl _) _).setCell (p := ⟨w.heap.size + 1, 0, none⟩) (Nat.le_succ _) _).setCell (p := ⟨w.heap.size + 1, 1, none⟩) (Nat.le_succ _) _
    clear s0 s1 s2
    go_wp2
    generalize ((w1.setCell ⟨w.heap.size, 0, none⟩ (.slice ao q.toks.length cap)).setCell ⟨w.heap.size + 1, 0, none⟩ (.int .i64 0)).setCell ⟨w.heap.size + 1, 1, none⟩ (.int .i64 0) = w2 at *
    refine leaves_cons (f := 30) (args := #[.pointer (some ⟨w.heap.size, 0, none⟩), .pointer (some ⟨w.heap.size + 1, 0, none⟩)]) (by simp) (by simp [go_sem]) ?_
    refine (catch_idle ⟨w.heap.size, 0, none⟩ ⟨w.heap.size + 1, 0, none⟩ _).mono ?_
    rintro e u' w3 ⟨rfl, rfl, hb3⟩
    have k0 := (hb3.cell (World.block_lt_of_cell? w2 _ HS.out.1)).trans HS.out.1
    have k1 := (hb3.cell (World.block_lt_of_cell? w2 _ HS.out.2.1)).trans HS.out.2.1
    have k2 := (hb3.cell (World.block_lt_of_cell? w2 _ HS.out.2.2)).trans HS.out.2.2
    have hle : w.heap.size ≤ w2.heap.size := Nat.le_of_lt (World.block_lt_of_cell? w2 _ HS.out.1)
    simp [Leaves, settle, results, Tryz.results19, go_sem, k0, k1, k2]
    refine ⟨fun k' z' hz => ?_, fun l hl => ?_, HB2.out.trans (hb3.mono hle)⟩
    · rw [HRV.out] at hz; cases hz
    · rw [HRV.out] at hl
      cases hl
      exact ⟨_, rfl, row_mono (own_heap HO.out fun g hg => hb3.block g (HO.out.lt g hg).2) (by omega)⟩
end Go.Proofs.YtcaeeackccgclaaGreatDoor

/- An expression under construction. -/
namespace Go.Proofs.YtcaeeackccgclaaGreatDoor
open Go.RowKit Go.Shelf

/-- All below lo stays but for the parser's block and the variable's. -/
structure FrL (P lo Eb : Nat) (W0 W : World) : Prop where
  os : W.os = W0.os
  tape : W.tape = W0.tape
  output : W.output = W0.output
  size : lo ≤ W.heap.size
  blk : ∀ g, g < lo → g ≠ P → g ≠ Eb → W.heap[g]? = W0.heap[g]?
theorem FrL.kp {P lo Eb : Nat} {W0 W w' : World} (h : FrL P lo Eb W0 W) (k : KP P W w') : FrL P lo Eb W0 w' := ⟨k.os.trans h.os, k.tape.trans h.tape, k.output.trans h.output, Nat.le_trans h.size k.size, fun g h1 h2 h3 => (k.blk g (Nat.lt_of_lt_of_le h1 h.size) h2).trans (h.blk g h1 h2 h3)⟩
/-- The variable Eb has an expression whose rows are one's own (at lo and above, and not Eb itself); what its kids have lies elsewhere: in blocks Sx below that stay, or above. -/
structure BuB (Sx : Nat → Prop) (lo Eb : Nat) (W : World) (s : Ex) (kv nv : Value) (vs : List (List Value)) : Prop where
  ev : EV W Eb [.int .i64 s.kind, .int .i64 s.num, .string (mkB s.text), kv, nv]
  kr : W.ownsRow lo 38 5 kv s.kids.length vs.flatten
  nr : W.ownsRow lo 9 1 nv s.names.length (s.names.map sv)
  ne : ∀ g, kv.ownBlock = some g → nv.ownBlock ≠ some g
  nk : kv.ownBlock ≠ some Eb
  nn : nv.ownBlock ≠ some Eb
  fa : Fa (ExA W (fun g => (Sx g ∨ lo ≤ g) ∧ g ≠ Eb ∧ kv.ownBlock ≠ some g ∧ nv.ownBlock ≠ some g)) s.kids vs
theorem BuB.keep {Sx : Nat → Prop} {lo Eb : Nat} {W w' : World} {s : Ex} {kv nv : Value} {vs : List (List Value)} (h : BuB Sx lo Eb W s kv nv vs) (he : w'.heap[Eb]? = W.heap[Eb]?) (hk : ∀ g, (Sx g ∨ lo ≤ g) → g ≠ Eb → g < W.heap.size → w'.heap[g]? = W.heap[g]?) : BuB Sx lo Eb w' s kv nv vs :=
  ⟨h.ev.keep he, own_heap h.kr fun g hg => hk g (.inr (h.kr.lt g hg).1) (fun e => h.nk (e ▸ hg)) (h.kr.lt g hg).2, own_heap h.nr fun g hg => hk g (.inr (h.nr.lt g hg).1) (fun e => h.nn (e ▸ hg)) (h.nr.lt g hg).2, h.ne, h.nk, h.nn, h.fa.mono fun _ _ f => f.keep (fun g hg hg2 => hk g hg.1 hg.2.1 hg2) (fun _ hg _ => hg)⟩
theorem BuB.keepK {Sx : Nat → Prop} {P lo Eb : Nat} {W w' : World} {s : Ex} {kv nv : Value} {vs : List (List Value)} (h : BuB Sx lo Eb W s kv nv vs) (hk : KP P W w') (hP : P < lo) (hPE : Eb ≠ P) (hS : ∀ g, Sx g → g < lo ∧ g ≠ P ∧ g ≠ Eb) : BuB Sx lo Eb w' s kv nv vs :=
  h.keep (hk.blk _ h.ev.lt hPE) fun g hg _ hg2 => hk.blk g hg2 (by
    rcases hg with hg | hg
    · exact (hS g hg).2.1
    · omega)
structure LI (Sx : Nat → Prop) (P T lo Eb : Nat) (W0 W : World) (s : Ex) (p : Ps) : Prop where
  ps : PsA P T W p
  fr : FrL P lo Eb W0 W
  bu : ∃ kv nv vs, BuB Sx lo Eb W s kv nv vs
theorem LI.kp {Sx : Nat → Prop} {P T lo Eb : Nat} {W0 W w' : World} {s : Ex} {p p' : Ps} (h : LI Sx P T lo Eb W0 W s p) (k : KP P W w') (hp : PsA P T w' p') (hP : P < lo) (hPE : Eb ≠ P) (hS : ∀ g, Sx g → g < lo ∧ g ≠ P ∧ g ≠ Eb) : LI Sx P T lo Eb W0 w' s p' := by
  obtain ⟨kv, nv, vs, hb⟩ := h.bu
  exact ⟨hp, h.fr.kp k, kv, nv, vs, hb.keepK k hP hPE hS⟩
theorem li_liv {Sx : Nat → Prop} {P T lo Eb : Nat} {W0 : World} (hP : P < lo) (hPE : Eb ≠ P) (hS : ∀ g, Sx g → g < lo ∧ g ≠ P ∧ g ≠ Eb) : Liv P T (LI Sx P T lo Eb W0) (FrL P lo Eb W0) :=
  ⟨fun _ _ _ h => h.ps, fun _ _ _ _ _ h k hp => h.kp k hp hP hPE hS, fun _ _ _ h => h.fr, fun _ _ h k => h.kp k⟩
theorem stored_cells {lo : Nat} {e : TypeId} {size g n cap : Nat} : ∀ (cs zs xs : List Value) (w : World), w.ownsRow lo e size (.slice (some ⟨g, 0, none⟩) n cap) n (xs ++ zs) → zs.length = cs.length → (w.setCells g xs.length cs).ownsRow lo e size (.slice (some ⟨g, 0, none⟩) n cap) n (xs ++ cs)
  | [], [], _, _, h, _ => h
  | c :: cs, z :: zs, xs, w, h, hl => by
    have h2 := (h.stored xs.length c).1
    have e1 : (xs ++ z :: zs).set xs.length c = (xs ++ [c]) ++ zs := by simp
    rw [e1] at h2
    have h3 := stored_cells cs zs (xs ++ [c]) _ h2 (by simpa using hl)
    rw [List.append_assoc] at h3
    show ((w.setCell ⟨g, xs.length, none⟩ c).setCells g (xs.length + 1) cs).ownsRow lo e size _ n (xs ++ c :: cs)
    simpa using h3
theorem own_lt {w : World} {B : Nat} {e : TypeId} {sz : Nat} {v : Value} {n : Nat} {xs : List Value} (h : w.ownsRow B e sz v n xs) {g : Nat} (hg : v.ownBlock = some g) : B ≤ g ∧ g < w.heap.size := h.lt g hg
theorem own_cells {w : World} {B : Nat} {e : TypeId} {sz : Nat} {g cap n : Nat} {xs : List Value} (h : w.ownsRow B e sz (.slice (some ⟨g, 0, none⟩) n cap) n xs) (o k : Nat) (hk : o + k ≤ xs.length) : w.there g o k := fun j hj => by
  rcases h.2 with ⟨hv, _⟩ | ⟨g', cap', cur, hv, _, hg, h1, h2, h3, h4⟩
  · cases hv
  · cases hv
    refine ⟨?_, Lib.frozen_of_heap hg _⟩
    rw [Lib.cell_of_heap hg]
    have : o + j < cur.size := by
      have := congrArg List.length h4
      rw [List.length_take] at this
      have e1 : cur.toList.length = cur.size := by simp
      omega
    simp [this]
/-- One kid more. -/
theorem BuB.push {Sx : Nat → Prop} {P lo Eb : Nat} {W0 X w2 Wf : World} {s : Ex} {kv nv : Value} {vs : List (List Value)} (h : BuB Sx lo Eb X s kv nv vs) {y : Ex} {cy : List Value} (hy : ExA X (fun g => (Sx g ∨ lo ≤ g) ∧ g ≠ Eb ∧ kv.ownBlock ≠ some g ∧ nv.ownBlock ≠ some g) y cy)
    {g' cap' : Nat} (hgrow : X.grownBy w2 kv.ownBlock) (hat : kv.ownBlock = some g' ∨ g' = X.heap.size) (hfr : FrL P lo Eb W0 X)
    (hrow : Wf.ownsRow lo 38 5 (.slice (some ⟨g', 0, none⟩) (s.kids.length + 1) cap') (s.kids.length + 1) (vs.flatten ++ cy)) (hev : EV Wf Eb [.int .i64 s.kind, .int .i64 s.num, .string (mkB s.text), .slice (some ⟨g', 0, none⟩) (s.kids.length + 1) cap', nv])
    (hoth : ∀ g, g ≠ Eb → g ≠ g' → Wf.heap[g]? = w2.heap[g]?) (hos : Wf.os = w2.os) (htape : Wf.tape = w2.tape) (hout : Wf.output = w2.output) (hsz : w2.heap.size ≤ Wf.heap.size) :
    BuB Sx lo Eb Wf (s.kid y) (.slice (some ⟨g', 0, none⟩) (s.kids.length + 1) cap') nv (vs ++ [cy]) ∧ FrL P lo Eb W0 Wf ∧ (∀ g, g < lo → g ≠ Eb → Wf.heap[g]? = X.heap[g]?) := by
  have hEl := h.ev.lt
  have hlo : lo ≤ g' := by
    rcases hat with h1 | h1
    · exact (h.kr.lt _ h1).1
    · rw [h1]; exact hfr.size
  have hgE : g' ≠ Eb := by
    rcases hat with h1 | h1
    · exact fun e => h.nk (e ▸ h1)
    · omega
  have hgo : ∀ g, g < X.heap.size → kv.ownBlock ≠ some g → g ≠ g' := fun g h1 h2 e => by
    rcases hat with h3 | h3
    · exact h2 (by rw [h3, e])
    · omega
  have hk : ∀ g, g ≠ Eb → g < X.heap.size → kv.ownBlock ≠ some g → Wf.heap[g]? = X.heap[g]? := fun g h1 h2 h3 => (hoth g h1 (hgo g h2 h3)).trans (hgrow.block g h2 fun e => h3 e.symm)
  have hS2 : ∀ (x : Ex) (c : List Value), ExA X (fun g => (Sx g ∨ lo ≤ g) ∧ g ≠ Eb ∧ kv.ownBlock ≠ some g ∧ nv.ownBlock ≠ some g) x c → ExA Wf (fun g => (Sx g ∨ lo ≤ g) ∧ g ≠ Eb ∧ (Value.slice (some ⟨g', 0, none⟩) (s.kids.length + 1) cap').ownBlock ≠ some g ∧ nv.ownBlock ≠ some g) x c := fun x c hx => hx.keep (fun g hg hg2 => hk g hg.2.1 hg2 hg.2.2.1) (fun g hg hg2 => ⟨hg.1, hg.2.1, fun e => by
    have e2 : g' = g := by simpa [Value.ownBlock] using e
    exact hgo g hg2 hg.2.2.1 e2.symm, hg.2.2.2⟩)
  have hkn : ∀ g, g < lo → kv.ownBlock ≠ some g := fun g hg e => by have := (h.kr.lt _ e).1; omega
  refine ⟨⟨hev, ?_, ?_, ?_, ?_, h.nn, ?_⟩, ⟨hos.trans (hgrow.os.trans hfr.os), htape.trans (hgrow.tape.trans hfr.tape), hout.trans (hgrow.output.trans hfr.output), Nat.le_trans hfr.size (Nat.le_trans hgrow.size hsz), fun g h1 h2 h3 => (hk g h3 (Nat.lt_of_lt_of_le h1 hfr.size) (hkn g h1)).trans (hfr.blk g h1 h2 h3)⟩, fun g h1 h2 => hk g h2 (Nat.lt_of_lt_of_le h1 hfr.size) (hkn g h1)⟩
  · simpa [Ex.kid] using hrow
  · exact own_heap h.nr fun g hg => hk g (fun e => h.nn (e ▸ hg)) (h.nr.lt g hg).2 (fun e => h.ne g e hg)
  · intro g hg e
    have e2 : g' = g := by simpa [Value.ownBlock] using hg
    subst e2
    rcases hat with h1 | h1
    · exact h.ne _ h1 e
    · have := (h.nr.lt _ e).2; omega
  · intro e
    have e2 : g' = Eb := by simpa [Value.ownBlock] using e
    exact hgE e2
  · exact (h.fa.mono fun _ _ f => hS2 _ _ f).snoc (hS2 _ _ hy)
theorem LI.done {Sx : Nat → Prop} {P T lo Eb : Nat} {W0 W : World} {s : Ex} {p : Ps} (h : LI Sx P T lo Eb W0 W s p) : ∃ c, EV W Eb c ∧ ExA W (fun g => (Sx g ∨ lo ≤ g) ∧ g ≠ Eb) s c := by
  obtain ⟨kv, nv, vs, hb⟩ := h.bu
  refine ⟨_, hb.ev, ExA.make (row_mono hb.kr (Nat.zero_le _)) (row_mono hb.nr (Nat.zero_le _)) (fun g hg => ⟨.inr (hb.kr.lt g hg).1, fun e => hb.nk (e ▸ hg)⟩) (fun g hg => ⟨.inr (hb.nr.lt g hg).1, fun e => hb.nn (e ▸ hg)⟩) (hb.fa.mono fun _ _ f => f.mono fun g hg _ => ⟨hg.1, hg.2.1⟩)⟩
end Go.Proofs.YtcaeeackccgclaaGreatDoor

/- Small facts about an expression under construction. -/
namespace Go.Proofs.YtcaeeackccgclaaGreatDoor
open Go.RowKit Go.Shelf
attribute [local go_sem ↓] fld0 fld1 fld2 fld3
attribute [local go_sem] mk_func

theorem infEx : (Tryz.prog.info? 38).map (fun i => (i.zero, i.size, i.bytes)) = some (some (.agg #[.int .i64 0, .int .i64 0, .string ⟨#[]⟩, .slice none 0 0, .slice none 0 0]), 5, 80) := by kernel_rfl
theorem FrL.al {P lo Eb : Nat} {W0 W : World} (h : FrL P lo Eb W0 W) (o : Obj) : FrL P lo Eb W0 (W.alloc o) := h.kp (KP.al P W o)
theorem FrL.drew {P lo Eb : Nat} {W0 W : World} (h : FrL P lo Eb W0 W) : FrL P lo Eb W0 W.drew := ⟨h.os, h.tape, h.output, h.size, h.blk⟩
theorem BuB.al {Sx : Nat → Prop} {lo Eb : Nat} {W : World} {s : Ex} {kv nv : Value} {vs : List (List Value)} (h : BuB Sx lo Eb W s kv nv vs) (o : Obj) : BuB Sx lo Eb (W.alloc o) s kv nv vs := h.keep (heap_al W o Eb h.ev.lt) (fun g _ _ hg => heap_al W o g hg)
theorem ob_eq {b g o n c : Nat} (h : (Value.slice (some ⟨b, o, none⟩) n c).ownBlock = some g) : b = g := by simpa [Value.ownBlock] using h
theorem stored_cells' {lo : Nat} {e : TypeId} {size g n cap k : Nat} {w : World} {xs zs cs : List Value} (h : w.ownsRow lo e size (.slice (some ⟨g, 0, none⟩) n cap) n (xs ++ zs)) (hx : xs.length = k) (hl : cs.length = 5) (hz : zs.length = 5 := by rfl) : (w.setCells g k cs).ownsRow lo e size (.slice (some ⟨g, 0, none⟩) n cap) n (xs ++ cs) := by
  subst hx
  exact stored_cells cs zs xs w h (by rw [hl, hz])
theorem EV.put3 {w : World} {L : Nat} {v0 v1 v2 v3 v4 : Value} (h : EV w L [v0, v1, v2, v3, v4]) (u : Value) : EV (w.setCell ⟨L, 3, none⟩ u) L [v0, v1, v2, u, v4] := by
  obtain ⟨u0, u1, u2, u3, u4⟩ := h.five
  obtain ⟨⟨c0, h1, h2⟩, h3⟩ := h
  have hb : (w.setCell ⟨L, 3, none⟩ u).heap[L]? = some (.cells (c0.setIfInBounds 3 u) 38 (0, 0)) := Go.Joins.block_setCell h1 u
  rw [Lib.cell_of_heap h1] at u0 u1 u2 u3 u4
  refine ⟨⟨_, hb, by simpa using h2⟩, fun j v hv => ?_⟩
  rw [Nat.zero_add, Lib.cell_of_heap hb]
  match j, hv with
  | 0, hv => cases hv; simpa using u0
  | 1, hv => cases hv; simpa using u1
  | 2, hv => cases hv; simpa using u2
  | 3, hv => cases hv; simp [h2]
  | 4, hv => cases hv; simpa using u4
theorem os_sets (b o : Nat) (vs : List Value) (w : World) : (w.setCells b o vs).os = w.os := (bel_sets (Nat.zero_le b) vs o (Below.refl 0 w)).os
theorem out_sets (b o : Nat) (vs : List Value) (w : World) : (w.setCells b o vs).output = w.output := (bel_sets (Nat.zero_le b) vs o (Below.refl 0 w)).output
theorem tape_sets (b o : Nat) (vs : List Value) (w : World) : (w.setCells b o vs).tape = w.tape := (bel_sets (Nat.zero_le b) vs o (Below.refl 0 w)).tape
end Go.Proofs.YtcaeeackccgclaaGreatDoor

/- Parts of a function's text; what a giving up is. -/
namespace Go.Proofs.YtcaeeackccgclaaGreatDoor
open Go.RowKit Go.Shelf

/-- A part of a text, by the way that leads to it. -/
def subW : List Bool → Code → Code
  | [], c => c
  | false :: p, .seq a _ => subW p a
  | true :: p, .seq _ b => subW p b
  | _ :: p, .block _ c => subW p c
  | _ :: p, .loop c => subW p c
  | false :: p, .cond _ a _ => subW p a
  | true :: p, .cond _ _ b => subW p b
  | _ :: _, c => c
abbrev PC (k : Int) (x : Nat) : List PanicEntry := [{ v := .iface 25 (.agg #[.int .i64 k, .int .i64 x]), recovered := false }]
theorem kd_some {E : Ps → Px Ex} {s : Ex} {p : Ps} {z : Except Ft (Ex × Ps)} (h : kdE E s p = some z) : (∃ x, E p = some (.error x) ∧ z = .error x) ∨ ∃ e q, E p = some (.ok (e, q)) ∧ z = .ok (s.kid e, q) := by
  rcases bnd_some h with ⟨x, hx, rfl⟩ | ⟨e, q, hx, hq⟩
  · exact .inl ⟨x, hx, rfl⟩
  · exact .inr ⟨e, q, hx, (Option.some.inj hq).symm⟩
theorem kid_len (s e : Ex) : (s.kid e).kids.length = s.kids.length + 1 := by simp [Ex.kid]
theorem EV.put0 {w : World} {L : Nat} {v0 v1 v2 v3 v4 : Value} (h : EV w L [v0, v1, v2, v3, v4]) (u : Value) : EV (w.setCell ⟨L, 0, none⟩ u) L [u, v1, v2, v3, v4] := by
  obtain ⟨u0, u1, u2, u3, u4⟩ := h.five
  obtain ⟨⟨c0, h1, h2⟩, h3⟩ := h
  have hb : (w.setCell ⟨L, 0, none⟩ u).heap[L]? = some (.cells (c0.setIfInBounds 0 u) 38 (0, 0)) := Go.Joins.block_setCell h1 u
  rw [Lib.cell_of_heap h1] at u0 u1 u2 u3 u4
  refine ⟨⟨_, hb, by simpa using h2⟩, fun j v hv => ?_⟩
  rw [Nat.zero_add, Lib.cell_of_heap hb]
  match j, hv with
  | 0, hv => cases hv; simp [h2]
  | 1, hv => cases hv; simpa using u1
  | 2, hv => cases hv; simpa using u2
  | 3, hv => cases hv; simpa using u3
  | 4, hv => cases hv; simpa using u4
theorem EV.put2 {w : World} {L : Nat} {v0 v1 v2 v3 v4 : Value} (h : EV w L [v0, v1, v2, v3, v4]) (u : Value) : EV (w.setCell ⟨L, 2, none⟩ u) L [v0, v1, u, v3, v4] := by
  obtain ⟨u0, u1, u2, u3, u4⟩ := h.five
  obtain ⟨⟨c0, h1, h2⟩, h3⟩ := h
  have hb : (w.setCell ⟨L, 2, none⟩ u).heap[L]? = some (.cells (c0.setIfInBounds 2 u) 38 (0, 0)) := Go.Joins.block_setCell h1 u
  rw [Lib.cell_of_heap h1] at u0 u1 u2 u3 u4
  refine ⟨⟨_, hb, by simpa using h2⟩, fun j v hv => ?_⟩
  rw [Nat.zero_add, Lib.cell_of_heap hb]
  match j, hv with
  | 0, hv => cases hv; simpa using u0
  | 1, hv => cases hv; simpa using u1
  | 2, hv => cases hv; simp [h2]
  | 3, hv => cases hv; simpa using u3
  | 4, hv => cases hv; simpa using u4
theorem EV.put4 {w : World} {L : Nat} {v0 v1 v2 v3 v4 : Value} (h : EV w L [v0, v1, v2, v3, v4]) (u : Value) : EV (w.setCell ⟨L, 4, none⟩ u) L [v0, v1, v2, v3, u] := by
  obtain ⟨u0, u1, u2, u3, u4⟩ := h.five
  obtain ⟨⟨c0, h1, h2⟩, h3⟩ := h
  have hb : (w.setCell ⟨L, 4, none⟩ u).heap[L]? = some (.cells (c0.setIfInBounds 4 u) 38 (0, 0)) := Go.Joins.block_setCell h1 u
  rw [Lib.cell_of_heap h1] at u0 u1 u2 u3 u4
  refine ⟨⟨_, hb, by simpa using h2⟩, fun j v hv => ?_⟩
  rw [Nat.zero_add, Lib.cell_of_heap hb]
  match j, hv with
  | 0, hv => cases hv; simpa using u0
  | 1, hv => cases hv; simpa using u1
  | 2, hv => cases hv; simpa using u2
  | 3, hv => cases hv; simpa using u3
  | 4, hv => cases hv; simp [h2]
/-- The variable's own cells are set. -/
theorem LI.set {Sx : Nat → Prop} {P T lo Eb : Nat} {W0 W w' : World} {s s' : Ex} {p : Ps} {kv nv : Value} {vs : List (List Value)} (hps : PsA P T W p) (hfr : FrL P lo Eb W0 W) (h : BuB Sx lo Eb W s kv nv vs) (hk : s'.kids = s.kids) (hn : s'.names = s.names) (ho : ∀ g, g ≠ Eb → w'.heap[g]? = W.heap[g]?) (hos : w'.os = W.os) (htp : w'.tape = W.tape) (hou : w'.output = W.output) (hsz : w'.heap.size = W.heap.size)
    (hev : EV w' Eb [.int .i64 s'.kind, .int .i64 s'.num, .string (mkB s'.text), kv, nv]) (hPE : Eb ≠ P) (hTE : T ≠ Eb) : LI Sx P T lo Eb W0 w' s' p ∧ BuB Sx lo Eb w' s' kv nv vs := by
  have hb : BuB Sx lo Eb w' s' kv nv vs := ⟨hev, by rw [hk]; exact own_heap h.kr fun g hg => ho g (fun e => h.nk (e ▸ hg)), by rw [hn]; exact own_heap h.nr fun g hg => ho g (fun e => h.nn (e ▸ hg)), h.ne, h.nk, h.nn, by rw [hk]; exact h.fa.mono fun _ _ f => f.keep (fun g hg _ => ho g hg.2.1) (fun _ hg _ => hg)⟩
  exact ⟨⟨hps.keep (ho P (fun e => hPE e.symm)) (ho T hTE), ⟨hos.trans hfr.os, htp.trans hfr.tape, hou.trans hfr.output, by rw [hsz]; exact hfr.size, fun g h1 h2 h3 => (ho g h3).trans (hfr.blk g h1 h2 h3)⟩, kv, nv, vs, hb⟩, hb⟩
/-- One name more. -/
theorem BuB.pushN {Sx : Nat → Prop} {P lo Eb : Nat} {W0 X w2 Wf : World} {s : Ex} {kv nv : Value} {vs : List (List Value)} (h : BuB Sx lo Eb X s kv nv vs) (x : List UInt8)
    {g' cap' : Nat} (hgrow : X.grownBy w2 nv.ownBlock) (hat : nv.ownBlock = some g' ∨ g' = X.heap.size) (hfr : FrL P lo Eb W0 X)
    (hrow : Wf.ownsRow lo 9 1 (.slice (some ⟨g', 0, none⟩) (s.names.length + 1) cap') (s.names.length + 1) (s.names.map sv ++ [sv x])) (hev : EV Wf Eb [.int .i64 s.kind, .int .i64 s.num, .string (mkB s.text), kv, .slice (some ⟨g', 0, none⟩) (s.names.length + 1) cap'])
    (hoth : ∀ g, g ≠ Eb → Wf.heap[g]? = w2.heap[g]?) (hos : Wf.os = w2.os) (htape : Wf.tape = w2.tape) (hout : Wf.output = w2.output) (hsz : w2.heap.size ≤ Wf.heap.size) :
    BuB Sx lo Eb Wf { s with names := s.names ++ [x] } kv (.slice (some ⟨g', 0, none⟩) (s.names.length + 1) cap') vs ∧ FrL P lo Eb W0 Wf ∧ (∀ g, g < lo → g ≠ Eb → Wf.heap[g]? = X.heap[g]?) := by
  have hEl := h.ev.lt
  have hlo : lo ≤ g' := by
    rcases hat with h1 | h1
    · exact (h.nr.lt _ h1).1
    · rw [h1]; exact hfr.size
  have hgE : g' ≠ Eb := by
    rcases hat with h1 | h1
    · exact fun e => h.nn (e ▸ h1)
    · omega
  have hgo : ∀ g, g < X.heap.size → nv.ownBlock ≠ some g → g ≠ g' := fun g h1 h2 e => by
    rcases hat with h3 | h3
    · exact h2 (by rw [h3, e])
    · omega
  have hk : ∀ g, g ≠ Eb → g < X.heap.size → nv.ownBlock ≠ some g → Wf.heap[g]? = X.heap[g]? := fun g h1 h2 h3 => (hoth g h1).trans (hgrow.block g h2 fun e => h3 e.symm)
  have hS2 : ∀ (x : Ex) (c : List Value), ExA X (fun g => (Sx g ∨ lo ≤ g) ∧ g ≠ Eb ∧ kv.ownBlock ≠ some g ∧ nv.ownBlock ≠ some g) x c → ExA Wf (fun g => (Sx g ∨ lo ≤ g) ∧ g ≠ Eb ∧ kv.ownBlock ≠ some g ∧ (Value.slice (some ⟨g', 0, none⟩) (s.names.length + 1) cap').ownBlock ≠ some g) x c := fun x c hx => hx.keep (fun g hg hg2 => hk g hg.2.1 hg2 hg.2.2.2) (fun g hg hg2 => ⟨hg.1, hg.2.1, hg.2.2.1, fun e => by
    have e2 : g' = g := by simpa [Value.ownBlock] using e
    exact hgo g hg2 hg.2.2.2 e2.symm⟩)
  have hkn : ∀ g, g < lo → nv.ownBlock ≠ some g := fun g hg e => by have := (h.nr.lt _ e).1; omega
  refine ⟨⟨hev, ?_, ?_, ?_, h.nk, ?_, ?_⟩, ⟨hos.trans (hgrow.os.trans hfr.os), htape.trans (hgrow.tape.trans hfr.tape), hout.trans (hgrow.output.trans hfr.output), Nat.le_trans hfr.size (Nat.le_trans hgrow.size hsz), fun g h1 h2 h3 => (hk g h3 (Nat.lt_of_lt_of_le h1 hfr.size) (hkn g h1)).trans (hfr.blk g h1 h2 h3)⟩, fun g h1 h2 => hk g h2 (Nat.lt_of_lt_of_le h1 hfr.size) (hkn g h1)⟩
  · exact own_heap h.kr fun g hg => hk g (fun e => h.nk (e ▸ hg)) (h.kr.lt g hg).2 (fun e => h.ne g hg e)
  · simpa using hrow
  · intro g hg e
    have e2 : g' = g := by simpa [Value.ownBlock] using e
    subst e2
    rcases hat with h1 | h1
    · exact h.ne _ hg h1
    · have := (h.kr.lt _ hg).2; omega
  · intro e
    have e2 : g' = Eb := by simpa [Value.ownBlock] using e
    exact hgE e2
  · exact h.fa.mono fun _ _ f => hS2 _ _ f
theorem seesW {P T : Nat} {w : World} {p : Ps} (h : PsA P T w p) (x : List UInt8) :
    Calls Tryz.prog 44 #[pt P, .slice (some ⟨w.heap.size, 0, none⟩) 1 1] (w.alloc (.cells #[.string (mkB x)] 9)) fun e w' => e = .returned (.bool (p.sees [x])) ∧ KP P w w' ∧ PsA P T w' p := by
  have h2 := h.up (alB w (.cells #[.string (mkB x)] 9))
  refine (seesSign_any h2 (SgA.new P w [x] (by simp) h.lt)).mono ?_
  rintro e w' ⟨a, b⟩
  exact ⟨a, (KP.al P w _).trans (KP.of_below b), h2.up b⟩
end Go.Proofs.YtcaeeackccgclaaGreatDoor

/- Regions by hand, in few words. -/
namespace Go.Proofs.YtcaeeackccgclaaGreatDoor
open Go.RowKit Go.Shelf

theorem pA {α : Type} {l : List α} {i : Nat} {a : α} : l.toArray.setIfInBounds i a = (l.set i a).toArray := by simp
theorem pB {α : Type} {a b : α} {l : List α} : (a :: l).set 0 b = b :: l := rfl
theorem pC {α : Type} {a b : α} {l : List α} {n : Nat} : (a :: l).set (n + 1) b = a :: l.set n b := rfl
theorem pD {α : Type} {l : List α} {i : Nat} (h : i < l.toArray.size) : l.toArray[i] = l[i]'(by simpa using h) := by simp
theorem pE {α : Type} {a : α} {l : List α} (h : 0 < (a :: l).length) : (a :: l)[0] = a := rfl
theorem pF {α : Type} {a : α} {l : List α} {i : Nat} (h : i + 1 < (a :: l).length) : (a :: l)[i + 1] = l[i]'(Nat.lt_of_succ_lt_succ h) := rfl
def opsR : Code → Array Oper
  | .region _ ops _ => ops
  | _ => #[]
theorem tK {P : Program} {md : Region.Mode} {ops : Array Oper} {Q : Exit → Act → World → Prop} {S : World → Prop} {i : Nat} {oi : Oper} {v : Value} {fuel : Nat} {listed : Array Bool} {a : Act} {w : World} (hi : ops[i]? = some oi)
    (hz : (Region.noSelect ops && (Region.free md ops listed i && (Region.ready md ops listed).contains i)) = true) (hQ : ∀ c (a a' : Act) w, a.defers = a'.defers → Q (.panic c) a w → Q (.panic c) a' w) (hy : YieldsIf P ops S oi v a) (hS : S w)
    (h : wpAnyH P md ops Q S fuel (listed.setIfInBounds i true) (a.put oi.dst v) w) : wpAnyH P md ops Q S (fuel + 1) listed a w := by
  obtain ⟨h1, h2⟩ := (Bool.and_eq_true _ _).mp hz
  obtain ⟨h3, h4⟩ := (Bool.and_eq_true _ _).mp h2
  exact wpAnyH_take hi h1 h3 h4 (fun c a w hq => hQ c _ _ w (by unfold Act.put; split <;> rfl) hq) hy hS h
theorem tK2 {P : Program} {md : Region.Mode} {ops : Array Oper} {Q : Exit → Act → World → Prop} {S : World → Prop} {i : Nat} {oi : Oper} {v : Value} {fuel : Nat} {listed : Array Bool} {a : Act} {w : World} (hi : ops[i]? = some oi)
    (hz : (Region.noSelect ops && (Region.free md ops listed i && (Region.ready md ops listed).contains i)) = true) (hQ : ∀ c a w, Q (.panic c) (a.put oi.dst v) w → Q (.panic c) a w) (hy : YieldsIf P ops S oi v a) (hS : S w)
    (h : wpAnyH P md ops Q S fuel (listed.setIfInBounds i true) (a.put oi.dst v) w) : wpAnyH P md ops Q S (fuel + 1) listed a w := by
  obtain ⟨h1, h2⟩ := (Bool.and_eq_true _ _).mp hz
  obtain ⟨h3, h4⟩ := (Bool.and_eq_true _ _).mp h2
  exact wpAnyH_take hi h1 h3 h4 hQ hy hS h
end Go.Proofs.YtcaeeackccgclaaGreatDoor

/- takeNew: a name that is none of those that are there. -/
namespace Go.Proofs.YtcaeeackccgclaaGreatDoor
open Go.RowKit Go.Shelf
attribute [local go_sem ↓] fld0 fld1 fld2 fld3

theorem SgA.of_own {P B : Nat} {w : World} {v : Value} {l : List (List UInt8)} (h : w.ownsRow B 9 1 v l.length (l.map sv)) (hP : P < B) (hl : l.length ≤ 1000000) : SgA P w v l := by
  rcases h.2 with ⟨rfl, h0⟩ | ⟨g, cap, cur, rfl, hB, hg, h1, h2, h3, h4⟩
  · have hn : l.length = 0 := by simpa using h0
    exact ⟨none, 0, by rw [hn], hl, fun h => by omega⟩
  · refine ⟨some ⟨g, 0, none⟩, cap, rfl, hl, fun _ => ⟨g, rfl, (Array.getElem?_eq_some_iff.1 hg).1, by omega, fun j hj => ?_⟩⟩
    rw [Lib.cell_of_heap hg]
    have e1 : (cur.toList.take (l.length * 1))[j]? = (l.map sv)[j]? := by rw [h4]
    rw [List.getElem?_take] at e1
    simp only [Nat.mul_one, hj, if_true] at e1
    rw [← Array.getElem?_toList, e1]
    simp [sv, hj]

set_option maxHeartbeats 4000000 in
set_option maxRecDepth 100000 in
theorem takeNew_any {P T : Nat} {w : World} {p : Ps} (h : PsA P T w p) {v : Value} {l : List (List UInt8)} (hs : SgA P w v l) {z : Except Ft (List UInt8 × Ps)} (hz : tkN l p = some z) :
    Calls Tryz.prog 76 #[pt P, v] w (PoA P T (fun _ x r => r = .string (mkB x)) w z) := by
  have hPl := h.lt
  have hTl := h.ltT
  have HN : Hid (Calls Tryz.prog 68 #[pt P] w fun e w' => e = .returned (.agg #[.int .i64 p.nx.kind, .string (mkB p.nx.text), .int .i64 p.nx.num, .int .i64 p.nx.pos]) ∧ Below w.heap.size w w') := next_any h
  have H : Hid (∀ w', KP P w w' → PsA P T w' p → SgA P w' v l) := fun w' hk _ => hs.keep hk
  have HP : Hid (PsA P T w p) := h
  unfold tkN at hz
  obtain ⟨t, ht⟩ : ∃ t, t = p.nx := ⟨_, rfl⟩
  have HT : Hid (t = p.nx) := ht
  rw [← ht] at HN hz
  clear ht h hs
  have hq : (((t.kind : Nat) : Int) == (1 : Int)) = (t.kind == 1) := by rw [Bool.eq_iff_iff]; simp; omega
  cases hk : t.kind == 1 with
  | false =>
    rw [hk] at hq
    simp only [hk, Bool.false_and, cond_false] at hz
    have hne : ¬ ((t.kind : Nat) : Int) = 1 := by simpa using hq
    go_enter Tryz.func76, Tryz.ntmps76
    go_wp2_with fail
    refine HN.out.mono ?_
    rintro e w1 ⟨rfl, hb1⟩
    have hb2 : Below w.heap.size w (w1.alloc (.cells #[.int .i64 t.kind, .string (mkB t.text), .int .i64 t.num, .int .i64 t.pos] 84)) := hb1.alloc hb1.size _
    have h2 := HP.out.up hb2
    have hk2 := KP.of_below (P := P) hb2
    have HG := giveUpIf_any h2 false 6
    clear hb1 hb2 HN
    go_wp2_with fail
    refine HG.mono ?_
    rintro e w2 ⟨he, hb2⟩
    simp only [cond_false] at he
    subst he
    have h3 := h2.up hb2
    have hk3 := hk2.trans (KP.of_below (P := P) hb2)
    clear h2 hk2 hb2 HG
    rcases bnd_some hz with ⟨x, hx, rfl⟩ | ⟨u, q, hx, hq⟩
    · have HTk := take2_any h3 1 (by decide) hx
      go_wp2_with fail
      refine HTk.mono ?_
      rintro e4 w4 hpo
      obtain ⟨rfl, hk4⟩ := bad_panic hpo hk3
      exact ⟨rfl, rfl, hk4⟩
    · have HTk := take2_any h3 1 (by decide) hx
      cases hq
      go_wp2_with fail
      refine HTk.mono ?_
      rintro e4 w4 ⟨v4, rfl, rfl, hp4, hk4⟩
      have hk5 := hk3.trans hk4
      clear hk3 hk4 HTk h3 hx hz
      go_wp2
      go_ret
      exact ⟨_, rfl, rfl, hp4, hk5⟩
  | true =>
    rw [hk] at hq
    have heq : ((t.kind : Nat) : Int) = 1 := by simpa using hq
    rw [heq] at HN
    clear heq hq
    go_enter Tryz.func76, Tryz.ntmps76
    go_wp2_with fail
    refine HN.out.mono ?_
    rintro e w1 ⟨rfl, hb1⟩
    have hb2 : Below w.heap.size w (w1.alloc (.cells #[.int .i64 1, .string (mkB t.text), .int .i64 t.num, .int .i64 t.pos] 84)) := hb1.alloc hb1.size _
    have h2 := HP.out.up hb2
    have hk2 := KP.of_below (P := P) hb2
    have HC := containsT_any (H.out _ hk2 h2) t.text
    clear hb1 hb2 HN
    cases hc : l.contains t.text with
    | true =>
      rw [hc] at HC
      simp only [hk, hc, Bool.and_self, cond_true] at hz
      cases hz
      have HG := giveUpIf_any h2 true 6
      go_wp2_with (first
        | (go_at_call 104; refine HC.mono ?_; rintro e w3 ⟨rfl, hw3⟩; subst w3)
        | fail)
      refine HG.mono ?_
      rintro e w4 ⟨he, hb4⟩
      simp only [cond_true] at he
      subst he
      exact ⟨rfl, rfl, hk2.trans (KP.of_below hb4)⟩
    | false =>
      rw [hc] at HC
      simp only [hk, hc, Bool.and_false, cond_false] at hz
      have HG := giveUpIf_any h2 false 6
      go_wp2_with (first
        | (go_at_call 104; refine HC.mono ?_; rintro e w3 ⟨rfl, hw3⟩; subst w3)
        | fail)
      refine HG.mono ?_
      rintro e w2 ⟨he, hb2⟩
      simp only [cond_false] at he
      subst he
      have h3 := h2.up hb2
      have hk3 := hk2.trans (KP.of_below (P := P) hb2)
      clear h2 hk2 hb2 HG
      rcases bnd_some hz with ⟨x, hx, rfl⟩ | ⟨u, q, hx, hq⟩
      · have HTk := take2_any h3 1 (by decide) hx
        go_wp2_with fail
        refine HTk.mono ?_
        rintro e4 w4 hpo
        obtain ⟨rfl, hk4⟩ := bad_panic hpo hk3
        exact ⟨rfl, rfl, hk4⟩
      · have HTk := take2_any h3 1 (by decide) hx
        cases hq
        go_wp2_with fail
        refine HTk.mono ?_
        rintro e4 w4 ⟨v4, rfl, rfl, hp4, hk4⟩
        have hk5 := hk3.trans hk4
        clear hk3 hk4 HTk h3 hx hz
        go_wp2
        go_ret
        exact ⟨_, rfl, rfl, hp4, hk5⟩
end Go.Proofs.YtcaeeackccgclaaGreatDoor

/- SyN3: one more name, in (*foundry/syntax.parser).loading. -/
namespace Go.Proofs.YtcaeeackccgclaaGreatDoor
open Go.RowKit Go.Shelf
attribute [local go_sem ↓] fld0 fld1 fld2 fld3

set_option maxHeartbeats 40000000 in
set_option linter.unusedSimpArgs false in
set_option linter.unusedVariables false in
set_option maxRecDepth 100000 in
theorem nr_lo {P T lo Vb : Nat} {W : World} {xs : List (List UInt8)} {nv : Value} {p : Ps} {zN : Except Ft (Tk × Ps)} {x1 x2 x4 x5 x6 x7 x8 x9 x10 x11 x12 x13 x14 x15 x16 x17 x18 x19 x20 x21 x22 x23 x24 x25 x26 x27 x28 x29 x30 x31 x32 x33 x34 x35 x36 x37 x38 x39 x40 x41 x42 x43 x44 x45 x46 x47 x48 : Value} (hlo : lo ≤ W.heap.size) (hPl : P < lo) (hnV : nv.ownBlock ≠ some Vb)
    (hps : PsA P T W p) (hnm : ∀ W', KP P W W' → W'.cell? ⟨Vb, 2, none⟩ = some nv ∧ W'.frozen? ⟨Vb, 2, none⟩ = false ∧ W'.ownsRow lo 9 1 nv xs.length (xs.map sv) ∧ True) (hn1 : xs.length ≤ 1000000) (hz : tkK 3 p = some zN) (Q0 : Exit → Act → World → Prop) (hQp : ∀ c (a a' : Act) w, a.defers = a'.defers → Q0 (.panic c) a w → Q0 (.panic c) a' w)
    (hpan : ∀ (x : Ft) (a : Act) (w' : World), a.defers = [] → zN = .error x → KP P W w' → Q0 (.panic (PC x.1 x.2)) a w')
    (hok : ∀ (u38 u39 u40 u41 u42 u43 u44 u45 : Value) (t : Tk) (q : Ps) (X w2 : World) (g' cap' : Nat), zN = .ok (t, q) → KP P W X → PsA P T X q → X.ownsRow lo 9 1 nv xs.length (xs.map sv) → X.grownBy w2 nv.ownBlock → (nv.ownBlock = some g' ∨ g' = X.heap.size) → w2.ownsRow lo 9 1 (.slice (some ⟨g', 0, none⟩) (xs.length + 1) cap') (xs.length + 1) (xs.map sv ++ [sv t.text]) → Q0 .normal ⟨#[pt P, x1, x2, pt Vb, x4, x5, x6, x7, x8, x9, x10, x11, x12, x13, x14, x15, x16, x17, x18, x19, x20, x21, x22, x23, x24, x25, x26, x27, x28, x29, x30, x31, x32, x33, x34, x35, x36, x37, u38, u39, u40, u41, u42, u43, u44, u45, x46, x47, x48], []⟩ (w2.setCell ⟨Vb, 2, none⟩ (.slice (some ⟨g', 0, none⟩) (xs.length + 1) cap'))) :
    Code.wp Tryz.prog (subW [true, true, true, true, true, false, false, false, true, false, true, true] (Tryz.f78.body.getD .skip)) Q0 ⟨#[pt P, x1, x2, pt Vb, x4, x5, x6, x7, x8, x9, x10, x11, x12, x13, x14, x15, x16, x17, x18, x19, x20, x21, x22, x23, x24, x25, x26, x27, x28, x29, x30, x31, x32, x33, x34, x35, x36, x37, x38, x39, x40, x41, x42, x43, x44, x45, x46, x47, x48], []⟩ W := by
  have infN : (Tryz.prog.info? 9).map (fun i => (i.zero, i.size, i.bytes)) = some (some (.string ⟨#[]⟩), 1, 16) := by kernel_rfl
  obtain ⟨i0, hi, hz0, hz1, hz2⟩ := info_p infN
  clear infN
  have HNm : Hid (∀ W', KP P W W' → W'.cell? ⟨Vb, 2, none⟩ = some nv ∧ W'.frozen? ⟨Vb, 2, none⟩ = false ∧ W'.ownsRow lo 9 1 nv xs.length (xs.map sv) ∧ True) := hnm
  have HPn : Hid (∀ (x : Ft) (a : Act) (w' : World), a.defers = [] → zN = .error x → KP P W w' → Q0 (.panic (PC x.1 x.2)) a w') := hpan
  have HOk : Hid (∀ (u38 u39 u40 u41 u42 u43 u44 u45 : Value) (t : Tk) (q : Ps) (X w2 : World) (g' cap' : Nat), zN = .ok (t, q) → KP P W X → PsA P T X q → X.ownsRow lo 9 1 nv xs.length (xs.map sv) → X.grownBy w2 nv.ownBlock → (nv.ownBlock = some g' ∨ g' = X.heap.size) → w2.ownsRow lo 9 1 (.slice (some ⟨g', 0, none⟩) (xs.length + 1) cap') (xs.length + 1) (xs.map sv ++ [sv t.text]) → Q0 .normal ⟨#[pt P, x1, x2, pt Vb, x4, x5, x6, x7, x8, x9, x10, x11, x12, x13, x14, x15, x16, x17, x18, x19, x20, x21, x22, x23, x24, x25, x26, x27, x28, x29, x30, x31, x32, x33, x34, x35, x36, x37, u38, u39, u40, u41, u42, u43, u44, u45, x46, x47, x48], []⟩ (w2.setCell ⟨Vb, 2, none⟩ (.slice (some ⟨g', 0, none⟩) (xs.length + 1) cap'))) := hok
  have hk0 : KP P W W.drew := (KP.refl P W).drew
  obtain ⟨c_0, f_0, r_0, sb_0⟩ := hnm W.drew hk0
  obtain ⟨an, cn, hnv⟩ := row_shape r_0
  have HD0 := take2_any (hps.drewN 1) 3 (by decide) hz
  clear hnm hpan hok hz
  subst hnv
  have HQp : Hid (∀ c (a a' : Act) w, a.defers = a'.defers → Q0 (.panic c) a w → Q0 (.panic c) a' w) := hQp
  clear hQp
  conv => arg 2; whnf
  match zN with
  | .error x =>
    refine wp_region_held_drew (S := fun _ => True) (by kernel_rfl) sb_0 (fun hHeld => ?_)
    refine tK (i := 0) (v := .pointer (some ⟨Vb, 2, none⟩)) rfl (by kernel_rfl) HQp.out (Or.inl ⟨by rfl, ?_⟩) (by assumption) ?_
    · intro V hSV
      try dsimp only at hSV
      go_simp
      try with_reducible rfl
      try (intro h9; exfalso; omega)
    try simp only [Act.put, pA, pB, pC, pD, pE, pF]
    refine tK (i := 2) (v := pt P) rfl (by kernel_rfl) HQp.out (Or.inl ⟨by rfl, ?_⟩) (by assumption) ?_
    · intro V hSV
      try dsimp only at hSV
      go_simp
      try with_reducible rfl
      try (intro h9; exfalso; omega)
    try simp only [Act.put, pA, pB, pC, pD, pE, pF]
    refine wpAnyH_ready (rs := [1, 3]) (by kernel_rfl) (by simp) (AllReadyH.cons rfl (fun K hK => ?_) (AllReadyH.cons rfl (fun K hK => ?_) AllReadyH.nil))
    go_simp
    refine hK.out _ _ hHeld (fun hHeld => ?_)
    clear hK K
    try simp only [Act.put, pA, pB, pC, pD, pE, pF]
    refine wpAnyH_ready (rs := [3]) (by kernel_rfl) (by simp) (AllReadyH.cons rfl (fun K hK => ?_) AllReadyH.nil)
    go_simp
    refine HD0.mono ?_
    rintro e1 w1 hpo
    obtain ⟨rfl, hk1⟩ := bad_panic hpo hk0
    exact HPn.out _ _ _ rfl rfl hk1
    go_simp
    refine HD0.mono ?_
    rintro e1 w1 hpo
    obtain ⟨rfl, hk1⟩ := bad_panic hpo hk0
    exact HPn.out _ _ _ rfl rfl hk1
  | .ok (x, q) =>
    refine wp_region_held_drew (S := fun _ => True) (by kernel_rfl) sb_0 (fun hHeld => ?_)
    refine tK (i := 0) (v := .pointer (some ⟨Vb, 2, none⟩)) rfl (by kernel_rfl) HQp.out (Or.inl ⟨by rfl, ?_⟩) (by assumption) ?_
    · intro V hSV
      try dsimp only at hSV
      go_simp
      try with_reducible rfl
      try (intro h9; exfalso; omega)
    try simp only [Act.put, pA, pB, pC, pD, pE, pF]
    refine tK (i := 2) (v := pt P) rfl (by kernel_rfl) HQp.out (Or.inl ⟨by rfl, ?_⟩) (by assumption) ?_
    · intro V hSV
      try dsimp only at hSV
      go_simp
      try with_reducible rfl
      try (intro h9; exfalso; omega)
    try simp only [Act.put, pA, pB, pC, pD, pE, pF]
    refine wpAnyH_ready (rs := [1, 3]) (by kernel_rfl) (by simp) (AllReadyH.cons rfl (fun K hK => ?_) (AllReadyH.cons rfl (fun K hK => ?_) AllReadyH.nil))
    go_simp
    refine hK.out _ _ hHeld (fun hHeld => ?_)
    clear hK K
    try simp only [Act.put, pA, pB, pC, pD, pE, pF]
    refine wpAnyH_ready (rs := [3]) (by kernel_rfl) (by simp) (AllReadyH.cons rfl (fun K hK => ?_) AllReadyH.nil)
    go_simp
    refine HD0.mono ?_
    rintro e1 w1 ⟨v1, rfl, rfl, hp1, hkw1⟩
    have hk1 := hk0.trans hkw1
    obtain ⟨c_1, f_1, r_1, sb_1⟩ := HNm.out w1 hk1
    have hkx := hk1.alloc (.cells #[.string (mkB x.text)] 9)
    obtain ⟨c_x, f_x, r_x, sb_x⟩ := HNm.out _ hkx
    have hpx := hp1.up (alB w1 (.cells #[.string (mkB x.text)] 9))
    have hzx : (w1.alloc (.cells #[.string (mkB x.text)] 9)).heap[w1.heap.size]? = some (.cells #[.string (mkB x.text)] 9 (0, 0)) := heap_alloc_new w1 _
    have HX : Hid (KP P W (w1.alloc (.cells #[.string (mkB x.text)] 9)) ∧ PsA P T (w1.alloc (.cells #[.string (mkB x.text)] 9)) q) := ⟨hkx, hpx⟩
    clear hkw1 hk1 hkx hp1 hpx
    refine hK.out _ _ sb_1 (fun hHeld => ?_)
    clear hK K
    try simp only [Act.put, pA, pB, pC, pD, pE, pF]
    refine tK (i := 4) (v := .string (mkB x.text)) rfl (by kernel_rfl) HQp.out (Or.inl ⟨by rfl, ?_⟩) (by assumption) ?_
    · intro V hSV
      try dsimp only at hSV
      go_simp
      try with_reducible rfl
      try (intro h9; exfalso; omega)
    try simp only [Act.put, pA, pB, pC, pD, pE, pF]
    refine wpAnyH_ready (rs := [5]) (by kernel_rfl) (by simp) (AllReadyH.cons rfl (fun K hK => ?_) AllReadyH.nil)
    go_simp
    refine hK.out _ _ sb_x (fun hHeld => ?_)
    clear hK K
    try simp only [Act.put, pA, pB, pC, pD, pE, pF]
    have hnews : ∀ (j : Nat) (u : Value), [Value.string (mkB x.text)][j]? = some u → (w1.alloc (.cells #[.string (mkB x.text)] 9)).cell? ((⟨w1.heap.size, 0, none⟩ : Addr).add j) = some u := fun j u hu => World.news_of_block hzx j u hu
    have hsX : lo ≤ (w1.alloc (.cells #[.string (mkB x.text)] 9)).heap.size := Nat.le_trans hlo HX.out.1.size
    refine wpAnyH_ready (rs := [6]) (by kernel_rfl) (by simp) (AllReadyH.cons rfl (fun K hK => ?_) AllReadyH.nil)
    refine step_append_lies (w1.alloc (.cells #[.string (mkB x.text)] 9)) (by rfl) (Operand.tmp 39) (Operand.tmp 43) 35 (by rfl) lo 9 i0 (.string ⟨#[]⟩) 1 16 Tryz.underlying35 hi hz0 hz1 hz2 rfl (by decide) (.slice an xs.length cn) xs.length (xs.map sv) (by rfl) r_x ⟨w1.heap.size, 0, none⟩ 1 1 [.string (mkB x.text)] (by rfl) rfl hnews (by simp [Value.oneCell']) (by decide) (by unfold maxLen; omega) (by omega) hsX (w1.alloc (.cells #[.string (mkB x.text)] 9)).heap.size rfl ?_
    intro g' cap' w2 hown2 hgrow hat hltg
    have hVX : Vb < (w1.alloc (.cells #[.string (mkB x.text)] 9)).heap.size := World.block_lt_of_cell? _ _ c_x
    have hV2 : w2.heap[Vb]? = (w1.alloc (.cells #[.string (mkB x.text)] 9)).heap[Vb]? := hgrow.block Vb hVX (fun e => hnV e.symm)
    have c_2 : w2.cell? ⟨Vb, 2, none⟩ = some (.slice an xs.length cn) := (World.cell?_of_block hV2).trans c_x
    have f_2 : w2.frozen? ⟨Vb, 2, none⟩ = false := by
      rw [← f_x]
      unfold World.frozen?
      rw [hV2]
    have sb_2 : True := trivial
    have sb_4 : True := trivial
    refine hK.out _ _ sb_2 (fun hHeld => ?_)
    clear hK K
    try simp only [Act.put, pA, pB, pC, pD, pE, pF]
    refine tK (i := 7) (v := .pointer (some ⟨Vb, 2, none⟩)) rfl (by kernel_rfl) HQp.out (Or.inl ⟨by rfl, ?_⟩) (by assumption) ?_
    · intro V hSV
      try dsimp only at hSV
      go_simp
      try with_reducible rfl
      try (intro h9; exfalso; omega)
    try simp only [Act.put, pA, pB, pC, pD, pE, pF]
    refine wpAnyH_ready (rs := [8]) (by kernel_rfl) (by simp) (AllReadyH.cons rfl (fun K hK => ?_) AllReadyH.nil)
    go_simp
    refine hK.out _ _ sb_4 (fun hHeld => ?_)
    clear hK K
    try simp only [Act.put, pA, pB, pC, pD, pE, pF]
    refine wpAnyH_done (by kernel_rfl) ?_ _
    try simp only [Act.put, pA, pB, pC, pD, pE, pF]
    exact HOk.out _ _ _ _ _ _ _ _ x q (w1.alloc (.cells #[.string (mkB x.text)] 9)) w2 g' cap' rfl HX.out.1 HX.out.2 r_x hgrow hat hown2
    go_simp
    refine HD0.mono ?_
    rintro e1 w1 ⟨v1, rfl, rfl, hp1, hkw1⟩
    have hk1 := hk0.trans hkw1
    obtain ⟨c_1, f_1, r_1, sb_1⟩ := HNm.out w1 hk1
    have hkx := hk1.alloc (.cells #[.string (mkB x.text)] 9)
    obtain ⟨c_x, f_x, r_x, sb_x⟩ := HNm.out _ hkx
    have hpx := hp1.up (alB w1 (.cells #[.string (mkB x.text)] 9))
    have hzx : (w1.alloc (.cells #[.string (mkB x.text)] 9)).heap[w1.heap.size]? = some (.cells #[.string (mkB x.text)] 9 (0, 0)) := heap_alloc_new w1 _
    have HX : Hid (KP P W (w1.alloc (.cells #[.string (mkB x.text)] 9)) ∧ PsA P T (w1.alloc (.cells #[.string (mkB x.text)] 9)) q) := ⟨hkx, hpx⟩
    clear hkw1 hk1 hkx hp1 hpx
    refine hK.out _ _ sb_1 (fun hHeld => ?_)
    clear hK K
    try simp only [Act.put, pA, pB, pC, pD, pE, pF]
    refine tK (i := 4) (v := .string (mkB x.text)) rfl (by kernel_rfl) HQp.out (Or.inl ⟨by rfl, ?_⟩) (by assumption) ?_
    · intro V hSV
      try dsimp only at hSV
      go_simp
      try with_reducible rfl
      try (intro h9; exfalso; omega)
    try simp only [Act.put, pA, pB, pC, pD, pE, pF]
    refine wpAnyH_ready (rs := [1, 5]) (by kernel_rfl) (by simp) (AllReadyH.cons rfl (fun K hK => ?_) (AllReadyH.cons rfl (fun K hK => ?_) AllReadyH.nil))
    go_simp
    refine hK.out _ _ hHeld (fun hHeld => ?_)
    clear hK K
    try simp only [Act.put, pA, pB, pC, pD, pE, pF]
    refine wpAnyH_ready (rs := [5]) (by kernel_rfl) (by simp) (AllReadyH.cons rfl (fun K hK => ?_) AllReadyH.nil)
    go_simp
    refine hK.out _ _ sb_x (fun hHeld => ?_)
    clear hK K
    try simp only [Act.put, pA, pB, pC, pD, pE, pF]
    have hnews : ∀ (j : Nat) (u : Value), [Value.string (mkB x.text)][j]? = some u → (w1.alloc (.cells #[.string (mkB x.text)] 9)).cell? ((⟨w1.heap.size, 0, none⟩ : Addr).add j) = some u := fun j u hu => World.news_of_block hzx j u hu
    have hsX : lo ≤ (w1.alloc (.cells #[.string (mkB x.text)] 9)).heap.size := Nat.le_trans hlo HX.out.1.size
    refine wpAnyH_ready (rs := [6]) (by kernel_rfl) (by simp) (AllReadyH.cons rfl (fun K hK => ?_) AllReadyH.nil)
    refine step_append_lies (w1.alloc (.cells #[.string (mkB x.text)] 9)) (by rfl) (Operand.tmp 39) (Operand.tmp 43) 35 (by rfl) lo 9 i0 (.string ⟨#[]⟩) 1 16 Tryz.underlying35 hi hz0 hz1 hz2 rfl (by decide) (.slice an xs.length cn) xs.length (xs.map sv) (by rfl) r_x ⟨w1.heap.size, 0, none⟩ 1 1 [.string (mkB x.text)] (by rfl) rfl hnews (by simp [Value.oneCell']) (by decide) (by unfold maxLen; omega) (by omega) hsX (w1.alloc (.cells #[.string (mkB x.text)] 9)).heap.size rfl ?_
    intro g' cap' w2 hown2 hgrow hat hltg
    have hVX : Vb < (w1.alloc (.cells #[.string (mkB x.text)] 9)).heap.size := World.block_lt_of_cell? _ _ c_x
    have hV2 : w2.heap[Vb]? = (w1.alloc (.cells #[.string (mkB x.text)] 9)).heap[Vb]? := hgrow.block Vb hVX (fun e => hnV e.symm)
    have c_2 : w2.cell? ⟨Vb, 2, none⟩ = some (.slice an xs.length cn) := (World.cell?_of_block hV2).trans c_x
    have f_2 : w2.frozen? ⟨Vb, 2, none⟩ = false := by
      rw [← f_x]
      unfold World.frozen?
      rw [hV2]
    have sb_2 : True := trivial
    have sb_4 : True := trivial
    refine hK.out _ _ sb_2 (fun hHeld => ?_)
    clear hK K
    try simp only [Act.put, pA, pB, pC, pD, pE, pF]
    refine tK (i := 7) (v := .pointer (some ⟨Vb, 2, none⟩)) rfl (by kernel_rfl) HQp.out (Or.inl ⟨by rfl, ?_⟩) (by assumption) ?_
    · intro V hSV
      try dsimp only at hSV
      go_simp
      try with_reducible rfl
      try (intro h9; exfalso; omega)
    try simp only [Act.put, pA, pB, pC, pD, pE, pF]
    refine wpAnyH_ready (rs := [8]) (by kernel_rfl) (by simp) (AllReadyH.cons rfl (fun K hK => ?_) AllReadyH.nil)
    go_simp
    refine hK.out _ _ sb_4 (fun hHeld => ?_)
    clear hK K
    try simp only [Act.put, pA, pB, pC, pD, pE, pF]
    refine wpAnyH_done (by kernel_rfl) ?_ _
    try simp only [Act.put, pA, pB, pC, pD, pE, pF]
    exact HOk.out _ _ _ _ _ _ _ _ x q (w1.alloc (.cells #[.string (mkB x.text)] 9)) w2 g' cap' rfl HX.out.1 HX.out.2 r_x hgrow hat hown2
    go_simp
    refine hK.out _ _ sb_x (fun hHeld => ?_)
    clear hK K
    try simp only [Act.put, pA, pB, pC, pD, pE, pF]
    refine wpAnyH_ready (rs := [1]) (by kernel_rfl) (by simp) (AllReadyH.cons rfl (fun K hK => ?_) AllReadyH.nil)
    go_simp
    refine hK.out _ _ hHeld (fun hHeld => ?_)
    clear hK K
    try simp only [Act.put, pA, pB, pC, pD, pE, pF]
    have hnews : ∀ (j : Nat) (u : Value), [Value.string (mkB x.text)][j]? = some u → (w1.alloc (.cells #[.string (mkB x.text)] 9)).cell? ((⟨w1.heap.size, 0, none⟩ : Addr).add j) = some u := fun j u hu => World.news_of_block hzx j u hu
    have hsX : lo ≤ (w1.alloc (.cells #[.string (mkB x.text)] 9)).heap.size := Nat.le_trans hlo HX.out.1.size
    refine wpAnyH_ready (rs := [6]) (by kernel_rfl) (by simp) (AllReadyH.cons rfl (fun K hK => ?_) AllReadyH.nil)
    refine step_append_lies (w1.alloc (.cells #[.string (mkB x.text)] 9)) (by rfl) (Operand.tmp 39) (Operand.tmp 43) 35 (by rfl) lo 9 i0 (.string ⟨#[]⟩) 1 16 Tryz.underlying35 hi hz0 hz1 hz2 rfl (by decide) (.slice an xs.length cn) xs.length (xs.map sv) (by rfl) r_x ⟨w1.heap.size, 0, none⟩ 1 1 [.string (mkB x.text)] (by rfl) rfl hnews (by simp [Value.oneCell']) (by decide) (by unfold maxLen; omega) (by omega) hsX (w1.alloc (.cells #[.string (mkB x.text)] 9)).heap.size rfl ?_
    intro g' cap' w2 hown2 hgrow hat hltg
    have hVX : Vb < (w1.alloc (.cells #[.string (mkB x.text)] 9)).heap.size := World.block_lt_of_cell? _ _ c_x
    have hV2 : w2.heap[Vb]? = (w1.alloc (.cells #[.string (mkB x.text)] 9)).heap[Vb]? := hgrow.block Vb hVX (fun e => hnV e.symm)
    have c_2 : w2.cell? ⟨Vb, 2, none⟩ = some (.slice an xs.length cn) := (World.cell?_of_block hV2).trans c_x
    have f_2 : w2.frozen? ⟨Vb, 2, none⟩ = false := by
      rw [← f_x]
      unfold World.frozen?
      rw [hV2]
    have sb_2 : True := trivial
    have sb_4 : True := trivial
    refine hK.out _ _ sb_2 (fun hHeld => ?_)
    clear hK K
    try simp only [Act.put, pA, pB, pC, pD, pE, pF]
    refine tK (i := 7) (v := .pointer (some ⟨Vb, 2, none⟩)) rfl (by kernel_rfl) HQp.out (Or.inl ⟨by rfl, ?_⟩) (by assumption) ?_
    · intro V hSV
      try dsimp only at hSV
      go_simp
      try with_reducible rfl
      try (intro h9; exfalso; omega)
    try simp only [Act.put, pA, pB, pC, pD, pE, pF]
    refine wpAnyH_ready (rs := [8]) (by kernel_rfl) (by simp) (AllReadyH.cons rfl (fun K hK => ?_) AllReadyH.nil)
    go_simp
    refine hK.out _ _ sb_4 (fun hHeld => ?_)
    clear hK K
    try simp only [Act.put, pA, pB, pC, pD, pE, pF]
    refine wpAnyH_done (by kernel_rfl) ?_ _
    try simp only [Act.put, pA, pB, pC, pD, pE, pF]
    exact HOk.out _ _ _ _ _ _ _ _ x q (w1.alloc (.cells #[.string (mkB x.text)] 9)) w2 g' cap' rfl HX.out.1 HX.out.2 r_x hgrow hat hown2
end Go.Proofs.YtcaeeackccgclaaGreatDoor

/- A source, split. -/
namespace Go.Proofs.YtcaeeackccgclaaGreatDoor
open Go.RowKit Go.Shelf

/-- The shelf's contract for Clone, laid at this program. -/
def laysCl_ren : Ren := ⟨fun | 316 => 32 | n => n, fun | 9 => 9 | 3 => 3 | 4 => 4 | 37 => 34 | 0 => 0 | 127 => 56 | 5 => 5 | n => n, fun | n => n⟩
theorem laysCl : Go.Proofs.LaysM.n316 Tryz.prog laysCl_ren := {
  mixed := by kernel_rfl
  f316 := Tryz.func32.trans (congrArg some (by kernel_rfl))
  t0 := Tryz.underlying0
  a0 := Tryz.isAgg0
  z0 := Tryz.sizeOf0
  v0 := Tryz.zeroValue0
  t3 := Tryz.underlying3
  a3 := Tryz.isAgg3
  z3 := Tryz.sizeOf3
  v3 := Tryz.zeroValue3
  t4 := Tryz.underlying4
  a4 := Tryz.isAgg4
  z4 := Tryz.sizeOf4
  v4 := Tryz.zeroValue4
  t9 := Tryz.underlying9
  a9 := Tryz.isAgg9
  z9 := Tryz.sizeOf9
  v9 := Tryz.zeroValue9
  t37 := Tryz.underlying34
  a37 := Tryz.isAgg34
  z37 := Tryz.sizeOf34
  v37 := Tryz.zeroValue34
  t127 := Tryz.underlying56
  a127 := Tryz.isAgg56
  z127 := Tryz.sizeOf56
  v127 := Tryz.zeroValue56
  t5 := Tryz.underlying5
  a5 := Tryz.isAgg5
  z5 := Tryz.sizeOf5
  v5 := Tryz.zeroValue5
  i0 := by kernel_rfl
  i3 := by kernel_rfl
  i4 := by kernel_rfl
  i5 := by kernel_rfl
  i9 := by kernel_rfl
  i37 := by kernel_rfl
  i127 := by kernel_rfl }
theorem cloneLite (s : ByteArray) (w : World) (hlim : s.size ≤ 281474976710656) :
    Calls Tryz.prog 32 #[.string s] w fun e w' => e = .returned (.string s) ∧ Below w.heap.size w w' := Any.stringslite_Clone laysCl s w hlim
theorem clone_any (s : ByteArray) (w : World) (hlim : s.size ≤ 281474976710656) :
    Calls Tryz.prog 20 #[.string s] w fun e w' => e = .returned (.string s) ∧ Below w.heap.size w w' := by
  go_enter Tryz.func20, Tryz.ntmps20
  go_wp2_with (go_at_call 32; refine (cloneLite s _ hlim).mono ?_; rintro e w' ⟨rfl, hb⟩)
  go_ret
  exact ⟨rfl, hb⟩

/-- What Split answers, plain. -/
def splitA (L : List UInt8) : Except Ft (List Tk) := if L.length ≤ 6000 then splitL L else .error (2, 0)

set_option maxHeartbeats 4000000 in
set_option maxRecDepth 100000 in
theorem Split_any (L : List UInt8) (w : World) (hr : ErrR w) :
    Calls Tryz.prog 13 #[.string (mkB L)] w fun e w' => SplP w (splitA L) e w' := by
  have hsz := mk_size L
  by_cases hL : L.length ≤ 6000
  · have HA : Hid (splitA L = splitL L) := if_pos hL
    have hn : ¬ (6000 : Int) < ((mkB L).size : Int) := by omega
    have HCl : Hid (∀ W, Calls Tryz.prog 20 #[.string (mkB L)] W fun e w' => e = .returned (.string (mkB L)) ∧ Below W.heap.size W w') := fun W => clone_any (mkB L) W (by omega)
    have HSp : Hid (∀ W, Below w.heap.size w W → Calls Tryz.prog 19 #[.string (mkB L)] W fun e w' => SplP W (splitL L) e w') := fun W hW => split_any L W hL (hr.up hW)
    have HR : Hid (ErrR w) := hr
    clear hr hL hsz
    have hb0 : Below w.heap.size w (w.alloc (.cells #[.int .i64 0, .int .i64 0] 25)) := (Below.refl _ w).alloc (Nat.le_refl _) _
    have l0 := heap_alloc_new w (.cells #[.int .i64 0, .int .i64 0] 25)
    have hz0 : (w.alloc (.cells #[.int .i64 0, .int .i64 0] 25)).heap.size = w.heap.size + 1 := World.size_alloc _ _
    have H0 : Hid (Below w.heap.size w (w.alloc (.cells #[.int .i64 0, .int .i64 0] 25)) ∧ (w.alloc (.cells #[.int .i64 0, .int .i64 0] 25)).heap[w.heap.size]? = some (.cells #[.int .i64 0, .int .i64 0] 25 (0, 0)) ∧ (w.alloc (.cells #[.int .i64 0, .int .i64 0] 25)).heap.size = w.heap.size + 1) := ⟨hb0, l0, hz0⟩
    clear hb0 l0 hz0
    go_enter Tryz.func13, Tryz.ntmps13
    go_wp2_with fail
    generalize w.alloc (.cells #[.int .i64 0, .int .i64 0] 25) = W0 at *
    refine (HCl.out W0).mono ?_
    rintro e W1 ⟨rfl, hb1⟩
    have hlt1 : w.heap.size < W1.heap.size := by have := hb1.size; have := H0.out.2.2; omega
    have H1 : Hid (Below w.heap.size w W1 ∧ W1.heap[w.heap.size]? = some (.cells #[.int .i64 0, .int .i64 0] 25 (0, 0)) ∧ w.heap.size < W1.heap.size) := ⟨H0.out.1.trans (hb1.mono (by have := H0.out.2.2; omega)), (hb1.block _ (by have := H0.out.2.2; omega)).trans H0.out.2.1, hlt1⟩
    clear hb1 H0 hlt1
    go_wp2_with fail
    refine (HSp.out W1 H1.out.1).mono ?_
    rintro e W2 ⟨h1, h2, hb2⟩
    have l2 := (hb2.block _ H1.out.2.2).trans H1.out.2.1
    have q0 : W2.cell? ⟨w.heap.size, 0, none⟩ = some (.int .i64 0) := by rw [Lib.cell_of_heap l2]; rfl
    have q1 : W2.cell? ⟨w.heap.size, 1, none⟩ = some (.int .i64 0) := by rw [Lib.cell_of_heap l2]; rfl
    have r0 : W2.frozen? ⟨w.heap.size, 0, none⟩ = false := Lib.frozen_of_heap l2 0
    have r1 : W2.frozen? ⟨w.heap.size, 1, none⟩ = false := Lib.frozen_of_heap l2 1
    have HB2 : Hid (Below w.heap.size w W2) := H1.out.1.trans (hb2.mono (Nat.le_of_lt H1.out.2.2))
    have HW : Hid (∀ a b : Value, Below w.heap.size w ((W2.setCell ⟨w.heap.size, 0, none⟩ a).setCell ⟨w.heap.size, 1, none⟩ b)) := fun a b => (HB2.out.setCell (p := ⟨w.heap.size, 0, none⟩) (Nat.le_refl _) _).setCell (p := ⟨w.heap.size, 1, none⟩) (Nat.le_refl _) _
    clear hb2 l2
    cases hsp : splitL L with
    | error x =>
      obtain ⟨k, z⟩ := x
      rw [hsp] at HA
      obtain rfl := h1 k z hsp
      clear h1 h2 hsp
      go_wp2
      refine bodyPost_ret (v := .tuple #[.slice none 0 0, .agg #[.int .i64 (k : Int), .int .i64 (z : Int)]]) (by simp [results, Tryz.results13, go_sem, q0, q1]) rfl ?_
      refine ⟨fun k' z' hz => ?_, fun l hl => ?_, HW.out _ _⟩
      · rw [HA.out] at hz; cases hz; rfl
      · rw [HA.out] at hl; cases hl
    | ok l =>
      rw [hsp] at HA
      obtain ⟨tv, rfl, ho⟩ := h2 l hsp
      have HO : Hid (∀ a b : Value, ((W2.setCell ⟨w.heap.size, 0, none⟩ a).setCell ⟨w.heap.size, 1, none⟩ b).ownsRow w.heap.size 84 4 tv l.length (tcs l)) := fun a b => row_mono (own_heap ho fun g hg => by
        have := (ho.lt g hg).1
        have := H1.out.2.2
        exact (Below.heap_setCell _ ⟨w.heap.size, 1, none⟩ _ g (by show ¬ g = w.heap.size; omega)).trans (Below.heap_setCell _ ⟨w.heap.size, 0, none⟩ _ g (by show ¬ g = w.heap.size; omega))) (Nat.le_of_lt H1.out.2.2)
      clear h1 h2 hsp ho
      go_wp2
      refine bodyPost_ret (v := .tuple #[tv, .agg #[.int .i64 0, .int .i64 0]]) (by simp [results, Tryz.results13, go_sem, q0, q1]) rfl ?_
      refine ⟨fun k' z' hz => ?_, fun l hl => ?_, HW.out _ _⟩
      · rw [HA.out] at hz; cases hz
      · rw [HA.out] at hl; cases hl
        exact ⟨_, rfl, HO.out _ _⟩
  · have HA : Hid (splitA L = .error (2, 0)) := if_neg hL
    have hn : (6000 : Int) < ((mkB L).size : Int) := by omega
    clear hr hL hsz
    go_enter Tryz.func13, Tryz.ntmps13
    go_wp2
    refine bodyPost_ret (v := .tuple #[.slice none 0 0, .agg #[.int .i64 2, .int .i64 0]]) (by simp [results, Tryz.results13, go_sem]) rfl ?_
    refine ⟨fun k' z' hz => ?_, fun l hl => ?_, ?_⟩
    · rw [HA.out] at hz; cases hz; rfl
    · rw [HA.out] at hl; cases hl
    · exact (Below.refl _ w).alloc (Nat.le_refl _) _
end Go.Proofs.YtcaeeackccgclaaGreatDoor

/- Statements of tokens, plain. -/
namespace Go.Proofs.YtcaeeackccgclaaGreatDoor

/-- Whether a text is just a name. -/
def isNmL (x : List UInt8) : Bool := match splitA x with
  | .ok (t :: _) => t.kind == 1 && t.text == x
  | _ => false
def ldL : Nat → List (List UInt8) → Ps → Px (List (List UInt8))
  | 0, _, _ => none
  | f + 1, l, p => bif decide (0 < l.length) && p.sees [[41]] then ok l p
    else iff (decide (l.length < 1000000)) (bnd (tkS [44] p) fun _ q => bnd (guIf (!isNmL q.nx.text) 1 q) fun _ q => bnd (tkK 3 q) fun t q => iff (less q p) (ldL f (l ++ [t.text]) q))
def loadS (p : Ps) : Px Sm := bnd (guIf (decide (0 < p.blk)) 4 p) fun _ p => bnd (tkS [108, 111, 97, 100] p) fun _ p => bnd (tkS [40] p) fun _ p => bnd (tkK 3 p) fun t p =>
  bnd (ldL (p.toks.length + 1) [] p) fun l p => bnd (tkS [41] p) fun _ p => ok ⟨4, t.text, l, ⟨0, 0, [], [], []⟩, [], []⟩ p
def smlF (E : Ps → Px Ex) (p : Ps) : Px Sm :=
  bif p.sees [[112, 97, 115, 115]] then ok ⟨1, [], [], ⟨0, 0, [], [], []⟩, [], []⟩ p.adv
  else bif p.sees [[114, 101, 116, 117, 114, 110]] then givS E p
  else bif p.sees [[108, 111, 97, 100]] then loadS p
  else bif sSet p then setS E p else bnd (E p) fun e q => ok ⟨5, [], [], e, [], []⟩ q
def Ps.bin (p : Ps) : Ps := { p with blk := p.blk + 1 }
def Ps.bout (p : Ps) : Ps := { p with blk := p.blk - 1 }
def Ps.din (p : Ps) (b : Bool) : Ps := { p with inD := b }
/-- The statements of a block, up to where it goes out. -/
def blL (St : Ps → Px Sm) : Nat → List Sm → Ps → Px (List Sm)
  | 0, _, _ => none
  | f + 1, l, p => bif p.nx.kind == 8 then ok l p else iff (decide (l.length < 1000000)) (bnd (St p) fun s q => iff (less q p) (blL St f (l ++ [s]) q))
def blF (St : Ps → Px Sm) (p : Ps) : Px (List Sm) := bnd (tkS [58] p) fun _ p => bnd (tkK 6 p) fun _ p => bnd (tkK 7 p) fun _ p =>
  iff (decide (p.blk < 1000)) (bnd (blL St (p.toks.length + 1) [] p.bin) fun l q => iff (decide (1 ≤ q.blk)) (bnd (tkK 8 q.bout) fun _ q => ok l q))
section
variable (E : Ps → Px Ex) (B : Ps → Px (List Sm))
def condS (p : Ps) : Px Sm := bnd (tkS [105, 102] p) fun _ p => bnd (E p) fun e p => bnd (B p) fun b p =>
  bif p.sees [[101, 108, 115, 101]] then bnd (B p.adv) fun c q => ok ⟨7, [], [], e, b, c⟩ q else ok ⟨7, [], [], e, b, []⟩ p
def loopS (p : Ps) : Px Sm := bnd (tkS [102, 111, 114] p) fun _ p => bnd (tkK 1 p) fun t p => bnd (tkS [105, 110] p) fun _ p => bnd (E p) fun e p => bnd (B p) fun b p => ok ⟨8, t.text, [], e, b, []⟩ p
/-- One name more of a definition. -/
def nmE (l : List (List UInt8)) (p : Ps) : Px (List (List UInt8)) := iff (decide (l.length < 1000000)) (bnd (tkN l p) fun x q => ok (l ++ [x]) q)
def defS (p : Ps) : Px Sm := bnd (guIf (decide (0 < p.blk)) 4 p) fun _ p => bnd (tkS [100, 101, 102] p) fun _ p => bnd (tkK 1 p) fun t p => bnd (tkS [40] p) fun _ p =>
  bnd (lst [41] nmE [] p) fun l p => bnd (B (p.din true)) fun b p => ok ⟨6, t.text, l, ⟨0, 0, [], [], []⟩, b, []⟩ (p.din false)
def stmF (p : Ps) : Px Sm :=
  bif p.sees [[105, 102]] then condS E B p
  else bif p.sees [[102, 111, 114]] then loopS E B p
  else bif p.sees [[100, 101, 102]] then defS B p
  else bnd (smlF E p) fun s q => bnd (tkK 6 q) fun _ q => ok s q
end
/-- A statement, with so many blocks in one another. -/
def stD (E : Ps → Px Ex) : Nat → Ps → Px Sm
  | 0, _ => none
  | n + 1, p => stmF E (blF (stD E n)) p
def srcL (St : Ps → Px Sm) : Nat → List Sm → Ps → Px (List Sm)
  | 0, _, _ => none
  | f + 1, l, p => bif decide (p.toks.length = 0) then ok l p else iff (decide (l.length < 1000000)) (bnd (St p) fun s q => iff (less q p) (srcL St f (l ++ [s]) q))
def srcF (E : Ps → Px Ex) (p : Ps) : Px (List Sm) := srcL (stD E 40) (p.toks.length + 1) [] p
end Go.Proofs.YtcaeeackccgclaaGreatDoor

/- Whether a name and the sign of a setting come next. -/
namespace Go.Proofs.YtcaeeackccgclaaGreatDoor
open Go.RowKit Go.Shelf
attribute [local go_sem ↓] fld0 fld1 fld2 fld3

theorem PsA.second {P T : Nat} {w : World} {p : Ps} (h : PsA P T w p) {t u : Tk} {r : List Tk} (hp : p.toks = t :: u :: r) : ∃ o c, w.cell? ⟨P, 0, none⟩ = some (.slice (some ⟨T, o, none⟩) (r.length + 1 + 1) c) ∧ w.cell? ⟨T, o + 4, none⟩ = some (.int .i64 u.kind) ∧ w.cell? ⟨T, o + 5, none⟩ = some (.string (mkB u.text)) ∧ w.cell? ⟨T, o + 6, none⟩ = some (.int .i64 u.num) ∧ w.cell? ⟨T, o + 7, none⟩ = some (.int .i64 u.pos) := by
  obtain ⟨a, c, o, h1, h2, h3, h4, h5, h6, h7, h8⟩ := h
  rw [hp] at h1 h2 h4 h5
  obtain rfl := h4 (by simp)
  simp only [List.length_cons] at h1 h5
  refine ⟨o, c, by rw [Lib.cell_of_heap h1]; rfl, ?_, ?_, ?_, ?_⟩
  · exact h5 4 (by omega)
  · exact h5 5 (by omega)
  · exact h5 6 (by omega)
  · exact h5 7 (by omega)

set_option maxHeartbeats 4000000 in
set_option maxRecDepth 100000 in
theorem seesSet_any {P T : Nat} {w : World} {p : Ps} (h : PsA P T w p) :
    Calls Tryz.prog 79 #[pt P] w fun e w' => e = .returned (.bool (sSet p)) ∧ Below w.heap.size w w' := by
  have HS := sees2_any h 1
  match hp : p.toks with
  | [] =>
    obtain ⟨a, c, c0, _⟩ := h.cells
    rw [hp] at c0
    rw [show sSet p = false from by unfold sSet; rw [hp]]
    clear HS h
    go_enter Tryz.func79, Tryz.ntmps79
    go_wp2
    go_ret
    exact ⟨rfl, Below.refl _ _⟩
  | [t] =>
    obtain ⟨a, c, c0, _⟩ := h.cells
    rw [hp] at c0
    rw [show sSet p = false from by unfold sSet; rw [hp]]
    clear HS h
    go_enter Tryz.func79, Tryz.ntmps79
    go_wp2
    go_ret
    exact ⟨rfl, Below.refl _ _⟩
  | t :: u :: r =>
    rw [show sSet p = (t.kind == 1 && isS u [[61]]) from by unfold sSet; rw [hp]]
    rw [adv_of hp] at HS
    obtain ⟨o, c, c0, _⟩ := h.second hp
    have H : Hid (PsA P T w p) := h
    clear h
    have hge : (1 : Int) < ((r.length : Int) + 1 + 1) := by omega
    cases hk : t.kind == 1 with
    | false =>
      rw [hk] at HS
      go_enter Tryz.func79, Tryz.ntmps79
      go_wp2_with (go_at_call 80; refine HS.mono ?_; rintro e w1 ⟨rfl, hb1⟩)
      go_ret
      exact ⟨rfl, hb1⟩
    | true =>
      rw [hk] at HS
      go_enter Tryz.func79, Tryz.ntmps79
      go_wp2_with fail
      refine HS.mono ?_
      rintro e w1 ⟨rfl, hb1⟩
      have h1 := H.out.up hb1
      obtain ⟨o1, k1, d0, d1, d2, d3, d4⟩ := h1.second hp
      have hPl := h1.lt
      have HI : Calls Tryz.prog 67 #[.agg #[.int .i64 u.kind, .string (mkB u.text), .int .i64 u.num, .int .i64 u.pos], .slice (some ⟨w1.heap.size, 0, none⟩) 1 1] (w1.alloc (.cells #[.string ⟨#[61]⟩] 9)) fun e w' => e = .returned (.bool (isS u [[61]])) ∧ Below w.heap.size w w' := (isSign_any u (SgA.new P w1 [[61]] (by simp) hPl)).mono fun e w' ⟨a, b⟩ => ⟨a, (hb1.trans ((alB w1 _).mono hb1.size)).trans (b.mono (Nat.le_trans hb1.size (by rw [World.size_alloc]; omega)))⟩
      clear h1 hb1 H HS
      go_wp2_with fail
      refine HI.mono ?_
      rintro e w2 ⟨rfl, hb2⟩
      go_wp2
      go_ret
      exact ⟨rfl, hb2⟩
end Go.Proofs.YtcaeeackccgclaaGreatDoor

/- Statements in memory. -/
namespace Go.Proofs.YtcaeeackccgclaaGreatDoor
open Go.RowKit Go.Shelf

/-- A statement's ten cells; rows in blocks of S. -/
def SmV (w : World) (S : Nat → Prop) : Nat → Sm → List Value → Prop
  | 0, _, _ => False
  | n + 1, x, c => ∃ nv ce bv ev bs es, c = .int .i64 x.kind :: sv x.text :: nv :: (ce ++ [bv, ev]) ∧ ExA w S x.ex ce ∧ w.ownsRow 0 9 1 nv x.names.length (x.names.map sv) ∧ w.ownsRow 0 40 10 bv x.body.length bs.flatten ∧ w.ownsRow 0 40 10 ev x.els.length es.flatten ∧ (∀ g, nv.ownBlock = some g → S g) ∧ (∀ g, bv.ownBlock = some g → S g) ∧ (∀ g, ev.ownBlock = some g → S g) ∧ Fa (SmV w S n) x.body bs ∧ Fa (SmV w S n) x.els es
theorem SmV.keep {w w' : World} {S Q : Nat → Prop} (hk : ∀ g, S g → g < w.heap.size → w'.heap[g]? = w.heap[g]?) (hs : ∀ g, S g → g < w.heap.size → Q g) : ∀ {n : Nat} {x : Sm} {c : List Value}, SmV w S n x c → SmV w' Q n x c
  | _ + 1, _, _, ⟨nv, ce, bv, ev, bs, es, e, h1, h2, h3, h4, k2, k3, k4, h5, h6⟩ => ⟨nv, ce, bv, ev, bs, es, e, h1.keep hk hs, own_heap h2 fun g hg => hk g (k2 g hg) (h2.lt g hg).2, own_heap h3 fun g hg => hk g (k3 g hg) (h3.lt g hg).2, own_heap h4 fun g hg => hk g (k4 g hg) (h4.lt g hg).2, fun g hg => hs g (k2 g hg) (h2.lt g hg).2, fun g hg => hs g (k3 g hg) (h3.lt g hg).2, fun g hg => hs g (k4 g hg) (h4.lt g hg).2, h5.mono fun _ _ f => SmV.keep hk hs f, h6.mono fun _ _ f => SmV.keep hk hs f⟩
def SmA (w : World) (S : Nat → Prop) (x : Sm) (c : List Value) : Prop := ∃ n, SmV w S n x c
section
variable {w w' : World} {S Q : Nat → Prop} {x : Sm} {c : List Value}
theorem SmA.keep (h : SmA w S x c) (hk : ∀ g, S g → g < w.heap.size → w'.heap[g]? = w.heap[g]?) (hs : ∀ g, S g → g < w.heap.size → Q g) : SmA w' Q x c := ⟨h.choose, h.choose_spec.keep hk hs⟩
theorem SmA.mono (h : SmA w S x c) (hs : ∀ g, S g → g < w.heap.size → Q g) : SmA w Q x c := h.keep (fun _ _ _ => rfl) hs
theorem SmA.form (h : SmA w S x c) : ∃ a0 c0 a1 c1 a2 c2 a3 c3 a4 c4, c = [.int .i64 x.kind, .string (mkB x.text), .slice a0 x.names.length c0, .int .i64 x.ex.kind, .int .i64 x.ex.num, .string (mkB x.ex.text), .slice a1 x.ex.kids.length c1, .slice a2 x.ex.names.length c2, .slice a3 x.body.length c3, .slice a4 x.els.length c4] := by
  obtain ⟨n, hn⟩ := h
  match n, hn with
  | n + 1, ⟨nv, ce, bv, ev, bs, es, e, h1, h2, h3, h4, _⟩ =>
    obtain ⟨a0, c0, rfl⟩ := row_shape h2
    obtain ⟨a3, c3, rfl⟩ := row_shape h3
    obtain ⟨a4, c4, rfl⟩ := row_shape h4
    obtain ⟨a1, c1, a2, c2, rfl⟩ := h1.form
    exact ⟨a0, c0, a1, c1, a2, c2, a3, c3, a4, c4, e⟩
theorem SmA.len (h : SmA w S x c) : c.length = 10 := by
  obtain ⟨a0, c0, a1, c1, a2, c2, a3, c3, a4, c4, rfl⟩ := h.form
  rfl
theorem SmA.one (h : SmA w S x c) : ∀ v ∈ c, v.oneCell' = true := by
  obtain ⟨a0, c0, a1, c1, a2, c2, a3, c3, a4, c4, rfl⟩ := h.form
  simp [Value.oneCell']
/-- A statement with an expression and no blocks. -/
theorem SmA.small {e : Ex} {ce : List Value} (h : ExA w S e ce) (k : Nat) (t : List UInt8) : SmA w S ⟨k, t, [], e, [], []⟩ (.int .i64 k :: sv t :: .slice none 0 0 :: (ce ++ [.slice none 0 0, .slice none 0 0])) :=
  ⟨1, _, ce, _, _, [], [], rfl, h, World.ownsRow_nil _ _ _ _, World.ownsRow_nil _ _ _ _, World.ownsRow_nil _ _ _ _, (fun g hg => by cases hg), (fun g hg => by cases hg), (fun g hg => by cases hg), trivial, trivial⟩
end
def VS (n : Nat) (w : World) (x : Sm) (v : Value) : Prop := ∃ c, v = .agg c.toArray ∧ SmA w (fun g => n ≤ g) x c
abbrev sz : Obj := .cells #[.int .i64 0, .string ⟨#[]⟩, .slice none 0 0, .int .i64 0, .int .i64 0, .string ⟨#[]⟩, .slice none 0 0, .slice none 0 0, .slice none 0 0, .slice none 0 0] 40
theorem szS : (Tryz.prog.info? 40).map (·.size) = some 10 := by kernel_rfl
theorem cells10 {w : World} {R : Nat} (h : w.heap[R]? = some sz) : (w.cell? ⟨R, 0, none⟩ = some (.int .i64 0) ∧ w.cell? ⟨R, 1, none⟩ = some (.string ⟨#[]⟩) ∧ w.cell? ⟨R, 2, none⟩ = some (.slice none 0 0) ∧ w.cell? ⟨R, 3, none⟩ = some (.int .i64 0) ∧ w.cell? ⟨R, 4, none⟩ = some (.int .i64 0) ∧ w.cell? ⟨R, 5, none⟩ = some (.string ⟨#[]⟩) ∧ w.cell? ⟨R, 6, none⟩ = some (.slice none 0 0) ∧ w.cell? ⟨R, 7, none⟩ = some (.slice none 0 0) ∧ w.cell? ⟨R, 8, none⟩ = some (.slice none 0 0) ∧ w.cell? ⟨R, 9, none⟩ = some (.slice none 0 0)) ∧ ∀ i, w.frozen? ⟨R, i, none⟩ = false := by
  refine ⟨⟨?_, ?_, ?_, ?_, ?_, ?_, ?_, ?_, ?_, ?_⟩, fun i => Lib.frozen_of_heap h i⟩ <;> (rw [Lib.cell_of_heap h]; rfl)
/-- What goes into a variable of a statement's type. -/
theorem fin10 {w1 : World} {R : Nat} {c0 : Array Value} (hr : w1.heap[R]? = some (.cells c0 40 (0, 0))) (h0 : c0.size = 10) {S : Nat → Prop} {x : Sm} {c : List Value} (h : SmA w1 S x c) :
    w1.there R 0 c.toArray.size ∧ (Tryz.prog.info? 40).map (·.size) = some c.toArray.size ∧ c.toArray.all (·.oneCell') = true ∧ (loadVar 40 ⟨R, 0, none⟩).run Tryz.prog (w1.setCells R 0 c) = .ok (.agg c.toArray) (w1.setCells R 0 c) ∧
    (Tryz.prog.info? 40).map (·.size) = some c.length := by
  have hl := h.len
  have hla : c.toArray.size = 10 := hl
  refine ⟨by rw [hla, ← h0]; exact there_of hr, by rw [hla]; exact szS, all_oneCell_toArray h.one, (stN hr (c := c) (by rw [hl, h0]) (by rw [hl]; exact szS) h.one Tryz.underlying40 rfl).2, by rw [hl]; exact szS⟩
theorem poS_fin {P T : Nat} {w w1 : World} {R : Nat} (hR : w.heap.size ≤ R) {S : Nat → Prop} {x : Sm} {c : List Value} (hx : SmA w1 S x c) (hS : ∀ g, S g → w.heap.size ≤ g ∧ g ≠ R) {q : Ps} (hps : PsA P T w1 q) (hk : KP P w w1) (hP : P < w.heap.size) (hT : T < w.heap.size) :
    PoA P T (VS w.heap.size) w (.ok (x, q)) (.returned (.agg c.toArray)) (w1.setCells R 0 c) :=
  ⟨_, rfl, ⟨c, rfl, hx.keep (fun g hg _ => heap_sets R c 0 w1 g (hS g hg).2) (fun g hg _ => (hS g hg).1)⟩, hps.sets (by omega) (by omega) _, hk.sets hR _⟩
end Go.Proofs.YtcaeeackccgclaaGreatDoor
