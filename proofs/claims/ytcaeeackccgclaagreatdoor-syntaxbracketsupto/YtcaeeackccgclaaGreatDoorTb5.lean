/- What stands with some signs between. -/
import Derived.Test.YtcaeeackccgclaaGreatDoorChecked
import Derived.WalkKit
import Derived.Orders
import Derived.Test.YtcaeeackccgclaaGreatDoorTb4
namespace Go.Proofs.YtcaeeackccgclaaGreatDoor
open Go.RowKit Go.Shelf
attribute [local go_sem ↓] fld0 fld1 fld2 fld3

/-- How many tokens are left. -/
def tkLen (P : Nat) (w : World) : Nat := match w.cell? ⟨P, 0, none⟩ with
  | some (.slice _ n _) => n
  | _ => 0
theorem PsA.tk {P T : Nat} {w : World} {p : Ps} (h : PsA P T w p) : tkLen P w = p.toks.length := by
  obtain ⟨_, _, c0, _⟩ := h.cells
  unfold tkLen
  rw [c0]
theorem poE_fin2 {P T : Nat} {w w1 : World} {R : Nat} (hR : w.heap.size ≤ R) {S : Nat → Prop} {x : Ex} {c : List Value} (hx : ExA w1 S x c) (hS : ∀ g, S g → w.heap.size ≤ g ∧ g ≠ R) {q : Ps} (hps : PsA P T w1 q) (hk : KP P w w1) (hP : P < w.heap.size) (hT : T < w.heap.size) :
    PoA P T (VE w.heap.size) w (.ok (x, q)) (.returned (.agg c.toArray)) (w1.setCells R 0 c) :=
  ⟨_, rfl, ⟨c, rfl, hx.keep (fun g hg _ => heap_sets R c 0 w1 g (hS g hg).2) (fun g hg _ => (hS g hg).1)⟩, hps.sets (by omega) (by omega) _, hk.sets hR _⟩
theorem cells_of_range {w : World} {b : Nat} {c : List Value} {c0 : Array Value} {ty : TypeId} (h : w.heap[b]? = some (.cells c0 ty (0, 0))) (hl : c.length = c0.size) : (w.setCells b 0 c).rangeAt b 0 c := World.rangeAt_setCells_same _ _ _ _ (by rw [hl]; exact there_of h)
/-- A variable of an expression's type. -/
def EV (w : World) (L : Nat) (c : List Value) : Prop := (∃ c0, w.heap[L]? = some (.cells c0 38 (0, 0)) ∧ c0.size = 5) ∧ w.rangeAt L 0 c
theorem EV.lt {w : World} {L : Nat} {c : List Value} (h : EV w L c) : L < w.heap.size := by
  obtain ⟨⟨c0, h, _⟩, _⟩ := h
  exact (Array.getElem?_eq_some_iff.1 h).1
theorem EV.keep {w w' : World} {L : Nat} {c : List Value} (h : EV w L c) (hk : w'.heap[L]? = w.heap[L]?) : EV w' L c := by
  obtain ⟨⟨c0, h1, h2⟩, h3⟩ := h
  refine ⟨⟨c0, hk.trans h1, h2⟩, fun j v hv => ?_⟩
  rw [← h3 j v hv]
  simp [World.cell?, hk]
theorem heap_set_same (b : Nat) {c0 : Array Value} {ty : TypeId} : ∀ (vs : List Value) (o : Nat) (w : World), w.heap[b]? = some (.cells c0 ty (0, 0)) → ∃ c1 : Array Value, (w.setCells b o vs).heap[b]? = some (.cells c1 ty (0, 0)) ∧ c1.size = c0.size
  | [], _, _, h => ⟨c0, h, rfl⟩
  | v :: vs, o, w, h => by
    have h2 : (w.setCell ⟨b, o, none⟩ v).heap[b]? = some (.cells (c0.setIfInBounds o v) ty (0, 0)) := Go.Joins.block_setCell h v
    obtain ⟨c1, h3, h4⟩ := heap_set_same b vs (o + 1) _ h2
    exact ⟨c1, h3, by rw [h4]; simp⟩
theorem EV.put {w : World} {L : Nat} {c : List Value} (h : EV w L c) {c' : List Value} (hl : c'.length = 5) : EV (w.setCells L 0 c') L c' := by
  obtain ⟨⟨c0, h1, h2⟩, _⟩ := h
  obtain ⟨c1, h3, h4⟩ := heap_set_same L c' 0 w h1
  exact ⟨⟨c1, h3, by rw [h4, h2]⟩, cells_of_range h1 (by rw [hl, h2])⟩
theorem EV.new {w1 : World} {c : List Value} (hl : c.length = 5) : EV ((w1.alloc ez).setCells w1.heap.size 0 c) w1.heap.size c := by
  have hr : (w1.alloc ez).heap[w1.heap.size]? = some ez := heap_alloc_new w1 _
  obtain ⟨c1, h3, h4⟩ := heap_set_same w1.heap.size c 0 _ hr
  exact ⟨⟨c1, h3, h4⟩, cells_of_range hr hl⟩
theorem EV.there {w : World} {L : Nat} {c : List Value} (h : EV w L c) {c' : List Value} (hl : c'.length = 5) : w.there L 0 c'.toArray.size := by
  obtain ⟨⟨c0, h1, h2⟩, _⟩ := h
  have : c'.toArray.size = c0.size := hl.trans h2.symm
  rw [this]
  exact there_of h1
/-- Where joined stands. -/
def JoI (P T n L : Nat) (w : World) (m : Ps → Px Ex) (l : List (List UInt8)) (z : Except Ft (Ex × Ps)) (wr : World) : Prop := ∃ e p f c, jnL m l f e p = some z ∧ PsA P T wr p ∧ KP P w wr ∧ EV wr L c ∧ ExA wr (fun g => n + 1 ≤ g ∧ g ≠ L) e c ∧ wr.heap[n]? = some ez

set_option maxHeartbeats 8000000 in
set_option maxRecDepth 100000 in
theorem joined_any {P T F : Nat} {caps : Array Value} {w : World} {p : Ps} {m : Ps → Px Ex} (h : PsA P T w p) (hm : PartC P T F caps w m) {sgv : Value} {l : List (List UInt8)} (hsg : SgA P w sgv l) {z : Except Ft (Ex × Ps)} (hz : jn m l p = some z) :
    Calls Tryz.prog 108 #[pt P, .func (.func F) #[] caps, sgv] w (PoA P T (VE w.heap.size) w z) := by
  have hPl := h.lt
  have hTl := h.ltT
  have hent := hm.1
  have HM : Hid (PartC P T F caps w m) := hm
  have HSG : Hid (SgA P w sgv l) := hsg
  have hk0 : KP P w (w.alloc ez) := KP.of_below (alB w ez)
  have hr0 : (w.alloc ez).heap[w.heap.size]? = some ez := heap_alloc_new w ez
  have HC : Hid (∀ z', m p = some z' → Calls Tryz.prog F caps (w.alloc ez) (PoA P T (VE (w.heap.size + 1)) (w.alloc ez) z')) := fun z' hz' => by
    have := hm.2 _ p z' hk0 (h.up (alB w ez)) hz'
    rwa [World.size_alloc] at this
  have HV : Hid (KP P w (w.alloc ez) ∧ (w.alloc ez).heap[w.heap.size]? = some ez) := ⟨hk0, hr0⟩
  clear hm hk0 hr0 h hsg
  rcases bnd_some hz with ⟨x, hx, rfl⟩ | ⟨x, q, hx, hq⟩
  · have HC1 := HC.out _ hx
    clear HC
    go_enter Tryz.func108, Tryz.ntmps108
    go_wp2_with fail
    refine HC1.mono ?_
    rintro e w1 hpo
    obtain ⟨rfl, hk⟩ := bad_panic hpo HV.out.1
    exact ⟨rfl, rfl, hk⟩
  · have HC1 := HC.out _ hx
    clear HC
    go_enter Tryz.func108, Tryz.ntmps108
    go_wp2_with fail
    refine HC1.mono ?_
    rintro e w1 ⟨v, rfl, ⟨c, rfl, hx1⟩, hp1, hk1⟩
    have hr1 : w1.heap[w.heap.size]? = some ez := (hk1.blk _ (Array.getElem?_eq_some_iff.1 HV.out.2).1 (by omega)).trans HV.out.2
    have hs1 : w.heap.size < w1.heap.size := (Array.getElem?_eq_some_iff.1 hr1).1
    have hkw := HV.out.1.trans hk1
    obtain ⟨t1, r1, x1, g1⟩ := var5 hx1
    obtain ⟨-, i1, o1, -, j1⟩ := fin5 hr1 rfl hx1
    have HF : Hid ((w1.alloc ez).there w1.heap.size 0 c.toArray.size ∧ (Tryz.prog.info? 38).map (·.size) = some c.toArray.size ∧ c.toArray.all (·.oneCell') = true) := ⟨t1, i1, o1⟩
    have HJ : Hid (JoI P T w.heap.size w1.heap.size w m l z ((w1.alloc ez).setCells w1.heap.size 0 c)) := ⟨x, q, _, c, hq, hp1.keep (g1 P (by omega)) (g1 T (by omega)), (hkw.trans (KP.of_below (alB w1 ez))).sets (by omega) c, EV.new hx1.len, x1.mono (fun g hg _ => ⟨hg.1, by omega⟩), (g1 _ hs1).trans hr1⟩
    clear t1 r1 x1 g1 i1 o1 j1 hkw hr1 hk1 hp1 hx1 HC1 HV hq hx hz
    go_wp2_with (first
      | (refine wpList_store_mid rfl 38 (Operand.tmp 7) (Operand.tmp 9) rfl w1.heap.size 0 c.toArray rfl rfl HF.out.1 HF.out.2.1 HF.out.2.2 ?_)
      | fail)
    simp only [Act.put]
    go_loopw [] (fun wr => Hid (JoI P T w.heap.size w1.heap.size w m l z wr)) (fun wr => tkLen P wr)
    case atStart => exact HJ
    case round =>
      obtain ⟨e, p', f, c', hj, hps, hk, hev, hxe, hrr⟩ := hrel.out
      clear hrel HJ HF
      cases f with
      | zero => cases hj
      | succ f =>
      have HS := seesSign_any hps (HSG.out.keep hk)
      unfold jnL at hj
      cases hb : p'.sees l with
      | false =>
        rw [hb] at hj HS
        cases hj
        go_wp2_with fail
        refine HS.mono ?_
        rintro e2 w2 ⟨rfl, hb2⟩
        have hxe2 : ExA w2 (fun g => w.heap.size + 1 ≤ g ∧ g ≠ w1.heap.size) e c' := hxe.keep (fun g _ hg => hb2.block g hg) (fun g hg _ => hg)
        have hev2 := hev.keep (hb2.block _ hev.lt)
        have hrr2 := (hb2.block _ (Array.getElem?_eq_some_iff.1 hrr).1).trans hrr
        obtain ⟨t2, i2, o2, l2, j2⟩ := fin5 hrr2 rfl hxe2
        have HE : Hid (PoA P T (VE w.heap.size) w (.ok (e, p')) (.returned (.agg c'.toArray)) (w2.setCells w.heap.size 0 c')) := poE_fin2 (Nat.le_refl _) hxe2 (fun g hg => ⟨by omega, by omega⟩) (hps.up hb2) (hk.trans (KP.of_below hb2)) hPl hTl
        have HF : Hid (w2.rangeAt w1.heap.size 0 c' ∧ (Tryz.prog.info? 38).map (·.size) = some c'.length ∧ w2.there w.heap.size 0 c'.toArray.size ∧ (Tryz.prog.info? 38).map (·.size) = some c'.toArray.size ∧ c'.toArray.all (·.oneCell') = true ∧ (loadVar 38 ⟨w.heap.size, 0, none⟩).run Tryz.prog (w2.setCells w.heap.size 0 c') = .ok (.agg c'.toArray) (w2.setCells w.heap.size 0 c')) := ⟨hev2.2, j2, t2, i2, o2, l2⟩
        clear hxe2 hev2 hrr2 t2 i2 o2 l2 j2 hb2 HS hxe hev hrr hps hk
        go_wp2_with (first
          | (refine wpList_load_mid rfl 38 (Operand.tmp 7) rfl w1.heap.size 0 rfl c' _ HF.out.1 Tryz.underlying38 rfl HF.out.2.1 ?_)
          | (refine wpList_store_mid rfl 38 (Operand.tmp 6) (Operand.tmp 17) rfl w.heap.size 0 c'.toArray rfl rfl HF.out.2.2.1 HF.out.2.2.2.1 HF.out.2.2.2.2.1 ?_)
          | fail)
        refine bodyPost_ret (v := .agg c'.toArray) (res_one Tryz.results108 _ _ rfl HF.out.2.2.2.2.2) rfl HE.out
      | true =>
        rw [hb] at hj HS
        replace hj : (bnd (m p'.adv) fun x q => iff (less q p') (jnL m l f ⟨14, 0, p'.nx.text, [e, x], []⟩ q)) = some z := hj
        go_wp2_with fail
        refine HS.mono ?_
        rintro e2 w2 ⟨rfl, hb2⟩
        have hxe2 : ExA w2 (fun g => w.heap.size + 1 ≤ g ∧ g ≠ w1.heap.size) e c' := hxe.keep (fun g _ hg => hb2.block g hg) (fun g hg _ => hg)
        have hev2 := hev.keep (hb2.block _ hev.lt)
        have hrr2 := (hb2.block _ (Array.getElem?_eq_some_iff.1 hrr).1).trans hrr
        have hk2 := hk.trans (KP.of_below (P := P) hb2)
        have hps2 := hps.up hb2
        have htk := hps.tk
        obtain ⟨-, -, -, -, j2⟩ := fin5 hrr2 rfl hxe2
        rcases bnd_some hj with ⟨y, hy, rfl⟩ | ⟨y, q2, hy, hq2⟩
        · have HP := pair_any hps2 (HM.out.keep hk2) hb hxe2 (fun g hg => by omega) (z := .error y) (by rw [hy]; rfl)
          have HF : Hid (w2.rangeAt w1.heap.size 0 c' ∧ (Tryz.prog.info? 38).map (·.size) = some c'.length) := ⟨hev2.2, j2⟩
          clear hxe2 hev2 hrr2 j2 hb2 HS hxe hev hrr hps hk hj hps2 hy
          go_wp2_with (first
            | (refine wpList_load_mid rfl 38 (Operand.tmp 7) rfl w1.heap.size 0 rfl c' _ HF.out.1 Tryz.underlying38 rfl HF.out.2 ?_)
            | fail)
          refine HP.mono ?_
          rintro e3 w3 hpo
          obtain ⟨rfl, hk3⟩ := bad_panic hpo hk2
          exact ⟨rfl, rfl, hk3⟩
        · obtain ⟨hle, hj2⟩ := iff_some hq2
          have hle2 : q2.toks.length < p'.toks.length := of_decide_eq_true hle
          have HP := pair_any hps2 (HM.out.keep hk2) hb hxe2 (fun g hg => by omega) (z := .ok (_, q2)) (by rw [hy]; rfl)
          have HF : Hid (w2.rangeAt w1.heap.size 0 c' ∧ (Tryz.prog.info? 38).map (·.size) = some c'.length) := ⟨hev2.2, j2⟩
          have HH : Hid (EV w2 w1.heap.size c' ∧ w2.heap[w.heap.size]? = some ez ∧ w1.heap.size < w2.heap.size) := ⟨hev2, hrr2, hev2.lt⟩
          clear hxe2 hev2 hrr2 j2 hb2 HS hxe hev hrr hps hk hj hps2 hy hq2 hle
          go_wp2_with (first
            | (refine wpList_load_mid rfl 38 (Operand.tmp 7) rfl w1.heap.size 0 rfl c' _ HF.out.1 Tryz.underlying38 rfl HF.out.2 ?_)
            | fail)
          refine HP.mono ?_
          rintro e3 w3 ⟨v3, rfl, ⟨c3, rfl, hx3⟩, hp3, hk3⟩
          have hr3 := (hk3.blk _ (Array.getElem?_eq_some_iff.1 HH.out.2.1).1 (by omega)).trans HH.out.2.1
          have hl3 : EV w3 w1.heap.size c' := HH.out.1.keep (hk3.blk _ HH.out.2.2 (by omega))
          obtain ⟨-, i3, o3, -, j3⟩ := fin5 hr3 rfl hx3
          have HG : Hid (w3.there w1.heap.size 0 c3.toArray.size ∧ (Tryz.prog.info? 38).map (·.size) = some c3.toArray.size ∧ c3.toArray.all (·.oneCell') = true) := ⟨hl3.there hx3.len, i3, o3⟩
          have hK3 : KP P w (w3.setCells w1.heap.size 0 c3) := (hk2.trans hk3).sets (by omega) _
          have hP3 : PsA P T (w3.setCells w1.heap.size 0 c3) q2 := hp3.sets (by omega) (by omega) _
          have HJ : Hid (JoI P T w.heap.size w1.heap.size w m l z (w3.setCells w1.heap.size 0 c3)) := ⟨_, q2, f, c3, hj2, hP3, hK3, hl3.put hx3.len, hx3.keep (fun g hg _ => heap_sets _ c3 0 w3 g (by rcases hg with hg | hg; (· exact hg.2); (· have := HH.out.2.2; omega))) (fun g hg _ => by rcases hg with hg | hg; (· exact hg); (· have := HH.out.2.2; omega)), (heap_sets _ c3 0 w3 _ (by omega)).trans hr3⟩
          have htk3 := hP3.tk
          clear hr3 hl3 i3 o3 j3 hK3 hP3 hx3 hp3 hk3 HP HH HF
          go_wp2_with (first
            | (refine wpList_store_mid rfl 38 (Operand.tmp 7) (Operand.tmp 16) rfl w1.heap.size 0 c3.toArray rfl rfl HG.out.1 HG.out.2.1 HG.out.2.2 ?_)
            | fail)
          refine ⟨⟨_, _, _, _, _, _, _, HJ, rfl⟩, ?_⟩
          show tkLen P _ < tkLen P _
          rw [htk3, htk]
          exact hle2
end Go.Proofs.YtcaeeackccgclaaGreatDoor

/- The parser's closures that hand on. -/
namespace Go.Proofs.YtcaeeackccgclaaGreatDoor
open Go.RowKit Go.Shelf
attribute [local go_sem ↓] fld0 fld1 fld2 fld3

/-- A method that parses. -/
def MethC (P T Y : Nat) (m : Ps → Px Ex) : Prop := ∀ W p z, PsA P T W p → m p = some z → Calls Tryz.prog Y #[pt P] W (PoA P T (VE W.heap.size) W z)
/-- A box in which the parser's address lies. -/
def BoxA (P b : Nat) (w : World) : Prop := b ≠ P ∧ w.cell? ⟨b, 0, none⟩ = some (pt P)
theorem BoxA.keep {P b : Nat} {w w' : World} (h : BoxA P b w) (hk : KP P w w') : BoxA P b w' := by
  have hl : b < w.heap.size := World.block_lt_of_cell? w ⟨b, 0, none⟩ h.2
  refine ⟨h.1, ?_⟩
  rw [← h.2]
  simp [World.cell?, hk.blk b hl h.1]
theorem KP.al (P : Nat) (w : World) (o : Obj) : KP P w (w.alloc o) := KP.of_below (alB w o)
theorem BoxA.new {P : Nat} {w : World} (hP : P < w.heap.size) : BoxA P w.heap.size (w.alloc (.cells #[pt P] 73)) := by
  refine ⟨by omega, ?_⟩
  rw [Lib.cell_of_heap (heap_alloc_new w _)]
  rfl
theorem mk_func (fn : Fn) (first cap : Array Value) (w : World) : (Instr.makeFunc fn first cap).run Tryz.prog w = .ok (.func fn first cap) w := rfl
attribute [local go_sem] mk_func

set_option maxHeartbeats 4000000 in
set_option maxRecDepth 100000 in
theorem exC_any {P T : Nat} {m : Ps → Px Ex} (hY : MethC P T 111 m) {b : Nat} {w : World} (hb : BoxA P b w) : PartC P T 110 #[pt b] w m := by
  refine ⟨enters_of Tryz.func110 (by kernel_rfl) rfl, fun W p z hk h hz => ?_⟩
  have hPl := h.lt
  have hTl := h.ltT
  have hW := h.up (alB W ez)
  have hk0 := KP.al P W ez
  have cb := ((hb.keep hk).keep hk0).2
  have hr0 := heap_alloc_new W ez
  have HC := hY (W.alloc ez) p z hW hz
  rw [World.size_alloc] at HC
  clear hb hk h hY hz
  go_enter Tryz.func110, Tryz.ntmps110
  go_wp2_with fail
  refine HC.mono ?_
  rintro e w1 hpo
  cases z with
  | error x =>
    obtain ⟨rfl, hk1⟩ := bad_panic hpo hk0
    exact ⟨rfl, rfl, hk1⟩
  | ok r =>
    obtain ⟨x, q⟩ := r
    obtain ⟨v, rfl, ⟨c, rfl, hx1⟩, hp1, hk1⟩ := hpo
    have hr1 := (hk1.blk _ (Array.getElem?_eq_some_iff.1 hr0).1 (by omega)).trans hr0
    obtain ⟨t2, i2, o2, l2, j2⟩ := fin5 hr1 rfl hx1
    have HE : Hid (PoA P T (VE W.heap.size) W (.ok (x, q)) (.returned (.agg c.toArray)) (w1.setCells (W.heap.size) 0 c)) := poE_fin (by omega) (by omega) hx1 hp1 (hk0.trans hk1) hPl hTl
    have HF : Hid (w1.there (W.heap.size) 0 c.toArray.size ∧ (Tryz.prog.info? 38).map (·.size) = some c.toArray.size ∧ c.toArray.all (·.oneCell') = true ∧ (loadVar 38 ⟨W.heap.size, 0, none⟩).run Tryz.prog (w1.setCells (W.heap.size) 0 c) = .ok (.agg c.toArray) (w1.setCells (W.heap.size) 0 c)) := ⟨t2, i2, o2, l2⟩
    clear t2 i2 o2 l2 j2 hx1 hp1 hk1 hr1 hk0 hr0 HC hW
    go_wp2_with (first
      | (refine wpList_store_mid rfl 38 (Operand.tmp 1) (Operand.tmp 3) rfl (W.heap.size) 0 c.toArray rfl rfl HF.out.1 HF.out.2.1 HF.out.2.2.1 ?_)
      | fail)
    refine bodyPost_ret (v := .agg c.toArray) (res_one Tryz.results110 _ _ rfl HF.out.2.2.2) rfl HE.out

set_option maxHeartbeats 4000000 in
set_option maxRecDepth 100000 in
theorem ngC_any {P T : Nat} {m : Ps → Px Ex} (hY : MethC P T 111 m) {b : Nat} {w : World} (hb : BoxA P b w) : PartC P T 128 #[pt b] w m := by
  refine ⟨enters_of Tryz.func128 (by kernel_rfl) rfl, fun W p z hk h hz => ?_⟩
  have hPl := h.lt
  have hTl := h.ltT
  have hW := h.up (alB W ez)
  have hk0 := KP.al P W ez
  have cb := ((hb.keep hk).keep hk0).2
  have hr0 := heap_alloc_new W ez
  have HC := hY (W.alloc ez) p z hW hz
  rw [World.size_alloc] at HC
  clear hb hk h hY hz
  go_enter Tryz.func128, Tryz.ntmps128
  go_wp2_with fail
  refine HC.mono ?_
  rintro e w1 hpo
  cases z with
  | error x =>
    obtain ⟨rfl, hk1⟩ := bad_panic hpo hk0
    exact ⟨rfl, rfl, hk1⟩
  | ok r =>
    obtain ⟨x, q⟩ := r
    obtain ⟨v, rfl, ⟨c, rfl, hx1⟩, hp1, hk1⟩ := hpo
    have hr1 := (hk1.blk _ (Array.getElem?_eq_some_iff.1 hr0).1 (by omega)).trans hr0
    obtain ⟨t2, i2, o2, l2, j2⟩ := fin5 hr1 rfl hx1
    have HE : Hid (PoA P T (VE W.heap.size) W (.ok (x, q)) (.returned (.agg c.toArray)) (w1.setCells (W.heap.size) 0 c)) := poE_fin (by omega) (by omega) hx1 hp1 (hk0.trans hk1) hPl hTl
    have HF : Hid (w1.there (W.heap.size) 0 c.toArray.size ∧ (Tryz.prog.info? 38).map (·.size) = some c.toArray.size ∧ c.toArray.all (·.oneCell') = true ∧ (loadVar 38 ⟨W.heap.size, 0, none⟩).run Tryz.prog (w1.setCells (W.heap.size) 0 c) = .ok (.agg c.toArray) (w1.setCells (W.heap.size) 0 c)) := ⟨t2, i2, o2, l2⟩
    clear t2 i2 o2 l2 j2 hx1 hp1 hk1 hr1 hk0 hr0 HC hW
    go_wp2_with (first
      | (refine wpList_store_mid rfl 38 (Operand.tmp 1) (Operand.tmp 3) rfl (W.heap.size) 0 c.toArray rfl rfl HF.out.1 HF.out.2.1 HF.out.2.2.1 ?_)
      | fail)
    refine bodyPost_ret (v := .agg c.toArray) (res_one Tryz.results128 _ _ rfl HF.out.2.2.2) rfl HE.out

set_option maxHeartbeats 4000000 in
set_option maxRecDepth 100000 in
theorem cmC_any {P T : Nat} {m : Ps → Px Ex} (hY : MethC P T 139 m) {b : Nat} {w : World} (hb : BoxA P b w) : PartC P T 140 #[pt b] w m := by
  refine ⟨enters_of Tryz.func140 (by kernel_rfl) rfl, fun W p z hk h hz => ?_⟩
  have hPl := h.lt
  have hTl := h.ltT
  have hW := h.up (alB W ez)
  have hk0 := KP.al P W ez
  have cb := ((hb.keep hk).keep hk0).2
  have hr0 := heap_alloc_new W ez
  have HC := hY (W.alloc ez) p z hW hz
  rw [World.size_alloc] at HC
  clear hb hk h hY hz
  go_enter Tryz.func140, Tryz.ntmps140
  go_wp2_with fail
  refine HC.mono ?_
  rintro e w1 hpo
  cases z with
  | error x =>
    obtain ⟨rfl, hk1⟩ := bad_panic hpo hk0
    exact ⟨rfl, rfl, hk1⟩
  | ok r =>
    obtain ⟨x, q⟩ := r
    obtain ⟨v, rfl, ⟨c, rfl, hx1⟩, hp1, hk1⟩ := hpo
    have hr1 := (hk1.blk _ (Array.getElem?_eq_some_iff.1 hr0).1 (by omega)).trans hr0
    obtain ⟨t2, i2, o2, l2, j2⟩ := fin5 hr1 rfl hx1
    have HE : Hid (PoA P T (VE W.heap.size) W (.ok (x, q)) (.returned (.agg c.toArray)) (w1.setCells (W.heap.size) 0 c)) := poE_fin (by omega) (by omega) hx1 hp1 (hk0.trans hk1) hPl hTl
    have HF : Hid (w1.there (W.heap.size) 0 c.toArray.size ∧ (Tryz.prog.info? 38).map (·.size) = some c.toArray.size ∧ c.toArray.all (·.oneCell') = true ∧ (loadVar 38 ⟨W.heap.size, 0, none⟩).run Tryz.prog (w1.setCells (W.heap.size) 0 c) = .ok (.agg c.toArray) (w1.setCells (W.heap.size) 0 c)) := ⟨t2, i2, o2, l2⟩
    clear t2 i2 o2 l2 j2 hx1 hp1 hk1 hr1 hk0 hr0 HC hW
    go_wp2_with (first
      | (refine wpList_store_mid rfl 38 (Operand.tmp 1) (Operand.tmp 3) rfl (W.heap.size) 0 c.toArray rfl rfl HF.out.1 HF.out.2.1 HF.out.2.2.1 ?_)
      | fail)
    refine bodyPost_ret (v := .agg c.toArray) (res_one Tryz.results140 _ _ rfl HF.out.2.2.2) rfl HE.out

set_option maxHeartbeats 4000000 in
set_option maxRecDepth 100000 in
theorem smC_any {P T : Nat} {m : Ps → Px Ex} (hY : MethC P T 151 m) {b : Nat} {w : World} (hb : BoxA P b w) : PartC P T 150 #[pt b] w m := by
  refine ⟨enters_of Tryz.func150 (by kernel_rfl) rfl, fun W p z hk h hz => ?_⟩
  have hPl := h.lt
  have hTl := h.ltT
  have hW := h.up (alB W ez)
  have hk0 := KP.al P W ez
  have cb := ((hb.keep hk).keep hk0).2
  have hr0 := heap_alloc_new W ez
  have HC := hY (W.alloc ez) p z hW hz
  rw [World.size_alloc] at HC
  clear hb hk h hY hz
  go_enter Tryz.func150, Tryz.ntmps150
  go_wp2_with fail
  refine HC.mono ?_
  rintro e w1 hpo
  cases z with
  | error x =>
    obtain ⟨rfl, hk1⟩ := bad_panic hpo hk0
    exact ⟨rfl, rfl, hk1⟩
  | ok r =>
    obtain ⟨x, q⟩ := r
    obtain ⟨v, rfl, ⟨c, rfl, hx1⟩, hp1, hk1⟩ := hpo
    have hr1 := (hk1.blk _ (Array.getElem?_eq_some_iff.1 hr0).1 (by omega)).trans hr0
    obtain ⟨t2, i2, o2, l2, j2⟩ := fin5 hr1 rfl hx1
    have HE : Hid (PoA P T (VE W.heap.size) W (.ok (x, q)) (.returned (.agg c.toArray)) (w1.setCells (W.heap.size) 0 c)) := poE_fin (by omega) (by omega) hx1 hp1 (hk0.trans hk1) hPl hTl
    have HF : Hid (w1.there (W.heap.size) 0 c.toArray.size ∧ (Tryz.prog.info? 38).map (·.size) = some c.toArray.size ∧ c.toArray.all (·.oneCell') = true ∧ (loadVar 38 ⟨W.heap.size, 0, none⟩).run Tryz.prog (w1.setCells (W.heap.size) 0 c) = .ok (.agg c.toArray) (w1.setCells (W.heap.size) 0 c)) := ⟨t2, i2, o2, l2⟩
    clear t2 i2 o2 l2 j2 hx1 hp1 hk1 hr1 hk0 hr0 HC hW
    go_wp2_with (first
      | (refine wpList_store_mid rfl 38 (Operand.tmp 1) (Operand.tmp 3) rfl (W.heap.size) 0 c.toArray rfl rfl HF.out.1 HF.out.2.1 HF.out.2.2.1 ?_)
      | fail)
    refine bodyPost_ret (v := .agg c.toArray) (res_one Tryz.results150 _ _ rfl HF.out.2.2.2) rfl HE.out

set_option maxHeartbeats 4000000 in
set_option maxRecDepth 100000 in
theorem unC_any {P T : Nat} {m : Ps → Px Ex} (hY : MethC P T 151 m) {b : Nat} {w : World} (hb : BoxA P b w) : PartC P T 157 #[pt b] w m := by
  refine ⟨enters_of Tryz.func157 (by kernel_rfl) rfl, fun W p z hk h hz => ?_⟩
  have hPl := h.lt
  have hTl := h.ltT
  have hW := h.up (alB W ez)
  have hk0 := KP.al P W ez
  have cb := ((hb.keep hk).keep hk0).2
  have hr0 := heap_alloc_new W ez
  have HC := hY (W.alloc ez) p z hW hz
  rw [World.size_alloc] at HC
  clear hb hk h hY hz
  go_enter Tryz.func157, Tryz.ntmps157
  go_wp2_with fail
  refine HC.mono ?_
  rintro e w1 hpo
  cases z with
  | error x =>
    obtain ⟨rfl, hk1⟩ := bad_panic hpo hk0
    exact ⟨rfl, rfl, hk1⟩
  | ok r =>
    obtain ⟨x, q⟩ := r
    obtain ⟨v, rfl, ⟨c, rfl, hx1⟩, hp1, hk1⟩ := hpo
    have hr1 := (hk1.blk _ (Array.getElem?_eq_some_iff.1 hr0).1 (by omega)).trans hr0
    obtain ⟨t2, i2, o2, l2, j2⟩ := fin5 hr1 rfl hx1
    have HE : Hid (PoA P T (VE W.heap.size) W (.ok (x, q)) (.returned (.agg c.toArray)) (w1.setCells (W.heap.size) 0 c)) := poE_fin (by omega) (by omega) hx1 hp1 (hk0.trans hk1) hPl hTl
    have HF : Hid (w1.there (W.heap.size) 0 c.toArray.size ∧ (Tryz.prog.info? 38).map (·.size) = some c.toArray.size ∧ c.toArray.all (·.oneCell') = true ∧ (loadVar 38 ⟨W.heap.size, 0, none⟩).run Tryz.prog (w1.setCells (W.heap.size) 0 c) = .ok (.agg c.toArray) (w1.setCells (W.heap.size) 0 c)) := ⟨t2, i2, o2, l2⟩
    clear t2 i2 o2 l2 j2 hx1 hp1 hk1 hr1 hk0 hr0 HC hW
    go_wp2_with (first
      | (refine wpList_store_mid rfl 38 (Operand.tmp 1) (Operand.tmp 3) rfl (W.heap.size) 0 c.toArray rfl rfl HF.out.1 HF.out.2.1 HF.out.2.2.1 ?_)
      | fail)
    refine bodyPost_ret (v := .agg c.toArray) (res_one Tryz.results157 _ _ rfl HF.out.2.2.2) rfl HE.out

set_option maxHeartbeats 4000000 in
set_option maxRecDepth 100000 in
theorem exB_any {P T : Nat} {m : Ps → Px Ex} {b : Nat} {w : World} (hb : BoxA P b w) (hm : ∀ w', BoxA P b w' → PartC P T 110 #[pt b] w' m) : PartC P T 109 #[pt b] w (jn m [[97, 110, 100]]) := by
  refine ⟨enters_of Tryz.func109 (by kernel_rfl) rfl, fun W p z hk h hz => ?_⟩
  have hPl := h.lt
  have hTl := h.ltT
  have s1 : (W.alloc ez).heap.size = W.heap.size + 1 := World.size_alloc _ _
  have hW := (h.up (alB W ez)).up (alB (W.alloc ez) (.cells #[.string ⟨#[97, 110, 100]⟩] 9))
  have s2 : ((W.alloc ez).alloc (.cells #[.string ⟨#[97, 110, 100]⟩] 9)).heap.size = W.heap.size + 1 + 1 := by rw [World.size_alloc, s1]
  have hk0 := (KP.al P W ez).trans (KP.al P (W.alloc ez) (.cells #[.string ⟨#[97, 110, 100]⟩] 9))
  have cb := ((hb.keep hk).keep (KP.al P W ez)).2
  have hr0 : ((W.alloc ez).alloc (.cells #[.string ⟨#[97, 110, 100]⟩] 9)).heap[W.heap.size]? = some ez := (heap_al _ _ _ (by omega)).trans (heap_alloc_new W ez)
  have HC := joined_any hW (hm _ ((hb.keep hk).keep hk0)) (SgA.new P (W.alloc ez) [[97, 110, 100]] (by simp) (by omega)) hz
  rw [s2, s1] at HC
  clear hb hk h hm hz s1 s2
  go_enter Tryz.func109, Tryz.ntmps109
  go_wp2_with fail
  refine HC.mono ?_
  rintro e w1 hpo
  cases z with
  | error x =>
    obtain ⟨rfl, hk1⟩ := bad_panic hpo hk0
    exact ⟨rfl, rfl, hk1⟩
  | ok r =>
    obtain ⟨x, q⟩ := r
    obtain ⟨v, rfl, ⟨c, rfl, hx1⟩, hp1, hk1⟩ := hpo
    have hr1 := (hk1.blk _ (Array.getElem?_eq_some_iff.1 hr0).1 (by omega)).trans hr0
    obtain ⟨t2, i2, o2, l2, j2⟩ := fin5 hr1 rfl hx1
    have HE : Hid (PoA P T (VE W.heap.size) W (.ok (x, q)) (.returned (.agg c.toArray)) (w1.setCells (W.heap.size) 0 c)) := poE_fin (by omega) (by omega) hx1 hp1 (hk0.trans hk1) hPl hTl
    have HF : Hid (w1.there (W.heap.size) 0 c.toArray.size ∧ (Tryz.prog.info? 38).map (·.size) = some c.toArray.size ∧ c.toArray.all (·.oneCell') = true ∧ (loadVar 38 ⟨W.heap.size, 0, none⟩).run Tryz.prog (w1.setCells (W.heap.size) 0 c) = .ok (.agg c.toArray) (w1.setCells (W.heap.size) 0 c)) := ⟨t2, i2, o2, l2⟩
    clear t2 i2 o2 l2 j2 hx1 hp1 hk1 hr1 hk0 hr0 HC hW
    go_wp2_with (first
      | (refine wpList_store_mid rfl 38 (Operand.tmp 1) (Operand.tmp 5) rfl (W.heap.size) 0 c.toArray rfl rfl HF.out.1 HF.out.2.1 HF.out.2.2.1 ?_)
      | fail)
    refine bodyPost_ret (v := .agg c.toArray) (res_one Tryz.results109 _ _ rfl HF.out.2.2.2) rfl HE.out

set_option maxHeartbeats 4000000 in
set_option maxRecDepth 100000 in
theorem exA_any {P T : Nat} {m : Ps → Px Ex} {b : Nat} {w : World} (hb : BoxA P b w) (hm : ∀ w', BoxA P b w' → PartC P T 109 #[pt b] w' m) : PartC P T 107 #[pt b] w (jn m [[111, 114]]) := by
  refine ⟨enters_of Tryz.func107 (by kernel_rfl) rfl, fun W p z hk h hz => ?_⟩
  have hPl := h.lt
  have hTl := h.ltT
  have s1 : (W.alloc ez).heap.size = W.heap.size + 1 := World.size_alloc _ _
  have hW := (h.up (alB W ez)).up (alB (W.alloc ez) (.cells #[.string ⟨#[111, 114]⟩] 9))
  have s2 : ((W.alloc ez).alloc (.cells #[.string ⟨#[111, 114]⟩] 9)).heap.size = W.heap.size + 1 + 1 := by rw [World.size_alloc, s1]
  have hk0 := (KP.al P W ez).trans (KP.al P (W.alloc ez) (.cells #[.string ⟨#[111, 114]⟩] 9))
  have cb := ((hb.keep hk).keep (KP.al P W ez)).2
  have hr0 : ((W.alloc ez).alloc (.cells #[.string ⟨#[111, 114]⟩] 9)).heap[W.heap.size]? = some ez := (heap_al _ _ _ (by omega)).trans (heap_alloc_new W ez)
  have HC := joined_any hW (hm _ ((hb.keep hk).keep hk0)) (SgA.new P (W.alloc ez) [[111, 114]] (by simp) (by omega)) hz
  rw [s2, s1] at HC
  clear hb hk h hm hz s1 s2
  go_enter Tryz.func107, Tryz.ntmps107
  go_wp2_with fail
  refine HC.mono ?_
  rintro e w1 hpo
  cases z with
  | error x =>
    obtain ⟨rfl, hk1⟩ := bad_panic hpo hk0
    exact ⟨rfl, rfl, hk1⟩
  | ok r =>
    obtain ⟨x, q⟩ := r
    obtain ⟨v, rfl, ⟨c, rfl, hx1⟩, hp1, hk1⟩ := hpo
    have hr1 := (hk1.blk _ (Array.getElem?_eq_some_iff.1 hr0).1 (by omega)).trans hr0
    obtain ⟨t2, i2, o2, l2, j2⟩ := fin5 hr1 rfl hx1
    have HE : Hid (PoA P T (VE W.heap.size) W (.ok (x, q)) (.returned (.agg c.toArray)) (w1.setCells (W.heap.size) 0 c)) := poE_fin (by omega) (by omega) hx1 hp1 (hk0.trans hk1) hPl hTl
    have HF : Hid (w1.there (W.heap.size) 0 c.toArray.size ∧ (Tryz.prog.info? 38).map (·.size) = some c.toArray.size ∧ c.toArray.all (·.oneCell') = true ∧ (loadVar 38 ⟨W.heap.size, 0, none⟩).run Tryz.prog (w1.setCells (W.heap.size) 0 c) = .ok (.agg c.toArray) (w1.setCells (W.heap.size) 0 c)) := ⟨t2, i2, o2, l2⟩
    clear t2 i2 o2 l2 j2 hx1 hp1 hk1 hr1 hk0 hr0 HC hW
    go_wp2_with (first
      | (refine wpList_store_mid rfl 38 (Operand.tmp 1) (Operand.tmp 5) rfl (W.heap.size) 0 c.toArray rfl rfl HF.out.1 HF.out.2.1 HF.out.2.2.1 ?_)
      | fail)
    refine bodyPost_ret (v := .agg c.toArray) (res_one Tryz.results107 _ _ rfl HF.out.2.2.2) rfl HE.out

set_option maxHeartbeats 4000000 in
set_option maxRecDepth 100000 in
theorem smB_any {P T : Nat} {m : Ps → Px Ex} {b : Nat} {w : World} (hb : BoxA P b w) (hm : ∀ w', BoxA P b w' → PartC P T 150 #[pt b] w' m) : PartC P T 149 #[pt b] w (jn m [[42], [47, 47], [37]]) := by
  refine ⟨enters_of Tryz.func149 (by kernel_rfl) rfl, fun W p z hk h hz => ?_⟩
  have hPl := h.lt
  have hTl := h.ltT
  have s1 : (W.alloc ez).heap.size = W.heap.size + 1 := World.size_alloc _ _
  have hW := (h.up (alB W ez)).up (alB (W.alloc ez) (.cells #[.string ⟨#[42]⟩, .string ⟨#[47, 47]⟩, .string ⟨#[37]⟩] 9))
  have s2 : ((W.alloc ez).alloc (.cells #[.string ⟨#[42]⟩, .string ⟨#[47, 47]⟩, .string ⟨#[37]⟩] 9)).heap.size = W.heap.size + 1 + 1 := by rw [World.size_alloc, s1]
  have hk0 := (KP.al P W ez).trans (KP.al P (W.alloc ez) (.cells #[.string ⟨#[42]⟩, .string ⟨#[47, 47]⟩, .string ⟨#[37]⟩] 9))
  have cb := ((hb.keep hk).keep (KP.al P W ez)).2
  have hr0 : ((W.alloc ez).alloc (.cells #[.string ⟨#[42]⟩, .string ⟨#[47, 47]⟩, .string ⟨#[37]⟩] 9)).heap[W.heap.size]? = some ez := (heap_al _ _ _ (by omega)).trans (heap_alloc_new W ez)
  have HC := joined_any hW (hm _ ((hb.keep hk).keep hk0)) (SgA.new P (W.alloc ez) [[42], [47, 47], [37]] (by simp) (by omega)) hz
  rw [s2, s1] at HC
  clear hb hk h hm hz s1 s2
  go_enter Tryz.func149, Tryz.ntmps149
  go_wp2_with fail
  refine HC.mono ?_
  rintro e w1 hpo
  cases z with
  | error x =>
    obtain ⟨rfl, hk1⟩ := bad_panic hpo hk0
    exact ⟨rfl, rfl, hk1⟩
  | ok r =>
    obtain ⟨x, q⟩ := r
    obtain ⟨v, rfl, ⟨c, rfl, hx1⟩, hp1, hk1⟩ := hpo
    have hr1 := (hk1.blk _ (Array.getElem?_eq_some_iff.1 hr0).1 (by omega)).trans hr0
    obtain ⟨t2, i2, o2, l2, j2⟩ := fin5 hr1 rfl hx1
    have HE : Hid (PoA P T (VE W.heap.size) W (.ok (x, q)) (.returned (.agg c.toArray)) (w1.setCells (W.heap.size) 0 c)) := poE_fin (by omega) (by omega) hx1 hp1 (hk0.trans hk1) hPl hTl
    have HF : Hid (w1.there (W.heap.size) 0 c.toArray.size ∧ (Tryz.prog.info? 38).map (·.size) = some c.toArray.size ∧ c.toArray.all (·.oneCell') = true ∧ (loadVar 38 ⟨W.heap.size, 0, none⟩).run Tryz.prog (w1.setCells (W.heap.size) 0 c) = .ok (.agg c.toArray) (w1.setCells (W.heap.size) 0 c)) := ⟨t2, i2, o2, l2⟩
    clear t2 i2 o2 l2 j2 hx1 hp1 hk1 hr1 hk0 hr0 HC hW
    go_wp2_with (first
      | (refine wpList_store_mid rfl 38 (Operand.tmp 1) (Operand.tmp 5) rfl (W.heap.size) 0 c.toArray rfl rfl HF.out.1 HF.out.2.1 HF.out.2.2.1 ?_)
      | fail)
    refine bodyPost_ret (v := .agg c.toArray) (res_one Tryz.results149 _ _ rfl HF.out.2.2.2) rfl HE.out

set_option maxHeartbeats 4000000 in
set_option maxRecDepth 100000 in
theorem sum_any {P T : Nat} {m : Ps → Px Ex} (hm : ∀ b w', BoxA P b w' → PartC P T 149 #[pt b] w' m) : MethC P T 139 (jn m [[43], [45]]) := by
  intro W p z h hz
  have hPl := h.lt
  have hTl := h.ltT
  have s0 : (W.alloc (.cells #[pt P] 73)).heap.size = W.heap.size + 1 := World.size_alloc _ _
  have s1 : ((W.alloc (.cells #[pt P] 73)).alloc ez).heap.size = W.heap.size + 1 + 1 := by rw [World.size_alloc, s0]
  have hW := ((h.up (alB W (.cells #[pt P] 73))).up (alB _ ez)).up (alB ((W.alloc (.cells #[pt P] 73)).alloc ez) (.cells #[.string ⟨#[43]⟩, .string ⟨#[45]⟩] 9))
  have hk0 := ((KP.al P W (.cells #[pt P] 73)).trans (KP.al P _ ez)).trans (KP.al P ((W.alloc (.cells #[pt P] 73)).alloc ez) (.cells #[.string ⟨#[43]⟩, .string ⟨#[45]⟩] 9))
  have s2 : (((W.alloc (.cells #[pt P] 73)).alloc ez).alloc (.cells #[.string ⟨#[43]⟩, .string ⟨#[45]⟩] 9)).heap.size = W.heap.size + 1 + 1 + 1 := by rw [World.size_alloc, s1]
  have hb := (BoxA.new hPl).keep ((KP.al P _ ez).trans (KP.al P ((W.alloc (.cells #[pt P] 73)).alloc ez) (.cells #[.string ⟨#[43]⟩, .string ⟨#[45]⟩] 9)))
  have hr0 : (((W.alloc (.cells #[pt P] 73)).alloc ez).alloc (.cells #[.string ⟨#[43]⟩, .string ⟨#[45]⟩] 9)).heap[W.heap.size + 1]? = some ez := by
    have := heap_alloc_new (W.alloc (.cells #[pt P] 73)) ez
    rw [s0] at this
    exact (heap_al _ _ _ (by omega)).trans this
  have HC := joined_any hW (hm _ _ hb) (SgA.new P ((W.alloc (.cells #[pt P] 73)).alloc ez) [[43], [45]] (by simp) (by omega)) hz
  rw [s2, s1] at HC
  clear hb h hm hz s1 s0 s2
  go_enter Tryz.func139, Tryz.ntmps139
  go_wp2_with fail
  refine HC.mono ?_
  rintro e w1 hpo
  cases z with
  | error x =>
    obtain ⟨rfl, hk1⟩ := bad_panic hpo hk0
    exact ⟨rfl, rfl, hk1⟩
  | ok r =>
    obtain ⟨x, q⟩ := r
    obtain ⟨v, rfl, ⟨c, rfl, hx1⟩, hp1, hk1⟩ := hpo
    have hr1 := (hk1.blk _ (Array.getElem?_eq_some_iff.1 hr0).1 (by omega)).trans hr0
    obtain ⟨t2, i2, o2, l2, j2⟩ := fin5 hr1 rfl hx1
    have HE : Hid (PoA P T (VE W.heap.size) W (.ok (x, q)) (.returned (.agg c.toArray)) (w1.setCells (W.heap.size + 1) 0 c)) := poE_fin (by omega) (by omega) hx1 hp1 (hk0.trans hk1) hPl hTl
    have HF : Hid (w1.there (W.heap.size + 1) 0 c.toArray.size ∧ (Tryz.prog.info? 38).map (·.size) = some c.toArray.size ∧ c.toArray.all (·.oneCell') = true ∧ (loadVar 38 ⟨W.heap.size + 1, 0, none⟩).run Tryz.prog (w1.setCells (W.heap.size + 1) 0 c) = .ok (.agg c.toArray) (w1.setCells (W.heap.size + 1) 0 c)) := ⟨t2, i2, o2, l2⟩
    clear t2 i2 o2 l2 j2 hx1 hp1 hk1 hr1 hk0 hr0 HC hW
    go_wp2_with (first
      | (refine wpList_store_mid rfl 38 (Operand.tmp 2) (Operand.tmp 6) rfl (W.heap.size + 1) 0 c.toArray rfl rfl HF.out.1 HF.out.2.1 HF.out.2.2.1 ?_)
      | fail)
    refine bodyPost_ret (v := .agg c.toArray) (res_one Tryz.results139 _ _ rfl HF.out.2.2.2) rfl HE.out
end Go.Proofs.YtcaeeackccgclaaGreatDoor

/- expression, negation, unary, comparison. -/
namespace Go.Proofs.YtcaeeackccgclaaGreatDoor
open Go.RowKit Go.Shelf
attribute [local go_sem ↓] fld0 fld1 fld2 fld3
attribute [local go_sem] mk_func

/-- Where a method begins that boxes the parser's address: the box, and room for what is handed back. -/
def bgW (P : Nat) (w : World) : World := (w.alloc (.cells #[pt P] 73)).alloc ez
theorem bg_facts {P T : Nat} {w : World} {p : Ps} (h : PsA P T w p) : PsA P T (bgW P w) p ∧ KP P w (bgW P w) ∧ BoxA P w.heap.size (bgW P w) ∧ (bgW P w).heap[w.heap.size + 1]? = some ez ∧ (bgW P w).heap.size = w.heap.size + 1 + 1 := by
  have hPl := h.lt
  have s0 : (w.alloc (.cells #[pt P] 73)).heap.size = w.heap.size + 1 := World.size_alloc _ _
  refine ⟨(h.up (alB w (.cells #[pt P] 73))).up (alB _ ez), (KP.al P w (.cells #[pt P] 73)).trans (KP.al P _ ez), (BoxA.new hPl).keep (KP.al P _ ez), ?_, by unfold bgW; rw [World.size_alloc, s0]⟩
  have := heap_alloc_new (w.alloc (.cells #[pt P] 73)) ez
  rwa [s0] at this
theorem KP.heapEq {P : Nat} {a b : World} (h : KP P a b) {g : Nat} {o : Obj} (hg : a.heap[g]? = some o) (hp : g ≠ P) : b.heap[g]? = some o := (h.blk g (Array.getElem?_eq_some_iff.1 hg).1 hp).trans hg

set_option maxHeartbeats 4000000 in
set_option maxRecDepth 100000 in
theorem expression_any {P T : Nat} {m : Ps → Px Ex} (hm : ∀ b w', BoxA P b w' → PartC P T 107 #[pt b] w' m) : MethC P T 70 (fun p => bnd (rfD [[110, 111, 116], [45]] p) fun _ q => inner m q) := by
  intro W p z h hz
  have hPl := h.lt
  have hTl := h.ltT
  obtain ⟨h0, hk0, hb0, hr0, s0⟩ := bg_facts h
  have cb : (bgW P W).cell? ⟨W.heap.size, 0, none⟩ = some (pt P) := hb0.2
  have hk1 := hk0.trans (KP.al P (bgW P W) (.cells #[.string ⟨#[110, 111, 116]⟩, .string ⟨#[45]⟩] 9))
  have hb1 := hb0.keep (KP.al P (bgW P W) (.cells #[.string ⟨#[110, 111, 116]⟩, .string ⟨#[45]⟩] 9))
  have HR : Hid (∀ z', rfD [[110, 111, 116], [45]] p = some z' → Calls Tryz.prog 105 #[pt P, .slice (some ⟨W.heap.size + 1 + 1, 0, none⟩) 2 2] ((bgW P W).alloc (.cells #[.string ⟨#[110, 111, 116]⟩, .string ⟨#[45]⟩] 9)) (PoA P T (fun _ _ v => v = .tuple #[]) ((bgW P W).alloc (.cells #[.string ⟨#[110, 111, 116]⟩, .string ⟨#[45]⟩] 9)) z')) := fun z' hz' => by
    have := refuseDeep_any (h0.up (alB _ (.cells #[.string ⟨#[110, 111, 116]⟩, .string ⟨#[45]⟩] 9))) (SgA.new P (bgW P W) [[110, 111, 116], [45]] (by simp) (by omega)) hz'
    rwa [s0] at this
  have HQ : Hid (KP P W ((bgW P W).alloc (.cells #[.string ⟨#[110, 111, 116]⟩, .string ⟨#[45]⟩] 9)) ∧ BoxA P W.heap.size ((bgW P W).alloc (.cells #[.string ⟨#[110, 111, 116]⟩, .string ⟨#[45]⟩] 9)) ∧ ((bgW P W).alloc (.cells #[.string ⟨#[110, 111, 116]⟩, .string ⟨#[45]⟩] 9)).heap[W.heap.size + 1]? = some ez) := ⟨hk1, hb1, (heap_al _ _ _ (by omega)).trans hr0⟩
  have HM : Hid (∀ b w', BoxA P b w' → PartC P T 107 #[pt b] w' m) := hm
  clear hm h h0 hk0 hb0 hr0 s0 hk1 hb1
  unfold bgW at *
  rcases bnd_some hz with ⟨x, hx, rfl⟩ | ⟨_, q, hx, hq⟩
  · have HC1 := HR.out _ hx
    clear HR
    go_enter Tryz.func70, Tryz.ntmps70
    go_wp2_with fail
    refine HC1.mono ?_
    rintro e w1 hpo
    obtain ⟨rfl, hk⟩ := bad_panic hpo HQ.out.1
    exact ⟨rfl, rfl, hk⟩
  · have HC1 := HR.out _ hx
    clear HR
    go_enter Tryz.func70, Tryz.ntmps70
    go_wp2_with fail
    refine HC1.mono ?_
    rintro e w1 ⟨v, rfl, rfl, hp1, hk1⟩
    have hkw := HQ.out.1.trans hk1
    have hb2 := HQ.out.2.1.keep hk1
    have cb2 := hb2.2
    have hr1 := hk1.heapEq HQ.out.2.2 (by omega)
    have hs1 : W.heap.size + 1 < w1.heap.size := (Array.getElem?_eq_some_iff.1 hr1).1
    have HD := deeper_any hp1 (HM.out _ _ hb2) hq
    clear hz hx hq HC1 HQ HM hp1 hk1 hb2
    go_wp2_with fail
    refine HD.mono ?_
    rintro e w2 hpo
    cases z with
    | error x =>
      obtain ⟨rfl, hk⟩ := bad_panic hpo hkw
      exact ⟨rfl, rfl, hk⟩
    | ok r =>
      obtain ⟨x, q⟩ := r
      obtain ⟨v, rfl, ⟨c, rfl, hx1⟩, hp1, hk1⟩ := hpo
      have hr2 := hk1.heapEq hr1 (by omega)
      obtain ⟨t2, i2, o2, l2, j2⟩ := fin5 hr2 rfl hx1
      have HE : Hid (PoA P T (VE W.heap.size) W (.ok (x, q)) (.returned (.agg c.toArray)) (w2.setCells (W.heap.size + 1) 0 c)) := poE_fin (by omega) (by omega) hx1 hp1 (hkw.trans hk1) hPl hTl
      have HF : Hid (w2.there (W.heap.size + 1) 0 c.toArray.size ∧ (Tryz.prog.info? 38).map (·.size) = some c.toArray.size ∧ c.toArray.all (·.oneCell') = true ∧ (loadVar 38 ⟨W.heap.size + 1, 0, none⟩).run Tryz.prog (w2.setCells (W.heap.size + 1) 0 c) = .ok (.agg c.toArray) (w2.setCells (W.heap.size + 1) 0 c)) := ⟨t2, i2, o2, l2⟩
      clear t2 i2 o2 l2 j2 hx1 hp1 hk1 hr1 hr2 hkw HD
      go_wp2_with (first
        | (refine wpList_store_mid rfl 38 (Operand.tmp 2) (Operand.tmp 8) rfl (W.heap.size + 1) 0 c.toArray rfl rfl HF.out.1 HF.out.2.1 HF.out.2.2.1 ?_)
        | fail)
      refine bodyPost_ret (v := .agg c.toArray) (res_one Tryz.results70 _ _ rfl HF.out.2.2.2) rfl HE.out

set_option maxHeartbeats 8000000 in
set_option maxRecDepth 100000 in
theorem negation_step {P T : Nat} {E : Ps → Px Ex} (hY : MethC P T 127 (cmp E)) {f : Nat} (ih : MethC P T 111 (ngL E f)) : MethC P T 111 (ngL E (f + 1)) := by
  intro W p z h hz
  have hPl := h.lt
  have hTl := h.ltT
  obtain ⟨h0, hk0, hb0, hr0, s0⟩ := bg_facts h
  have cb : (bgW P W).cell? ⟨W.heap.size, 0, none⟩ = some (pt P) := hb0.2
  have HS := passSign_any h0 [110, 111, 116]
  have HQ : Hid (KP P W (bgW P W) ∧ BoxA P W.heap.size (bgW P W) ∧ (bgW P W).heap[W.heap.size + 1]? = some ez) := ⟨hk0, hb0, hr0⟩
  have HY : Hid (MethC P T 127 (cmp E)) := hY
  have HI : Hid (MethC P T 111 (ngL E f)) := ih
  unfold ngL at hz
  clear h hk0 hb0 hr0 s0 h0 hY ih
  unfold bgW at *
  cases hb : p.sees [[110, 111, 116]] with
  | false =>
    rw [hb] at hz HS
    replace hz : cmp E p = some z := hz
    go_enter Tryz.func111, Tryz.ntmps111
    go_wp2_with fail
    refine HS.mono ?_
    rintro e w1 ⟨rfl, hk1, hp1⟩
    have hkw := HQ.out.1.trans hk1
    have hb2 := HQ.out.2.1.keep hk1
    have cb2 := hb2.2
    have hr1 := hk1.heapEq HQ.out.2.2 (by omega)
    have hs1 : W.heap.size + 1 < w1.heap.size := (Array.getElem?_eq_some_iff.1 hr1).1
    have HD := HY.out w1 p z hp1 hz
    clear hz HQ hp1 hk1 hb2 HS HY HI
    go_wp2_with fail
    refine HD.mono ?_
    rintro e w2 hpo
    cases z with
    | error x =>
      obtain ⟨rfl, hk⟩ := bad_panic hpo hkw
      exact ⟨rfl, rfl, hk⟩
    | ok r =>
      obtain ⟨x, q⟩ := r
      obtain ⟨v, rfl, ⟨c, rfl, hx1⟩, hp1, hk1⟩ := hpo
      have hr2 := hk1.heapEq hr1 (by omega)
      obtain ⟨t2, i2, o2, l2, j2⟩ := fin5 hr2 rfl hx1
      have HE : Hid (PoA P T (VE W.heap.size) W (.ok (x, q)) (.returned (.agg c.toArray)) (w2.setCells (W.heap.size + 1) 0 c)) := poE_fin (by omega) (by omega) hx1 hp1 (hkw.trans hk1) hPl hTl
      have HF : Hid (w2.there (W.heap.size + 1) 0 c.toArray.size ∧ (Tryz.prog.info? 38).map (·.size) = some c.toArray.size ∧ c.toArray.all (·.oneCell') = true ∧ (loadVar 38 ⟨W.heap.size + 1, 0, none⟩).run Tryz.prog (w2.setCells (W.heap.size + 1) 0 c) = .ok (.agg c.toArray) (w2.setCells (W.heap.size + 1) 0 c)) := ⟨t2, i2, o2, l2⟩
      clear t2 i2 o2 l2 j2 hx1 hp1 hk1 hr1 hr2 hkw HD
      go_wp2_with (first
        | (refine wpList_store_mid rfl 38 (Operand.tmp 2) (Operand.tmp 8) rfl (W.heap.size + 1) 0 c.toArray rfl rfl HF.out.1 HF.out.2.1 HF.out.2.2.1 ?_)
        | fail)
      refine bodyPost_ret (v := .agg c.toArray) (res_one Tryz.results111 _ _ rfl HF.out.2.2.2) rfl HE.out
  | true =>
    rw [hb] at hz HS
    replace hz : (bnd (rfD [[110, 111, 116], [45]] p.adv) fun _ q => bnd (inner (ngL E f) q) fun k q => ok ⟨12, 0, [], [k], []⟩ q) = some z := hz
    go_enter Tryz.func111, Tryz.ntmps111
    go_wp2_with fail
    refine HS.mono ?_
    rintro e w1 ⟨rfl, hk1, hp1⟩
    replace hp1 : PsA P T w1 p.adv := hp1
    have hkw := (HQ.out.1.trans hk1).trans (KP.al P w1 (.cells #[.string ⟨#[110, 111, 116]⟩, .string ⟨#[45]⟩] 9))
    have hb2 := (HQ.out.2.1.keep hk1).keep (KP.al P w1 (.cells #[.string ⟨#[110, 111, 116]⟩, .string ⟨#[45]⟩] 9))
    have cb2 := (HQ.out.2.1.keep hk1).2
    have hr1 := (KP.al P w1 (.cells #[.string ⟨#[110, 111, 116]⟩, .string ⟨#[45]⟩] 9)).heapEq (hk1.heapEq HQ.out.2.2 (by omega)) (by omega)
    have HR : Hid (∀ z', rfD [[110, 111, 116], [45]] p.adv = some z' → Calls Tryz.prog 105 #[pt P, .slice (some ⟨w1.heap.size, 0, none⟩) 2 2] (w1.alloc (.cells #[.string ⟨#[110, 111, 116]⟩, .string ⟨#[45]⟩] 9)) (PoA P T (fun _ _ v => v = .tuple #[]) (w1.alloc (.cells #[.string ⟨#[110, 111, 116]⟩, .string ⟨#[45]⟩] 9)) z')) := fun z' hz' => refuseDeep_any (hp1.up (alB _ (.cells #[.string ⟨#[110, 111, 116]⟩, .string ⟨#[45]⟩] 9))) (SgA.new P w1 [[110, 111, 116], [45]] (by simp) hp1.lt) hz'
    clear HQ HS HY hk1 hp1
    rcases bnd_some hz with ⟨x, hx, rfl⟩ | ⟨_, q, hx, hq⟩
    · have HC1 := HR.out _ hx
      clear HR
      go_wp2_with fail
      refine HC1.mono ?_
      rintro e w2 hpo
      obtain ⟨rfl, hk⟩ := bad_panic hpo hkw
      exact ⟨rfl, rfl, hk⟩
    · have HC1 := HR.out _ hx
      clear HR
      go_wp2_with fail
      refine HC1.mono ?_
      rintro e w2 ⟨v, rfl, rfl, hp2, hk2⟩
      have hkw2 := hkw.trans hk2
      have hb3 := hb2.keep hk2
      have cb3 := hb3.2
      have hr2 := hk2.heapEq hr1 (by omega)
      have hs2 : W.heap.size + 1 < w2.heap.size := (Array.getElem?_eq_some_iff.1 hr2).1
      have hPC := ngC_any HI.out hb3
      clear hkw hb2 hr1 hk2 HC1 HI hz hx cb2
      rcases bnd_some hq with ⟨x, hx, rfl⟩ | ⟨y, q2, hx, hq2⟩
      · have HD := deeper_any hp2 hPC hx
        clear hPC hp2 hb3 hq hx
        go_wp2_with fail
        refine HD.mono ?_
        rintro e w3 hpo
        obtain ⟨rfl, hk⟩ := bad_panic hpo hkw2
        exact ⟨rfl, rfl, hk⟩
      · have HD := deeper_any hp2 hPC hx
        cases hq2
        clear hPC hp2 hb3 hq hx
        go_wp2_with fail
        refine HD.mono ?_
        rintro e w3 ⟨v, rfl, ⟨c, rfl, hx3⟩, hp3, hk3⟩
        obtain ⟨b1, d1, b2, d2, hc3⟩ := hx3.form
        subst hc3
        have hr3 := hk3.heapEq hr2 (by omega)
        have hs3 : W.heap.size + 1 < w3.heap.size := (Array.getElem?_eq_some_iff.1 hr3).1
        have s4 : (w3.alloc (.cells #[.int .i64 y.kind, .int .i64 y.num, .string (mkB y.text), .slice b1 y.kids.length d1, .slice b2 y.names.length d2] 38)).heap.size = w3.heap.size + 1 := World.size_alloc _ _
        have hr5 : ((w3.alloc (.cells #[.int .i64 y.kind, .int .i64 y.num, .string (mkB y.text), .slice b1 y.kids.length d1, .slice b2 y.names.length d2] 38)).alloc (.cells #[.int .i64 y.kind, .int .i64 y.num, .string (mkB y.text), .slice b1 y.kids.length d1, .slice b2 y.names.length d2] 38)).heap[W.heap.size + 1]? = some ez := (heap_al _ _ _ (by omega)).trans ((heap_al _ _ _ hs3).trans hr3)
        obtain ⟨y0, y1, y2, y3, y4, f0, f1, f2, f3, f4⟩ := cells5 hr5
        have gF : ∀ g, g ≠ W.heap.size + 1 → g < w3.heap.size → (((w3.alloc (.cells #[.int .i64 y.kind, .int .i64 y.num, .string (mkB y.text), .slice b1 y.kids.length d1, .slice b2 y.names.length d2] 38)).alloc (.cells #[.int .i64 y.kind, .int .i64 y.num, .string (mkB y.text), .slice b1 y.kids.length d1, .slice b2 y.names.length d2] 38)).setCells (W.heap.size + 1) 0 [.int .i64 12, .int .i64 0, .string ⟨#[]⟩, .slice (some ⟨w3.heap.size + 1, 0, none⟩) 1 1, .slice none 0 0]).heap[g]? = w3.heap[g]? := fun g hg hg2 => (heap_sets _ [.int .i64 12, .int .i64 0, .string ⟨#[]⟩, .slice (some ⟨w3.heap.size + 1, 0, none⟩) 1 1, .slice none 0 0] 0 _ g hg).trans ((heap_al _ _ _ (by omega)).trans (heap_al w3 _ g hg2))
        have gT : (((w3.alloc (.cells #[.int .i64 y.kind, .int .i64 y.num, .string (mkB y.text), .slice b1 y.kids.length d1, .slice b2 y.names.length d2] 38)).alloc (.cells #[.int .i64 y.kind, .int .i64 y.num, .string (mkB y.text), .slice b1 y.kids.length d1, .slice b2 y.names.length d2] 38)).setCells (W.heap.size + 1) 0 [.int .i64 12, .int .i64 0, .string ⟨#[]⟩, .slice (some ⟨w3.heap.size + 1, 0, none⟩) 1 1, .slice none 0 0]).heap[w3.heap.size + 1]? = some (.cells #[.int .i64 y.kind, .int .i64 y.num, .string (mkB y.text), .slice b1 y.kids.length d1, .slice b2 y.names.length d2] 38) := (heap_sets _ [.int .i64 12, .int .i64 0, .string ⟨#[]⟩, .slice (some ⟨w3.heap.size + 1, 0, none⟩) 1 1, .slice none 0 0] 0 _ _ (by omega)).trans (by have := heap_alloc_new (w3.alloc (.cells #[.int .i64 y.kind, .int .i64 y.num, .string (mkB y.text), .slice b1 y.kids.length d1, .slice b2 y.names.length d2] 38)) (.cells #[.int .i64 y.kind, .int .i64 y.num, .string (mkB y.text), .slice b1 y.kids.length d1, .slice b2 y.names.length d2] 38); rwa [s4] at this)
        have hl0 := (stN hr5 (c := [.int .i64 12, .int .i64 0, .string ⟨#[]⟩, .slice (some ⟨w3.heap.size + 1, 0, none⟩) 1 1, .slice none 0 0]) rfl szE (by simp [Value.oneCell']) Tryz.underlying38 rfl).2
        rw [sets5] at hl0
        have HL : Hid _ := hl0
        have hyF : ExA (((w3.alloc (.cells #[.int .i64 y.kind, .int .i64 y.num, .string (mkB y.text), .slice b1 y.kids.length d1, .slice b2 y.names.length d2] 38)).alloc (.cells #[.int .i64 y.kind, .int .i64 y.num, .string (mkB y.text), .slice b1 y.kids.length d1, .slice b2 y.names.length d2] 38)).setCells (W.heap.size + 1) 0 [.int .i64 12, .int .i64 0, .string ⟨#[]⟩, .slice (some ⟨w3.heap.size + 1, 0, none⟩) 1 1, .slice none 0 0]) (fun g => W.heap.size ≤ g) y [.int .i64 y.kind, .int .i64 y.num, .string (mkB y.text), .slice b1 y.kids.length d1, .slice b2 y.names.length d2] := hx3.keep (fun g hg hg2 => gF g (by omega) hg2) (fun g hg _ => by omega)
        have hKF : KP P W (((w3.alloc (.cells #[.int .i64 y.kind, .int .i64 y.num, .string (mkB y.text), .slice b1 y.kids.length d1, .slice b2 y.names.length d2] 38)).alloc (.cells #[.int .i64 y.kind, .int .i64 y.num, .string (mkB y.text), .slice b1 y.kids.length d1, .slice b2 y.names.length d2] 38)).setCells (W.heap.size + 1) 0 [.int .i64 12, .int .i64 0, .string ⟨#[]⟩, .slice (some ⟨w3.heap.size + 1, 0, none⟩) 1 1, .slice none 0 0]) := (((hkw2.trans hk3).trans (KP.al P w3 _)).trans (KP.al P _ _)).sets (Nat.le_succ _) _
        have hPF : PsA P T (((w3.alloc (.cells #[.int .i64 y.kind, .int .i64 y.num, .string (mkB y.text), .slice b1 y.kids.length d1, .slice b2 y.names.length d2] 38)).alloc (.cells #[.int .i64 y.kind, .int .i64 y.num, .string (mkB y.text), .slice b1 y.kids.length d1, .slice b2 y.names.length d2] 38)).setCells (W.heap.size + 1) 0 [.int .i64 12, .int .i64 0, .string ⟨#[]⟩, .slice (some ⟨w3.heap.size + 1, 0, none⟩) 1 1, .slice none 0 0]) q2 := hp3.keep (gF P (by omega) (by omega)) (gF T (by omega) (by omega))
        have he0 : PoA P T (VE W.heap.size) W (.ok ((⟨12, 0, [], [y], []⟩ : Ex), q2)) (.returned (.agg ([.int .i64 12, .int .i64 0, .string ⟨#[]⟩, .slice (some ⟨w3.heap.size + 1, 0, none⟩) 1 1, .slice none 0 0]).toArray)) (((w3.alloc (.cells #[.int .i64 y.kind, .int .i64 y.num, .string (mkB y.text), .slice b1 y.kids.length d1, .slice b2 y.names.length d2] 38)).alloc (.cells #[.int .i64 y.kind, .int .i64 y.num, .string (mkB y.text), .slice b1 y.kids.length d1, .slice b2 y.names.length d2] 38)).setCells (W.heap.size + 1) 0 [.int .i64 12, .int .i64 0, .string ⟨#[]⟩, .slice (some ⟨w3.heap.size + 1, 0, none⟩) 1 1, .slice none 0 0]) := ⟨_, rfl, ⟨_, rfl, ExA.make (x := ⟨12, 0, [], [y], []⟩) (vs := [[.int .i64 y.kind, .int .i64 y.num, .string (mkB y.text), .slice b1 y.kids.length d1, .slice b2 y.names.length d2]]) ⟨rfl, .inr ⟨w3.heap.size + 1, 1, _, rfl, Nat.zero_le _, gT, Nat.le_refl _, by decide, rfl, rfl⟩⟩ (World.ownsRow_nil _ _ _ _) (fun g hg => ob_le hg (by omega)) (fun g hg => by cases hg) ⟨hyF, trivial⟩⟩, hPF, hKF⟩
        rw [sets5] at he0
        have HE : Hid _ := he0
        clear hl0 he0 hx3 hp3 hk3 hr3 hs3 hr5 gF gT hyF hKF hPF hr2 hkw2 HD
        go_wp2
        refine bodyPost_ret (v := Value.agg #[Value.int IntKind.i64 12, Value.int IntKind.i64 0, Value.string ⟨#[]⟩, Value.slice (some ⟨w3.heap.size + 1, 0, none⟩) 1 1, Value.slice none 0 0]) (res_one Tryz.results111 _ _ rfl HL.out) rfl HE.out
theorem negation_any {P T : Nat} {E : Ps → Px Ex} (hY : MethC P T 127 (cmp E)) : ∀ f, MethC P T 111 (ngL E f)
  | 0 => fun W p z _ hz => by cases hz
  | f + 1 => negation_step hY (negation_any hY f)

set_option maxHeartbeats 8000000 in
set_option maxRecDepth 100000 in
theorem unary_step {P T : Nat} {E : Ps → Px Ex} (hY : MethC P T 156 (pst E)) {f : Nat} (ih : MethC P T 151 (unL E f)) : MethC P T 151 (unL E (f + 1)) := by
  intro W p z h hz
  have hPl := h.lt
  have hTl := h.ltT
  obtain ⟨h0, hk0, hb0, hr0, s0⟩ := bg_facts h
  have cb : (bgW P W).cell? ⟨W.heap.size, 0, none⟩ = some (pt P) := hb0.2
  have HS := passSign_any h0 [45]
  have HQ : Hid (KP P W (bgW P W) ∧ BoxA P W.heap.size (bgW P W) ∧ (bgW P W).heap[W.heap.size + 1]? = some ez) := ⟨hk0, hb0, hr0⟩
  have HY : Hid (MethC P T 156 (pst E)) := hY
  have HI : Hid (MethC P T 151 (unL E f)) := ih
  unfold unL at hz
  clear h hk0 hb0 hr0 s0 h0 hY ih
  unfold bgW at *
  cases hb : p.sees [[45]] with
  | false =>
    rw [hb] at hz HS
    replace hz : pst E p = some z := hz
    go_enter Tryz.func151, Tryz.ntmps151
    go_wp2_with fail
    refine HS.mono ?_
    rintro e w1 ⟨rfl, hk1, hp1⟩
    have hkw := HQ.out.1.trans hk1
    have hb2 := HQ.out.2.1.keep hk1
    have cb2 := hb2.2
    have hr1 := hk1.heapEq HQ.out.2.2 (by omega)
    have hs1 : W.heap.size + 1 < w1.heap.size := (Array.getElem?_eq_some_iff.1 hr1).1
    have HD := HY.out w1 p z hp1 hz
    clear hz HQ hp1 hk1 hb2 HS HY HI
    go_wp2_with fail
    refine HD.mono ?_
    rintro e w2 hpo
    cases z with
    | error x =>
      obtain ⟨rfl, hk⟩ := bad_panic hpo hkw
      exact ⟨rfl, rfl, hk⟩
    | ok r =>
      obtain ⟨x, q⟩ := r
      obtain ⟨v, rfl, ⟨c, rfl, hx1⟩, hp1, hk1⟩ := hpo
      have hr2 := hk1.heapEq hr1 (by omega)
      obtain ⟨t2, i2, o2, l2, j2⟩ := fin5 hr2 rfl hx1
      have HE : Hid (PoA P T (VE W.heap.size) W (.ok (x, q)) (.returned (.agg c.toArray)) (w2.setCells (W.heap.size + 1) 0 c)) := poE_fin (by omega) (by omega) hx1 hp1 (hkw.trans hk1) hPl hTl
      have HF : Hid (w2.there (W.heap.size + 1) 0 c.toArray.size ∧ (Tryz.prog.info? 38).map (·.size) = some c.toArray.size ∧ c.toArray.all (·.oneCell') = true ∧ (loadVar 38 ⟨W.heap.size + 1, 0, none⟩).run Tryz.prog (w2.setCells (W.heap.size + 1) 0 c) = .ok (.agg c.toArray) (w2.setCells (W.heap.size + 1) 0 c)) := ⟨t2, i2, o2, l2⟩
      clear t2 i2 o2 l2 j2 hx1 hp1 hk1 hr1 hr2 hkw HD
      go_wp2_with (first
        | (refine wpList_store_mid rfl 38 (Operand.tmp 2) (Operand.tmp 8) rfl (W.heap.size + 1) 0 c.toArray rfl rfl HF.out.1 HF.out.2.1 HF.out.2.2.1 ?_)
        | fail)
      refine bodyPost_ret (v := .agg c.toArray) (res_one Tryz.results151 _ _ rfl HF.out.2.2.2) rfl HE.out
  | true =>
    rw [hb] at hz HS
    replace hz : (bnd (rfD [[45]] p.adv) fun _ q => bnd (inner (unL E f) q) fun k q => ok ⟨13, 0, [], [k], []⟩ q) = some z := hz
    go_enter Tryz.func151, Tryz.ntmps151
    go_wp2_with fail
    refine HS.mono ?_
    rintro e w1 ⟨rfl, hk1, hp1⟩
    replace hp1 : PsA P T w1 p.adv := hp1
    have hkw := (HQ.out.1.trans hk1).trans (KP.al P w1 (.cells #[.string ⟨#[45]⟩] 9))
    have hb2 := (HQ.out.2.1.keep hk1).keep (KP.al P w1 (.cells #[.string ⟨#[45]⟩] 9))
    have cb2 := (HQ.out.2.1.keep hk1).2
    have hr1 := (KP.al P w1 (.cells #[.string ⟨#[45]⟩] 9)).heapEq (hk1.heapEq HQ.out.2.2 (by omega)) (by omega)
    have HR : Hid (∀ z', rfD [[45]] p.adv = some z' → Calls Tryz.prog 105 #[pt P, .slice (some ⟨w1.heap.size, 0, none⟩) 1 1] (w1.alloc (.cells #[.string ⟨#[45]⟩] 9)) (PoA P T (fun _ _ v => v = .tuple #[]) (w1.alloc (.cells #[.string ⟨#[45]⟩] 9)) z')) := fun z' hz' => refuseDeep_any (hp1.up (alB _ (.cells #[.string ⟨#[45]⟩] 9))) (SgA.new P w1 [[45]] (by simp) hp1.lt) hz'
    clear HQ HS HY hk1 hp1
    rcases bnd_some hz with ⟨x, hx, rfl⟩ | ⟨_, q, hx, hq⟩
    · have HC1 := HR.out _ hx
      clear HR
      go_wp2_with fail
      refine HC1.mono ?_
      rintro e w2 hpo
      obtain ⟨rfl, hk⟩ := bad_panic hpo hkw
      exact ⟨rfl, rfl, hk⟩
    · have HC1 := HR.out _ hx
      clear HR
      go_wp2_with fail
      refine HC1.mono ?_
      rintro e w2 ⟨v, rfl, rfl, hp2, hk2⟩
      have hkw2 := hkw.trans hk2
      have hb3 := hb2.keep hk2
      have cb3 := hb3.2
      have hr2 := hk2.heapEq hr1 (by omega)
      have hs2 : W.heap.size + 1 < w2.heap.size := (Array.getElem?_eq_some_iff.1 hr2).1
      have hPC := unC_any HI.out hb3
      clear hkw hb2 hr1 hk2 HC1 HI hz hx cb2
      rcases bnd_some hq with ⟨x, hx, rfl⟩ | ⟨y, q2, hx, hq2⟩
      · have HD := deeper_any hp2 hPC hx
        clear hPC hp2 hb3 hq hx
        go_wp2_with fail
        refine HD.mono ?_
        rintro e w3 hpo
        obtain ⟨rfl, hk⟩ := bad_panic hpo hkw2
        exact ⟨rfl, rfl, hk⟩
      · have HD := deeper_any hp2 hPC hx
        cases hq2
        clear hPC hp2 hb3 hq hx
        go_wp2_with fail
        refine HD.mono ?_
        rintro e w3 ⟨v, rfl, ⟨c, rfl, hx3⟩, hp3, hk3⟩
        obtain ⟨b1, d1, b2, d2, hc3⟩ := hx3.form
        subst hc3
        have hr3 := hk3.heapEq hr2 (by omega)
        have hs3 : W.heap.size + 1 < w3.heap.size := (Array.getElem?_eq_some_iff.1 hr3).1
        have s4 : (w3.alloc (.cells #[.int .i64 y.kind, .int .i64 y.num, .string (mkB y.text), .slice b1 y.kids.length d1, .slice b2 y.names.length d2] 38)).heap.size = w3.heap.size + 1 := World.size_alloc _ _
        have hr5 : ((w3.alloc (.cells #[.int .i64 y.kind, .int .i64 y.num, .string (mkB y.text), .slice b1 y.kids.length d1, .slice b2 y.names.length d2] 38)).alloc (.cells #[.int .i64 y.kind, .int .i64 y.num, .string (mkB y.text), .slice b1 y.kids.length d1, .slice b2 y.names.length d2] 38)).heap[W.heap.size + 1]? = some ez := (heap_al _ _ _ (by omega)).trans ((heap_al _ _ _ hs3).trans hr3)
        obtain ⟨y0, y1, y2, y3, y4, f0, f1, f2, f3, f4⟩ := cells5 hr5
        have gF : ∀ g, g ≠ W.heap.size + 1 → g < w3.heap.size → (((w3.alloc (.cells #[.int .i64 y.kind, .int .i64 y.num, .string (mkB y.text), .slice b1 y.kids.length d1, .slice b2 y.names.length d2] 38)).alloc (.cells #[.int .i64 y.kind, .int .i64 y.num, .string (mkB y.text), .slice b1 y.kids.length d1, .slice b2 y.names.length d2] 38)).setCells (W.heap.size + 1) 0 [.int .i64 13, .int .i64 0, .string ⟨#[]⟩, .slice (some ⟨w3.heap.size + 1, 0, none⟩) 1 1, .slice none 0 0]).heap[g]? = w3.heap[g]? := fun g hg hg2 => (heap_sets _ [.int .i64 13, .int .i64 0, .string ⟨#[]⟩, .slice (some ⟨w3.heap.size + 1, 0, none⟩) 1 1, .slice none 0 0] 0 _ g hg).trans ((heap_al _ _ _ (by omega)).trans (heap_al w3 _ g hg2))
        have gT : (((w3.alloc (.cells #[.int .i64 y.kind, .int .i64 y.num, .string (mkB y.text), .slice b1 y.kids.length d1, .slice b2 y.names.length d2] 38)).alloc (.cells #[.int .i64 y.kind, .int .i64 y.num, .string (mkB y.text), .slice b1 y.kids.length d1, .slice b2 y.names.length d2] 38)).setCells (W.heap.size + 1) 0 [.int .i64 13, .int .i64 0, .string ⟨#[]⟩, .slice (some ⟨w3.heap.size + 1, 0, none⟩) 1 1, .slice none 0 0]).heap[w3.heap.size + 1]? = some (.cells #[.int .i64 y.kind, .int .i64 y.num, .string (mkB y.text), .slice b1 y.kids.length d1, .slice b2 y.names.length d2] 38) := (heap_sets _ [.int .i64 13, .int .i64 0, .string ⟨#[]⟩, .slice (some ⟨w3.heap.size + 1, 0, none⟩) 1 1, .slice none 0 0] 0 _ _ (by omega)).trans (by have := heap_alloc_new (w3.alloc (.cells #[.int .i64 y.kind, .int .i64 y.num, .string (mkB y.text), .slice b1 y.kids.length d1, .slice b2 y.names.length d2] 38)) (.cells #[.int .i64 y.kind, .int .i64 y.num, .string (mkB y.text), .slice b1 y.kids.length d1, .slice b2 y.names.length d2] 38); rwa [s4] at this)
        have hl0 := (stN hr5 (c := [.int .i64 13, .int .i64 0, .string ⟨#[]⟩, .slice (some ⟨w3.heap.size + 1, 0, none⟩) 1 1, .slice none 0 0]) rfl szE (by simp [Value.oneCell']) Tryz.underlying38 rfl).2
        rw [sets5] at hl0
        have HL : Hid _ := hl0
        have hyF : ExA (((w3.alloc (.cells #[.int .i64 y.kind, .int .i64 y.num, .string (mkB y.text), .slice b1 y.kids.length d1, .slice b2 y.names.length d2] 38)).alloc (.cells #[.int .i64 y.kind, .int .i64 y.num, .string (mkB y.text), .slice b1 y.kids.length d1, .slice b2 y.names.length d2] 38)).setCells (W.heap.size + 1) 0 [.int .i64 13, .int .i64 0, .string ⟨#[]⟩, .slice (some ⟨w3.heap.size + 1, 0, none⟩) 1 1, .slice none 0 0]) (fun g => W.heap.size ≤ g) y [.int .i64 y.kind, .int .i64 y.num, .string (mkB y.text), .slice b1 y.kids.length d1, .slice b2 y.names.length d2] := hx3.keep (fun g hg hg2 => gF g (by omega) hg2) (fun g hg _ => by omega)
        have hKF : KP P W (((w3.alloc (.cells #[.int .i64 y.kind, .int .i64 y.num, .string (mkB y.text), .slice b1 y.kids.length d1, .slice b2 y.names.length d2] 38)).alloc (.cells #[.int .i64 y.kind, .int .i64 y.num, .string (mkB y.text), .slice b1 y.kids.length d1, .slice b2 y.names.length d2] 38)).setCells (W.heap.size + 1) 0 [.int .i64 13, .int .i64 0, .string ⟨#[]⟩, .slice (some ⟨w3.heap.size + 1, 0, none⟩) 1 1, .slice none 0 0]) := (((hkw2.trans hk3).trans (KP.al P w3 _)).trans (KP.al P _ _)).sets (Nat.le_succ _) _
        have hPF : PsA P T (((w3.alloc (.cells #[.int .i64 y.kind, .int .i64 y.num, .string (mkB y.text), .slice b1 y.kids.length d1, .slice b2 y.names.length d2] 38)).alloc (.cells #[.int .i64 y.kind, .int .i64 y.num, .string (mkB y.text), .slice b1 y.kids.length d1, .slice b2 y.names.length d2] 38)).setCells (W.heap.size + 1) 0 [.int .i64 13, .int .i64 0, .string ⟨#[]⟩, .slice (some ⟨w3.heap.size + 1, 0, none⟩) 1 1, .slice none 0 0]) q2 := hp3.keep (gF P (by omega) (by omega)) (gF T (by omega) (by omega))
        have he0 : PoA P T (VE W.heap.size) W (.ok ((⟨13, 0, [], [y], []⟩ : Ex), q2)) (.returned (.agg ([.int .i64 13, .int .i64 0, .string ⟨#[]⟩, .slice (some ⟨w3.heap.size + 1, 0, none⟩) 1 1, .slice none 0 0]).toArray)) (((w3.alloc (.cells #[.int .i64 y.kind, .int .i64 y.num, .string (mkB y.text), .slice b1 y.kids.length d1, .slice b2 y.names.length d2] 38)).alloc (.cells #[.int .i64 y.kind, .int .i64 y.num, .string (mkB y.text), .slice b1 y.kids.length d1, .slice b2 y.names.length d2] 38)).setCells (W.heap.size + 1) 0 [.int .i64 13, .int .i64 0, .string ⟨#[]⟩, .slice (some ⟨w3.heap.size + 1, 0, none⟩) 1 1, .slice none 0 0]) := ⟨_, rfl, ⟨_, rfl, ExA.make (x := ⟨13, 0, [], [y], []⟩) (vs := [[.int .i64 y.kind, .int .i64 y.num, .string (mkB y.text), .slice b1 y.kids.length d1, .slice b2 y.names.length d2]]) ⟨rfl, .inr ⟨w3.heap.size + 1, 1, _, rfl, Nat.zero_le _, gT, Nat.le_refl _, by decide, rfl, rfl⟩⟩ (World.ownsRow_nil _ _ _ _) (fun g hg => ob_le hg (by omega)) (fun g hg => by cases hg) ⟨hyF, trivial⟩⟩, hPF, hKF⟩
        rw [sets5] at he0
        have HE : Hid _ := he0
        clear hl0 he0 hx3 hp3 hk3 hr3 hs3 hr5 gF gT hyF hKF hPF hr2 hkw2 HD
        go_wp2
        refine bodyPost_ret (v := Value.agg #[Value.int IntKind.i64 13, Value.int IntKind.i64 0, Value.string ⟨#[]⟩, Value.slice (some ⟨w3.heap.size + 1, 0, none⟩) 1 1, Value.slice none 0 0]) (res_one Tryz.results151 _ _ rfl HL.out) rfl HE.out
theorem unary_any {P T : Nat} {E : Ps → Px Ex} (hY : MethC P T 156 (pst E)) : ∀ f, MethC P T 151 (unL E f)
  | 0 => fun W p z _ hz => by cases hz
  | f + 1 => unary_step hY (unary_any hY f)
end Go.Proofs.YtcaeeackccgclaaGreatDoor

/- comparison. -/
namespace Go.Proofs.YtcaeeackccgclaaGreatDoor
open Go.RowKit Go.Shelf
attribute [local go_sem ↓] fld0 fld1 fld2 fld3
attribute [local go_sem] mk_func

theorem EV.size {w1 : World} {c : List Value} : ((w1.alloc ez).setCells w1.heap.size 0 c).heap.size = w1.heap.size + 1 := by rw [size_sets, World.size_alloc]

set_option maxHeartbeats 8000000 in
set_option maxRecDepth 100000 in
theorem comparison_any {P T : Nat} {E : Ps → Px Ex} (hS : MethC P T 139 (sum E)) : MethC P T 127 (cmp E) := by
  intro W p z h hz
  have hPl := h.lt
  have hTl := h.ltT
  obtain ⟨h0, hk0, hb0, hr0, s0⟩ := bg_facts h
  have cb : (bgW P W).cell? ⟨W.heap.size, 0, none⟩ = some (pt P) := hb0.2
  have HQ : Hid (KP P W (bgW P W) ∧ BoxA P W.heap.size (bgW P W) ∧ (bgW P W).heap[W.heap.size + 1]? = some ez) := ⟨hk0, hb0, hr0⟩
  have HY : Hid (MethC P T 139 (sum E)) := hS
  have HC : Hid (∀ z', sum E p = some z' → Calls Tryz.prog 139 #[pt P] (bgW P W) (PoA P T (VE (W.heap.size + 1 + 1)) (bgW P W) z')) := fun z' hz' => by
    have := hS (bgW P W) p z' h0 hz'
    rwa [s0] at this
  clear h hk0 hb0 hr0 s0 h0 hS
  unfold bgW at *
  rcases bnd_some hz with ⟨x, hx, rfl⟩ | ⟨x, q, hx, hq⟩
  · have HC1 := HC.out _ hx
    clear HC
    go_enter Tryz.func127, Tryz.ntmps127
    go_wp2_with fail
    refine HC1.mono ?_
    rintro e w1 hpo
    obtain ⟨rfl, hk⟩ := bad_panic hpo HQ.out.1
    exact ⟨rfl, rfl, hk⟩
  · have HC1 := HC.out _ hx
    clear HC
    go_enter Tryz.func127, Tryz.ntmps127
    go_wp2_with fail
    refine HC1.mono ?_
    rintro e w1 ⟨v, rfl, ⟨c, rfl, hx1⟩, hp1, hk1⟩
    have hr1 := hk1.heapEq HQ.out.2.2 (by omega)
    have hs1 : W.heap.size + 1 < w1.heap.size := (Array.getElem?_eq_some_iff.1 hr1).1
    have hkw := HQ.out.1.trans hk1
    obtain ⟨t1, r1, x1, g1⟩ := var5 hx1
    obtain ⟨-, i1, o1, -, j1⟩ := fin5 hr1 rfl hx1
    have HF : Hid ((w1.alloc ez).there w1.heap.size 0 c.toArray.size ∧ (Tryz.prog.info? 38).map (·.size) = some c.toArray.size ∧ c.toArray.all (·.oneCell') = true) := ⟨t1, i1, o1⟩
    have hA : PsA P T ((w1.alloc ez).setCells w1.heap.size 0 c) q := hp1.keep (g1 P (by omega)) (g1 T (by omega))
    have kA0 : KP P w1 ((w1.alloc ez).setCells w1.heap.size 0 c) := (KP.al P w1 ez).sets (by omega) c
    have kA : KP P W ((w1.alloc ez).setCells w1.heap.size 0 c) := hkw.trans kA0
    have bA : BoxA P W.heap.size ((w1.alloc ez).setCells w1.heap.size 0 c) := (HQ.out.2.1.keep hk1).keep kA0
    have cbA := bA.2
    have eA : EV ((w1.alloc ez).setCells w1.heap.size 0 c) w1.heap.size c := EV.new hx1.len
    have rA : ((w1.alloc ez).setCells w1.heap.size 0 c).heap[W.heap.size + 1]? = some ez := (g1 _ hs1).trans hr1
    have hs := KP.al P ((w1.alloc ez).setCells w1.heap.size 0 c) (.cells #[.string ⟨#[61, 61]⟩, .string ⟨#[33, 61]⟩, .string ⟨#[60]⟩, .string ⟨#[60, 61]⟩, .string ⟨#[105, 110]⟩] 9)
    have HS : Calls Tryz.prog 44 #[pt P, .slice (some ⟨((w1.alloc ez).setCells w1.heap.size 0 c).heap.size, 0, none⟩) 5 5] (((w1.alloc ez).setCells w1.heap.size 0 c).alloc (.cells #[.string ⟨#[61, 61]⟩, .string ⟨#[33, 61]⟩, .string ⟨#[60]⟩, .string ⟨#[60, 61]⟩, .string ⟨#[105, 110]⟩] 9)) fun e w' => e = .returned (.bool (q.sees [[61, 61], [33, 61], [60], [60, 61], [105, 110]])) ∧ KP P ((w1.alloc ez).setCells w1.heap.size 0 c) w' ∧ PsA P T w' q := by
      have hA2 := hA.up (alB ((w1.alloc ez).setCells w1.heap.size 0 c) (.cells #[.string ⟨#[61, 61]⟩, .string ⟨#[33, 61]⟩, .string ⟨#[60]⟩, .string ⟨#[60, 61]⟩, .string ⟨#[105, 110]⟩] 9))
      have := seesSign_any hA2 (SgA.new P ((w1.alloc ez).setCells w1.heap.size 0 c) [[61, 61], [33, 61], [60], [60, 61], [105, 110]] (by simp) hA.lt)
      exact this.mono fun e w' ⟨a, b⟩ => ⟨a, hs.trans (KP.of_below b), hA2.up b⟩
    have HA : Hid (KP P W ((w1.alloc ez).setCells w1.heap.size 0 c) ∧ BoxA P W.heap.size ((w1.alloc ez).setCells w1.heap.size 0 c) ∧ EV ((w1.alloc ez).setCells w1.heap.size 0 c) w1.heap.size c ∧ ((w1.alloc ez).setCells w1.heap.size 0 c).heap[W.heap.size + 1]? = some ez ∧ ExA ((w1.alloc ez).setCells w1.heap.size 0 c) (fun g => W.heap.size + 1 + 1 ≤ g ∧ g < w1.heap.size) x c) := ⟨kA, bA, eA, rA, x1⟩
    clear t1 r1 x1 g1 i1 o1 j1 hkw hr1 hk1 hp1 hx1 HC1 hA kA0 kA bA eA rA hs HQ hx hz
    go_wp2_with (first
      | (refine wpList_store_mid rfl 38 (Operand.tmp 3) (Operand.tmp 5) rfl w1.heap.size 0 c.toArray rfl rfl HF.out.1 HF.out.2.1 HF.out.2.2 ?_)
      | fail)
    refine HS.mono ?_
    rintro e w2 ⟨rfl, hk2, hp2⟩
    have hkw2 := HA.out.1.trans hk2
    have hb2 := HA.out.2.1.keep hk2
    have cb2 := hb2.2
    have hev2 : EV w2 w1.heap.size c := HA.out.2.2.1.keep (hk2.blk _ HA.out.2.2.1.lt (by omega))
    have hr2 := hk2.heapEq HA.out.2.2.2.1 (by omega)
    have hx2 : ExA w2 (fun g => W.heap.size + 1 + 1 ≤ g ∧ g ≠ w1.heap.size) x c := HA.out.2.2.2.2.keep (fun g hg hg2 => hk2.blk g hg2 (by omega)) (fun g hg _ => ⟨hg.1, by omega⟩)
    have hs2 : w1.heap.size < w2.heap.size := hev2.lt
    obtain ⟨t2, i2, o2, l2, j2⟩ := fin5 hr2 rfl hx2
    clear HS HA HF
    replace hq : (bif q.sees [[61, 61], [33, 61], [60], [60, 61], [105, 110]] then bnd (sum E q.adv) fun y r => ok ⟨14, 0, q.nx.text, [x, y], []⟩ r else ok x q) = some z := hq
    cases hb : q.sees [[61, 61], [33, 61], [60], [60, 61], [105, 110]] with
    | false =>
      rw [hb] at hq
      cases hq
      have HE : Hid (PoA P T (VE W.heap.size) W (.ok (x, q)) (.returned (.agg c.toArray)) (w2.setCells (W.heap.size + 1) 0 c)) := poE_fin2 (by omega) hx2 (fun g hg => ⟨by omega, by omega⟩) hp2 hkw2 hPl hTl
      have HF : Hid (w2.rangeAt w1.heap.size 0 c ∧ (Tryz.prog.info? 38).map (·.size) = some c.length ∧ w2.there (W.heap.size + 1) 0 c.toArray.size ∧ (Tryz.prog.info? 38).map (·.size) = some c.toArray.size ∧ c.toArray.all (·.oneCell') = true ∧ (loadVar 38 ⟨W.heap.size + 1, 0, none⟩).run Tryz.prog (w2.setCells (W.heap.size + 1) 0 c) = .ok (.agg c.toArray) (w2.setCells (W.heap.size + 1) 0 c)) := ⟨hev2.2, j2, t2, i2, o2, l2⟩
      clear t2 i2 o2 l2 j2 hx2 hr2 hev2 hkw2 hp2 hk2 hb2
      go_wp2_with (first
        | (refine wpList_load_mid rfl 38 (Operand.tmp 3) rfl w1.heap.size 0 rfl c _ HF.out.1 Tryz.underlying38 rfl HF.out.2.1 ?_)
        | (refine wpList_store_mid rfl 38 (Operand.tmp 2) (Operand.tmp 13) rfl (W.heap.size + 1) 0 c.toArray rfl rfl HF.out.2.2.1 HF.out.2.2.2.1 HF.out.2.2.2.2.1 ?_)
        | fail)
      refine bodyPost_ret (v := .agg c.toArray) (res_one Tryz.results127 _ _ rfl HF.out.2.2.2.2.2) rfl HE.out
    | true =>
      rw [hb] at hq
      replace hq : (bnd (sum E q.adv) fun y r => ok ⟨14, 0, q.nx.text, [x, y], []⟩ r) = some z := hq
      have HP := pair_any hp2 (cmC_any HY.out hb2) hb hx2 (fun g hg => by omega) hq
      have HF : Hid (w2.rangeAt w1.heap.size 0 c ∧ (Tryz.prog.info? 38).map (·.size) = some c.length) := ⟨hev2.2, j2⟩
      have HH : Hid (w2.heap[W.heap.size + 1]? = some ez ∧ KP P W w2) := ⟨hr2, hkw2⟩
      clear t2 i2 o2 l2 j2 hx2 hr2 hev2 hkw2 hp2 hk2 hb2 hq
      go_wp2_with (first
        | (refine wpList_load_mid rfl 38 (Operand.tmp 3) rfl w1.heap.size 0 rfl c _ HF.out.1 Tryz.underlying38 rfl HF.out.2 ?_)
        | fail)
      refine HP.mono ?_
      rintro e w3 hpo
      cases z with
      | error y =>
        obtain ⟨rfl, hk3⟩ := bad_panic hpo HH.out.2
        exact ⟨rfl, rfl, hk3⟩
      | ok r =>
        obtain ⟨y, q3⟩ := r
        obtain ⟨v3, rfl, ⟨c3, rfl, hx3⟩, hp3, hk3⟩ := hpo
        have hr3 := hk3.heapEq HH.out.1 (by omega)
        obtain ⟨t3, i3, o3, l3, j3⟩ := fin5 hr3 rfl hx3
        have HE : Hid (PoA P T (VE W.heap.size) W (.ok (y, q3)) (.returned (.agg c3.toArray)) (w3.setCells (W.heap.size + 1) 0 c3)) := poE_fin2 (by omega) hx3 (fun g hg => by rcases hg with hg | hg <;> exact ⟨by omega, by omega⟩) hp3 (HH.out.2.trans hk3) hPl hTl
        have HG : Hid (w3.there (W.heap.size + 1) 0 c3.toArray.size ∧ (Tryz.prog.info? 38).map (·.size) = some c3.toArray.size ∧ c3.toArray.all (·.oneCell') = true ∧ (loadVar 38 ⟨W.heap.size + 1, 0, none⟩).run Tryz.prog (w3.setCells (W.heap.size + 1) 0 c3) = .ok (.agg c3.toArray) (w3.setCells (W.heap.size + 1) 0 c3)) := ⟨t3, i3, o3, l3⟩
        clear t3 i3 o3 l3 j3 hr3 hx3 hp3 hk3 HP HH HF
        go_wp2_with (first
          | (refine wpList_store_mid rfl 38 (Operand.tmp 2) (Operand.tmp 12) rfl (W.heap.size + 1) 0 c3.toArray rfl rfl HG.out.1 HG.out.2.1 HG.out.2.2.1 ?_)
          | fail)
        refine bodyPost_ret (v := .agg c3.toArray) (res_one Tryz.results127 _ _ rfl HG.out.2.2.2) rfl HE.out
end Go.Proofs.YtcaeeackccgclaaGreatDoor

/- atom, signAtom. -/
namespace Go.Proofs.YtcaeeackccgclaaGreatDoor
open Go.RowKit Go.Shelf
attribute [local go_sem ↓] fld0 fld1 fld2 fld3

theorem passSign_no {P T : Nat} {w : World} {p : Ps} (h : PsA P T w p) {x : List UInt8} (hb : p.sees [x] = false) :
    Calls Tryz.prog 72 #[pt P, .string (mkB x)] w fun e w' => e = .returned (.bool false) ∧ KP P w w' ∧ PsA P T w' p := by
  have := passSign_any h x
  rwa [hb] at this
theorem passSign_yes {P T : Nat} {w : World} {p : Ps} (h : PsA P T w p) {x : List UInt8} (hb : p.sees [x] = true) :
    Calls Tryz.prog 72 #[pt P, .string (mkB x)] w fun e w' => e = .returned (.bool true) ∧ KP P w w' ∧ PsA P T w' p.adv := by
  have := passSign_any h x
  rwa [hb] at this
/-- An expression without parts is handed back. -/
theorem leaf_fin {P T : Nat} {W w1 : World} (hPl : P < W.heap.size) (hTl : T < W.heap.size) (hr : w1.heap[W.heap.size]? = some ez) {q : Ps} (hp : PsA P T w1 q) (hk : KP P W w1) (k n : Nat) (t : List UInt8) :
    PoA P T (VE W.heap.size) W (.ok ((⟨k, n, t, [], []⟩ : Ex), q)) (.returned (.agg #[.int .i64 k, .int .i64 n, .string (mkB t), .slice none 0 0, .slice none 0 0])) (w1.setCells W.heap.size 0 [.int .i64 k, .int .i64 n, .string (mkB t), .slice none 0 0, .slice none 0 0]) ∧
    (loadVar 38 ⟨W.heap.size, 0, none⟩).run Tryz.prog (w1.setCells W.heap.size 0 [.int .i64 k, .int .i64 n, .string (mkB t), .slice none 0 0, .slice none 0 0]) = .ok (.agg #[.int .i64 k, .int .i64 n, .string (mkB t), .slice none 0 0, .slice none 0 0]) (w1.setCells W.heap.size 0 [.int .i64 k, .int .i64 n, .string (mkB t), .slice none 0 0, .slice none 0 0]) := by
  refine ⟨⟨_, rfl, ⟨_, rfl, ExA.leaf k n t⟩, hp.sets hPl hTl _, hk.sets (Nat.le_refl _) _⟩, (stN hr (c := [.int .i64 k, .int .i64 n, .string (mkB t), .slice none 0 0, .slice none 0 0]) rfl szE (by simp [Value.oneCell']) Tryz.underlying38 rfl).2⟩

set_option maxHeartbeats 8000000 in
set_option linter.unusedSimpArgs false in
set_option maxRecDepth 100000 in
theorem signAtom_any {P T : Nat} {E : Ps → Px Ex} (hE : MethC P T 70 E) (hL : MethC P T 162 (lst [93] (liE E) ⟨7, 0, [], [], []⟩)) (hDi : MethC P T 163 (lst [125] (diE E) ⟨8, 0, [], [], []⟩)) : MethC P T 160 (sgA E) := by
  intro W p z h hz
  have hPl := h.lt
  have hTl := h.ltT
  have h0 := h.up (alB W ez)
  have hk0 := KP.al P W ez
  have hr0 := heap_alloc_new W ez
  have HE : Hid (MethC P T 70 E) := hE
  have HLi : Hid (MethC P T 162 (lst [93] (liE E) ⟨7, 0, [], [], []⟩)) := hL
  have HDi : Hid (MethC P T 163 (lst [125] (diE E) ⟨8, 0, [], [], []⟩)) := hDi
  unfold sgA at hz
  clear hE hL hDi h
  cases hb0 : p.sees [[84, 114, 117, 101]] with
  | true =>
    simp only [hb0, cond_true, cond_false] at hz
    cases hz
    go_enter Tryz.func160, Tryz.ntmps160
    go_wp2_with fail
    refine (passSign_yes h0 (x := [84, 114, 117, 101]) hb0).mono ?_
    rintro e w1 ⟨rfl, hj1, h1⟩
    have hk1 := hk0.trans hj1
    have hr1 := hj1.heapEq hr0 (by omega)
    clear h0 hj1 hr0 hk0
    have HZ : Hid _ := leaf_fin hPl hTl hr1 h1 hk1 2 0 []
    obtain ⟨y0, y1, y2, y3, y4, f0, f1, f2, f3, f4⟩ := cells5 hr1
    clear h1 hk1 hr1 HE HLi HDi
    go_wp2
    refine bodyPost_ret (v := Value.agg #[Value.int IntKind.i64 2, Value.int IntKind.i64 0, Value.string ⟨#[]⟩, Value.slice none 0 0, Value.slice none 0 0]) (res_one Tryz.results160 _ _ rfl HZ.out.2) rfl HZ.out.1
  | false =>
  cases hb1 : p.sees [[70, 97, 108, 115, 101]] with
  | true =>
    simp only [hb1, hb0, cond_true, cond_false] at hz
    cases hz
    go_enter Tryz.func160, Tryz.ntmps160
    go_wp2_with fail
    refine (passSign_no h0 (x := [84, 114, 117, 101]) hb0).mono ?_
    rintro e w1 ⟨rfl, hj1, h1⟩
    have hk1 := hk0.trans hj1
    have hr1 := hj1.heapEq hr0 (by omega)
    clear h0 hj1 hr0 hk0
    go_wp2_with fail
    refine (passSign_yes h1 (x := [70, 97, 108, 115, 101]) hb1).mono ?_
    rintro e w2 ⟨rfl, hj2, h2⟩
    have hk2 := hk1.trans hj2
    have hr2 := hj2.heapEq hr1 (by omega)
    clear h1 hj2 hr1 hk1
    have HZ : Hid _ := leaf_fin hPl hTl hr2 h2 hk2 3 0 []
    obtain ⟨y0, y1, y2, y3, y4, f0, f1, f2, f3, f4⟩ := cells5 hr2
    clear h2 hk2 hr2 HE HLi HDi
    go_wp2
    refine bodyPost_ret (v := Value.agg #[Value.int IntKind.i64 3, Value.int IntKind.i64 0, Value.string ⟨#[]⟩, Value.slice none 0 0, Value.slice none 0 0]) (res_one Tryz.results160 _ _ rfl HZ.out.2) rfl HZ.out.1
  | false =>
  cases hb2 : p.sees [[78, 111, 110, 101]] with
  | true =>
    simp only [hb2, hb0, hb1, cond_true, cond_false] at hz
    cases hz
    go_enter Tryz.func160, Tryz.ntmps160
    go_wp2_with fail
    refine (passSign_no h0 (x := [84, 114, 117, 101]) hb0).mono ?_
    rintro e w1 ⟨rfl, hj1, h1⟩
    have hk1 := hk0.trans hj1
    have hr1 := hj1.heapEq hr0 (by omega)
    clear h0 hj1 hr0 hk0
    go_wp2_with fail
    refine (passSign_no h1 (x := [70, 97, 108, 115, 101]) hb1).mono ?_
    rintro e w2 ⟨rfl, hj2, h2⟩
    have hk2 := hk1.trans hj2
    have hr2 := hj2.heapEq hr1 (by omega)
    clear h1 hj2 hr1 hk1
    go_wp2_with fail
    refine (passSign_yes h2 (x := [78, 111, 110, 101]) hb2).mono ?_
    rintro e w3 ⟨rfl, hj3, h3⟩
    have hk3 := hk2.trans hj3
    have hr3 := hj3.heapEq hr2 (by omega)
    clear h2 hj3 hr2 hk2
    have HZ : Hid _ := leaf_fin hPl hTl hr3 h3 hk3 1 0 []
    obtain ⟨y0, y1, y2, y3, y4, f0, f1, f2, f3, f4⟩ := cells5 hr3
    clear h3 hk3 hr3 HE HLi HDi
    go_wp2
    refine bodyPost_ret (v := Value.agg #[Value.int IntKind.i64 1, Value.int IntKind.i64 0, Value.string ⟨#[]⟩, Value.slice none 0 0, Value.slice none 0 0]) (res_one Tryz.results160 _ _ rfl HZ.out.2) rfl HZ.out.1
  | false =>
  cases hb3 : p.sees [[91]] with
  | true =>
    simp only [hb3, hb0, hb1, hb2, cond_true, cond_false] at hz
    go_enter Tryz.func160, Tryz.ntmps160
    go_wp2_with fail
    refine (passSign_no h0 (x := [84, 114, 117, 101]) hb0).mono ?_
    rintro e w1 ⟨rfl, hj1, h1⟩
    have hk1 := hk0.trans hj1
    have hr1 := hj1.heapEq hr0 (by omega)
    clear h0 hj1 hr0 hk0
    go_wp2_with fail
    refine (passSign_no h1 (x := [70, 97, 108, 115, 101]) hb1).mono ?_
    rintro e w2 ⟨rfl, hj2, h2⟩
    have hk2 := hk1.trans hj2
    have hr2 := hj2.heapEq hr1 (by omega)
    clear h1 hj2 hr1 hk1
    go_wp2_with fail
    refine (passSign_no h2 (x := [78, 111, 110, 101]) hb2).mono ?_
    rintro e w3 ⟨rfl, hj3, h3⟩
    have hk3 := hk2.trans hj3
    have hr3 := hj3.heapEq hr2 (by omega)
    clear h2 hj3 hr2 hk2
    go_wp2_with fail
    refine (passSign_yes h3 (x := [91]) hb3).mono ?_
    rintro e w4 ⟨rfl, hj4, h4⟩
    have hk4 := hk3.trans hj4
    have hr4 := hj4.heapEq hr3 (by omega)
    clear h3 hj4 hr3 hk3
    have HD := HLi.out w4 _ z h4 hz
    have hs4 : W.heap.size < w4.heap.size := (Array.getElem?_eq_some_iff.1 hr4).1
    clear HE HLi HDi hz
    go_wp2_with fail
    refine HD.mono ?_
    rintro e v1 hpo
    cases z with
    | error x =>
      obtain ⟨rfl, hk⟩ := bad_panic hpo hk4
      exact ⟨rfl, rfl, hk⟩
    | ok r =>
      obtain ⟨x, q⟩ := r
      obtain ⟨v, rfl, ⟨c, rfl, hx1⟩, hp1, hj1⟩ := hpo
      have hr2 := hj1.heapEq hr4 (by omega)
      obtain ⟨t2, i2, o2, l2, j2⟩ := fin5 hr2 rfl hx1
      have HZ : Hid (PoA P T (VE W.heap.size) W (.ok (x, q)) (.returned (.agg c.toArray)) (v1.setCells W.heap.size 0 c)) := poE_fin (by omega) hs4 hx1 hp1 (hk4.trans hj1) hPl hTl
      have HF : Hid (v1.there W.heap.size 0 c.toArray.size ∧ (Tryz.prog.info? 38).map (·.size) = some c.toArray.size ∧ c.toArray.all (·.oneCell') = true ∧ (loadVar 38 ⟨W.heap.size, 0, none⟩).run Tryz.prog (v1.setCells W.heap.size 0 c) = .ok (.agg c.toArray) (v1.setCells W.heap.size 0 c)) := ⟨t2, i2, o2, l2⟩
      clear t2 i2 o2 l2 j2 hx1 hp1 hj1 hr4 hr2 hk4 HD
      go_wp2_with (first
        | (refine wpList_store_mid rfl 38 (Operand.tmp 2) (Operand.tmp 20) rfl W.heap.size 0 c.toArray rfl rfl HF.out.1 HF.out.2.1 HF.out.2.2.1 ?_)
        | fail)
      refine bodyPost_ret (v := .agg c.toArray) (res_one Tryz.results160 _ _ rfl HF.out.2.2.2) rfl HZ.out
  | false =>
  cases hb4 : p.sees [[123]] with
  | true =>
    simp only [hb4, hb0, hb1, hb2, hb3, cond_true, cond_false] at hz
    go_enter Tryz.func160, Tryz.ntmps160
    go_wp2_with fail
    refine (passSign_no h0 (x := [84, 114, 117, 101]) hb0).mono ?_
    rintro e w1 ⟨rfl, hj1, h1⟩
    have hk1 := hk0.trans hj1
    have hr1 := hj1.heapEq hr0 (by omega)
    clear h0 hj1 hr0 hk0
    go_wp2_with fail
    refine (passSign_no h1 (x := [70, 97, 108, 115, 101]) hb1).mono ?_
    rintro e w2 ⟨rfl, hj2, h2⟩
    have hk2 := hk1.trans hj2
    have hr2 := hj2.heapEq hr1 (by omega)
    clear h1 hj2 hr1 hk1
    go_wp2_with fail
    refine (passSign_no h2 (x := [78, 111, 110, 101]) hb2).mono ?_
    rintro e w3 ⟨rfl, hj3, h3⟩
    have hk3 := hk2.trans hj3
    have hr3 := hj3.heapEq hr2 (by omega)
    clear h2 hj3 hr2 hk2
    go_wp2_with fail
    refine (passSign_no h3 (x := [91]) hb3).mono ?_
    rintro e w4 ⟨rfl, hj4, h4⟩
    have hk4 := hk3.trans hj4
    have hr4 := hj4.heapEq hr3 (by omega)
    clear h3 hj4 hr3 hk3
    go_wp2_with fail
    refine (passSign_yes h4 (x := [123]) hb4).mono ?_
    rintro e w5 ⟨rfl, hj5, h5⟩
    have hk5 := hk4.trans hj5
    have hr5 := hj5.heapEq hr4 (by omega)
    clear h4 hj5 hr4 hk4
    have HD := HDi.out w5 _ z h5 hz
    have hs5 : W.heap.size < w5.heap.size := (Array.getElem?_eq_some_iff.1 hr5).1
    clear HE HLi HDi hz
    go_wp2_with fail
    refine HD.mono ?_
    rintro e v1 hpo
    cases z with
    | error x =>
      obtain ⟨rfl, hk⟩ := bad_panic hpo hk5
      exact ⟨rfl, rfl, hk⟩
    | ok r =>
      obtain ⟨x, q⟩ := r
      obtain ⟨v, rfl, ⟨c, rfl, hx1⟩, hp1, hj1⟩ := hpo
      have hr2 := hj1.heapEq hr5 (by omega)
      obtain ⟨t2, i2, o2, l2, j2⟩ := fin5 hr2 rfl hx1
      have HZ : Hid (PoA P T (VE W.heap.size) W (.ok (x, q)) (.returned (.agg c.toArray)) (v1.setCells W.heap.size 0 c)) := poE_fin (by omega) hs5 hx1 hp1 (hk5.trans hj1) hPl hTl
      have HF : Hid (v1.there W.heap.size 0 c.toArray.size ∧ (Tryz.prog.info? 38).map (·.size) = some c.toArray.size ∧ c.toArray.all (·.oneCell') = true ∧ (loadVar 38 ⟨W.heap.size, 0, none⟩).run Tryz.prog (v1.setCells W.heap.size 0 c) = .ok (.agg c.toArray) (v1.setCells W.heap.size 0 c)) := ⟨t2, i2, o2, l2⟩
      clear t2 i2 o2 l2 j2 hx1 hp1 hj1 hr5 hr2 hk5 HD
      go_wp2_with (first
        | (refine wpList_store_mid rfl 38 (Operand.tmp 2) (Operand.tmp 25) rfl W.heap.size 0 c.toArray rfl rfl HF.out.1 HF.out.2.1 HF.out.2.2.1 ?_)
        | fail)
      refine bodyPost_ret (v := .agg c.toArray) (res_one Tryz.results160 _ _ rfl HF.out.2.2.2) rfl HZ.out
  | false =>
  simp only [hb0, hb1, hb2, hb3, hb4, cond_false] at hz
  rcases bnd_some hz with ⟨x, hx, rfl⟩ | ⟨_, q, hx, hz2⟩
  · go_enter Tryz.func160, Tryz.ntmps160
    go_wp2_with fail
    refine (passSign_no h0 (x := [84, 114, 117, 101]) hb0).mono ?_
    rintro e w1 ⟨rfl, hj1, h1⟩
    have hk1 := hk0.trans hj1
    have hr1 := hj1.heapEq hr0 (by omega)
    clear h0 hj1 hr0 hk0
    go_wp2_with fail
    refine (passSign_no h1 (x := [70, 97, 108, 115, 101]) hb1).mono ?_
    rintro e w2 ⟨rfl, hj2, h2⟩
    have hk2 := hk1.trans hj2
    have hr2 := hj2.heapEq hr1 (by omega)
    clear h1 hj2 hr1 hk1
    go_wp2_with fail
    refine (passSign_no h2 (x := [78, 111, 110, 101]) hb2).mono ?_
    rintro e w3 ⟨rfl, hj3, h3⟩
    have hk3 := hk2.trans hj3
    have hr3 := hj3.heapEq hr2 (by omega)
    clear h2 hj3 hr2 hk2
    go_wp2_with fail
    refine (passSign_no h3 (x := [91]) hb3).mono ?_
    rintro e w4 ⟨rfl, hj4, h4⟩
    have hk4 := hk3.trans hj4
    have hr4 := hj4.heapEq hr3 (by omega)
    clear h3 hj4 hr3 hk3
    go_wp2_with fail
    refine (passSign_no h4 (x := [123]) hb4).mono ?_
    rintro e w5 ⟨rfl, hj5, h5⟩
    have hk5 := hk4.trans hj5
    have hr5 := hj5.heapEq hr4 (by omega)
    clear h4 hj5 hr4 hk4
    have HT := takeSign_any h5 [40] hx
    go_wp2_with fail
    refine HT.mono ?_
    rintro e v1 hpo
    obtain ⟨rfl, hk⟩ := bad_panic hpo hk5
    exact ⟨rfl, rfl, hk⟩
  · go_enter Tryz.func160, Tryz.ntmps160
    go_wp2_with fail
    refine (passSign_no h0 (x := [84, 114, 117, 101]) hb0).mono ?_
    rintro e w1 ⟨rfl, hj1, h1⟩
    have hk1 := hk0.trans hj1
    have hr1 := hj1.heapEq hr0 (by omega)
    clear h0 hj1 hr0 hk0
    go_wp2_with fail
    refine (passSign_no h1 (x := [70, 97, 108, 115, 101]) hb1).mono ?_
    rintro e w2 ⟨rfl, hj2, h2⟩
    have hk2 := hk1.trans hj2
    have hr2 := hj2.heapEq hr1 (by omega)
    clear h1 hj2 hr1 hk1
    go_wp2_with fail
    refine (passSign_no h2 (x := [78, 111, 110, 101]) hb2).mono ?_
    rintro e w3 ⟨rfl, hj3, h3⟩
    have hk3 := hk2.trans hj3
    have hr3 := hj3.heapEq hr2 (by omega)
    clear h2 hj3 hr2 hk2
    go_wp2_with fail
    refine (passSign_no h3 (x := [91]) hb3).mono ?_
    rintro e w4 ⟨rfl, hj4, h4⟩
    have hk4 := hk3.trans hj4
    have hr4 := hj4.heapEq hr3 (by omega)
    clear h3 hj4 hr3 hk3
    go_wp2_with fail
    refine (passSign_no h4 (x := [123]) hb4).mono ?_
    rintro e w5 ⟨rfl, hj5, h5⟩
    have hk5 := hk4.trans hj5
    have hr5 := hj5.heapEq hr4 (by omega)
    clear h4 hj5 hr4 hk4
    have HT := takeSign_any h5 [40] hx
    go_wp2_with fail
    refine HT.mono ?_
    rintro e w6 ⟨v, rfl, rfl, h6, hj6⟩
    have hk6 := hk5.trans hj6
    have hr6 := hj6.heapEq hr5 (by omega)
    have hs6 : W.heap.size < w6.heap.size := (Array.getElem?_eq_some_iff.1 hr6).1
    clear h5 hj6 hr5 hk5 HT hz hx
    rcases bnd_some hz2 with ⟨x, hx, rfl⟩ | ⟨x, q2, hx, hz3⟩
    · have HD := HE.out w6 _ _ h6 hx
      go_wp2_with fail
      refine HD.mono ?_
      rintro e v1 hpo
      obtain ⟨rfl, hk⟩ := bad_panic hpo hk6
      exact ⟨rfl, rfl, hk⟩
    · have HD := HE.out w6 _ _ h6 hx
      go_wp2_with fail
      refine HD.mono ?_
      rintro e w7 ⟨v, rfl, ⟨c, rfl, hx7⟩, h7, hj7⟩
      have hk7 := hk6.trans hj7
      have hr7 := hj7.heapEq hr6 (by omega)
      have hs7 : W.heap.size < w7.heap.size := (Array.getElem?_eq_some_iff.1 hr7).1
      obtain ⟨t1, r1, x1, g1⟩ := var5 hx7
      obtain ⟨-, i1, o1, -, j1⟩ := fin5 hr7 rfl hx7
      have HF : Hid ((w7.alloc ez).there w7.heap.size 0 c.toArray.size ∧ (Tryz.prog.info? 38).map (·.size) = some c.toArray.size ∧ c.toArray.all (·.oneCell') = true) := ⟨t1, i1, o1⟩
      have hA : PsA P T ((w7.alloc ez).setCells w7.heap.size 0 c) q2 := h7.keep (g1 P (by omega)) (g1 T (by omega))
      have kA : KP P W ((w7.alloc ez).setCells w7.heap.size 0 c) := hk7.trans ((KP.al P w7 ez).sets (by omega) c)
      have eA : EV ((w7.alloc ez).setCells w7.heap.size 0 c) w7.heap.size c := EV.new hx7.len
      have rA : ((w7.alloc ez).setCells w7.heap.size 0 c).heap[W.heap.size]? = some ez := (g1 _ hs7).trans hr7
      have HA : Hid (KP P W ((w7.alloc ez).setCells w7.heap.size 0 c) ∧ EV ((w7.alloc ez).setCells w7.heap.size 0 c) w7.heap.size c ∧ ((w7.alloc ez).setCells w7.heap.size 0 c).heap[W.heap.size]? = some ez ∧ ExA ((w7.alloc ez).setCells w7.heap.size 0 c) (fun g => w6.heap.size ≤ g ∧ g < w7.heap.size) x c) := ⟨kA, eA, rA, x1⟩
      clear t1 r1 x1 g1 i1 o1 j1 hk7 hr7 hj7 h7 hx7 HD kA eA rA hx hz2 hk6 hr6 h6 HE HLi HDi
      rcases bnd_some hz3 with ⟨y, hy, rfl⟩ | ⟨_, q3, hy, hz4⟩
      · have HT := takeSign_any hA [41] hy
        clear hA
        go_wp2_with (first
          | (refine wpList_store_mid rfl 38 (Operand.tmp 3) (Operand.tmp 29) rfl w7.heap.size 0 c.toArray rfl rfl HF.out.1 HF.out.2.1 HF.out.2.2 ?_)
          | fail)
        refine HT.mono ?_
        rintro e v1 hpo
        obtain ⟨rfl, hk⟩ := bad_panic hpo HA.out.1
        exact ⟨rfl, rfl, hk⟩
      · have HT := takeSign_any hA [41] hy
        cases hz4
        clear hA
        go_wp2_with (first
          | (refine wpList_store_mid rfl 38 (Operand.tmp 3) (Operand.tmp 29) rfl w7.heap.size 0 c.toArray rfl rfl HF.out.1 HF.out.2.1 HF.out.2.2 ?_)
          | fail)
        refine HT.mono ?_
        rintro e w8 ⟨v, rfl, rfl, h8, hj8⟩
        have hev8 : EV w8 w7.heap.size c := HA.out.2.1.keep (hj8.blk _ HA.out.2.1.lt (by omega))
        have hr8 := hj8.heapEq HA.out.2.2.1 (by omega)
        have hx8 : ExA w8 (fun g => w6.heap.size ≤ g ∧ g < w7.heap.size) x c := HA.out.2.2.2.keep (fun g hg hg2 => hj8.blk g hg2 (by omega)) (fun g hg _ => hg)
        obtain ⟨t2, i2, o2, l2, j2⟩ := fin5 hr8 rfl hx8
        have HZ : Hid (PoA P T (VE W.heap.size) W (.ok (x, q3)) (.returned (.agg c.toArray)) (w8.setCells W.heap.size 0 c)) := poE_fin2 (Nat.le_refl _) hx8 (fun g hg => ⟨by omega, by omega⟩) h8 (HA.out.1.trans hj8) hPl hTl
        have HG : Hid (w8.rangeAt w7.heap.size 0 c ∧ (Tryz.prog.info? 38).map (·.size) = some c.length ∧ w8.there W.heap.size 0 c.toArray.size ∧ (Tryz.prog.info? 38).map (·.size) = some c.toArray.size ∧ c.toArray.all (·.oneCell') = true ∧ (loadVar 38 ⟨W.heap.size, 0, none⟩).run Tryz.prog (w8.setCells W.heap.size 0 c) = .ok (.agg c.toArray) (w8.setCells W.heap.size 0 c)) := ⟨hev8.2, j2, t2, i2, o2, l2⟩
        clear t2 i2 o2 l2 j2 hx8 hr8 hev8 h8 hj8 HA HF HT
        go_wp2_with (first
          | (refine wpList_load_mid rfl 38 (Operand.tmp 3) rfl w7.heap.size 0 rfl c _ HG.out.1 Tryz.underlying38 rfl HG.out.2.1 ?_)
          | (refine wpList_store_mid rfl 38 (Operand.tmp 2) (Operand.tmp 32) rfl W.heap.size 0 c.toArray rfl rfl HG.out.2.2.1 HG.out.2.2.2.1 HG.out.2.2.2.2.1 ?_)
          | fail)
        refine bodyPost_ret (v := .agg c.toArray) (res_one Tryz.results160 _ _ rfl HG.out.2.2.2.2.2) rfl HZ.out

set_option maxHeartbeats 8000000 in
set_option linter.unusedSimpArgs false in
set_option maxRecDepth 100000 in
theorem atom_any {P T : Nat} {E : Ps → Px Ex} (hS : MethC P T 160 (sgA E)) : MethC P T 158 (atm E) := by
  intro W p z h hz
  have hPl := h.lt
  have hTl := h.ltT
  have h0 := h.up (alB W ez)
  have hk0 := KP.al P W ez
  have hr0 := heap_alloc_new W ez
  have HN := next_any h0
  have HY : Hid (MethC P T 160 (sgA E)) := hS
  have hq1 : (((p.nx.kind : Nat) : Int) == (1 : Int)) = (p.nx.kind == 1) := by rw [Bool.eq_iff_iff]; simp; omega
  have hq2 : (((p.nx.kind : Nat) : Int) == (2 : Int)) = (p.nx.kind == 2) := by rw [Bool.eq_iff_iff]; simp; omega
  have hq3 : (((p.nx.kind : Nat) : Int) == (3 : Int)) = (p.nx.kind == 3) := by rw [Bool.eq_iff_iff]; simp; omega
  unfold atm at hz
  clear h hS
  cases hb0 : p.nx.kind == 1 with
  | true =>
    simp only [hb0, cond_true, cond_false] at hz
    cases hz
    rw [hb0] at hq1
    go_enter Tryz.func158, Tryz.ntmps158
    go_wp2_with fail
    refine HN.mono ?_
    rintro e w1 ⟨rfl, hb⟩
    have h1 := h0.up hb
    have hk1 := hk0.trans (KP.of_below hb)
    have hr1 := (KP.of_below (P := P) hb).heapEq hr0 (by omega)
    have HT := take2_any h1 1 (by decide) (z := .ok (p.nx, p.adv)) (by unfold tkK; rw [hb0]; rfl)
    clear h0 hk0 hr0 hb h1 HN HY
    go_wp2_with fail
    refine HT.mono ?_
    rintro e w2 ⟨v, rfl, rfl, h2, hj2⟩
    have hk2 := hk1.trans hj2
    have hr2 := hj2.heapEq hr1 (by omega)
    have HZ : Hid _ := leaf_fin hPl hTl hr2 h2 hk2 6 (0) (p.nx.text)
    obtain ⟨y0, y1, y2, y3, y4, f0, f1, f2, f3, f4⟩ := cells5 hr2
    clear h2 hk2 hr2 hj2 hk1 hr1 HT
    go_wp2
    refine bodyPost_ret (v := Value.agg #[Value.int IntKind.i64 6, Value.int IntKind.i64 0, Value.string (mkB p.nx.text), Value.slice none 0 0, Value.slice none 0 0]) (res_one Tryz.results158 _ _ rfl HZ.out.2) rfl HZ.out.1
  | false =>
  cases hb1 : p.nx.kind == 2 with
  | true =>
    simp only [hb1, hb0, cond_true, cond_false] at hz
    cases hz
    rw [hb0] at hq1
    rw [hb1] at hq2
    go_enter Tryz.func158, Tryz.ntmps158
    go_wp2_with fail
    refine HN.mono ?_
    rintro e w1 ⟨rfl, hb⟩
    have h1 := h0.up hb
    have hk1 := hk0.trans (KP.of_below hb)
    have hr1 := (KP.of_below (P := P) hb).heapEq hr0 (by omega)
    have HT := take2_any h1 2 (by decide) (z := .ok (p.nx, p.adv)) (by unfold tkK; rw [hb1]; rfl)
    clear h0 hk0 hr0 hb h1 HN HY
    go_wp2_with fail
    refine HT.mono ?_
    rintro e w2 ⟨v, rfl, rfl, h2, hj2⟩
    have hk2 := hk1.trans hj2
    have hr2 := hj2.heapEq hr1 (by omega)
    have HZ : Hid _ := leaf_fin hPl hTl hr2 h2 hk2 4 (p.nx.num) ([])
    obtain ⟨y0, y1, y2, y3, y4, f0, f1, f2, f3, f4⟩ := cells5 hr2
    clear h2 hk2 hr2 hj2 hk1 hr1 HT
    go_wp2
    refine bodyPost_ret (v := Value.agg #[Value.int IntKind.i64 4, Value.int IntKind.i64 p.nx.num, Value.string ⟨#[]⟩, Value.slice none 0 0, Value.slice none 0 0]) (res_one Tryz.results158 _ _ rfl HZ.out.2) rfl HZ.out.1
  | false =>
  cases hb2 : p.nx.kind == 3 with
  | true =>
    simp only [hb2, hb0, hb1, cond_true, cond_false] at hz
    cases hz
    rw [hb0] at hq1
    rw [hb1] at hq2
    rw [hb2] at hq3
    go_enter Tryz.func158, Tryz.ntmps158
    go_wp2_with fail
    refine HN.mono ?_
    rintro e w1 ⟨rfl, hb⟩
    have h1 := h0.up hb
    have hk1 := hk0.trans (KP.of_below hb)
    have hr1 := (KP.of_below (P := P) hb).heapEq hr0 (by omega)
    have HT := take2_any h1 3 (by decide) (z := .ok (p.nx, p.adv)) (by unfold tkK; rw [hb2]; rfl)
    clear h0 hk0 hr0 hb h1 HN HY
    go_wp2_with fail
    refine HT.mono ?_
    rintro e w2 ⟨v, rfl, rfl, h2, hj2⟩
    have hk2 := hk1.trans hj2
    have hr2 := hj2.heapEq hr1 (by omega)
    have HZ : Hid _ := leaf_fin hPl hTl hr2 h2 hk2 5 (0) (p.nx.text)
    obtain ⟨y0, y1, y2, y3, y4, f0, f1, f2, f3, f4⟩ := cells5 hr2
    clear h2 hk2 hr2 hj2 hk1 hr1 HT
    go_wp2
    refine bodyPost_ret (v := Value.agg #[Value.int IntKind.i64 5, Value.int IntKind.i64 0, Value.string (mkB p.nx.text), Value.slice none 0 0, Value.slice none 0 0]) (res_one Tryz.results158 _ _ rfl HZ.out.2) rfl HZ.out.1
  | false =>
  simp only [hb0, hb1, hb2, cond_false] at hz
  rw [hb0] at hq1
  rw [hb1] at hq2
  rw [hb2] at hq3
  go_enter Tryz.func158, Tryz.ntmps158
  go_wp2_with fail
  refine HN.mono ?_
  rintro e w1 ⟨rfl, hb⟩
  have h1 := h0.up hb
  have hk1 := hk0.trans (KP.of_below hb)
  have hr1 := (KP.of_below (P := P) hb).heapEq hr0 (by omega)
  have HD := HY.out w1 _ z h1 hz
  have hs1 : W.heap.size < w1.heap.size := (Array.getElem?_eq_some_iff.1 hr1).1
  clear h0 hk0 hr0 hb h1 HN HY hz
  go_wp2_with fail
  refine HD.mono ?_
  rintro e v1 hpo
  cases z with
  | error x =>
    obtain ⟨rfl, hk⟩ := bad_panic hpo hk1
    exact ⟨rfl, rfl, hk⟩
  | ok r =>
    obtain ⟨x, q⟩ := r
    obtain ⟨v, rfl, ⟨c, rfl, hx1⟩, hp1, hj1⟩ := hpo
    have hr2 := hj1.heapEq hr1 (by omega)
    obtain ⟨t2, i2, o2, l2, j2⟩ := fin5 hr2 rfl hx1
    have HZ : Hid (PoA P T (VE W.heap.size) W (.ok (x, q)) (.returned (.agg c.toArray)) (v1.setCells W.heap.size 0 c)) := poE_fin (by omega) hs1 hx1 hp1 (hk1.trans hj1) hPl hTl
    have HF : Hid (v1.there W.heap.size 0 c.toArray.size ∧ (Tryz.prog.info? 38).map (·.size) = some c.toArray.size ∧ c.toArray.all (·.oneCell') = true ∧ (loadVar 38 ⟨W.heap.size, 0, none⟩).run Tryz.prog (v1.setCells W.heap.size 0 c) = .ok (.agg c.toArray) (v1.setCells W.heap.size 0 c)) := ⟨t2, i2, o2, l2⟩
    clear t2 i2 o2 l2 j2 hx1 hp1 hj1 hr1 hr2 hk1 HD
    go_wp2_with (first
      | (refine wpList_store_mid rfl 38 (Operand.tmp 2) (Operand.tmp 25) rfl W.heap.size 0 c.toArray rfl rfl HF.out.1 HF.out.2.1 HF.out.2.2.1 ?_)
      | fail)
    refine bodyPost_ret (v := .agg c.toArray) (res_one Tryz.results158 _ _ rfl HF.out.2.2.2) rfl HZ.out
end Go.Proofs.YtcaeeackccgclaaGreatDoor

/- A step of a region whose order is drawn. -/
namespace Go.Proofs.YtcaeeackccgclaaGreatDoor
open Go.RowKit
theorem step_call {P : Program} {ops : Array Oper} {o : Oper} {a : Act} {w : World} {K : Act → World → Prop} {Q : Exit → Act → World → Prop} {E : Prop} (hg : o.guard = none) (h : Oper.wp P o a w K Q) : if Region.wanted o (yielded ops a.tmps) = true then Oper.wp P o a w K Q else E := by
  have hw : Region.wanted o (yielded ops a.tmps) = true := by simp [Region.wanted, hg]
  rw [if_pos hw]
  exact h
end Go.Proofs.YtcaeeackccgclaaGreatDoor
