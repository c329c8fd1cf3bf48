/- small, statement. -/
import Derived.Shelf.Strconv.Clone
import Derived.Laws.BytesString
import Derived.Laws.IdiomStrings
import Derived.Test.YtheiijnpggabkaaGreatDoorTie
import Derived.Test.YtheiijnpggabkaaGreatDoorCards
import Derived.ProofKit
import Derived.OpenShut
import Derived.ShutString
import Derived.ChangeOld
import Derived.Below
import Derived.Lay
import Derived.HandedShaped
import Derived.SevenTiedAt
import Derived.Stop.Joined
import Derived.Shelf.Vars
import Derived.Stop.LaidErr
import Derived.Deep.DeepHandedRow
import Derived.Lib.LaidTab
import Derived.Laws.Rows
import Derived.Test.YtheiijnpggabkaaGreatDoorTs8
namespace Go.Proofs.YtheiijnpggabkaaGreatDoor
open Go.RowKit Go.Shelf
attribute [local go_sem ↓] fld0 fld1 fld2 fld3

def MethS (P T Y : Nat) (m : Ps → Px Sm) : Prop := ∀ W p z, PsA P T W p → m p = some z → Calls Tryz.prog Y #[pt P] W (PoA P T (VS W.heap.size) W z)
theorem sees_one {P T : Nat} {w : World} {p : Ps} (h : PsA P T w p) (x : List UInt8) :
    Calls Tryz.prog 44 #[pt P, .slice (some ⟨w.heap.size, 0, none⟩) 1 1] (w.alloc (.cells #[.string (mkB x)] 9)) fun e w' => e = .returned (.bool (p.sees [x])) ∧ KP P w w' ∧ PsA P T w' p := by
  have h2 := h.up (alB w (.cells #[.string (mkB x)] 9))
  refine (seesSign_any h2 (SgA.new P w [x] (by simp) h.lt)).mono ?_
  rintro e w' ⟨a, b⟩
  exact ⟨a, (KP.al P w _).trans (KP.of_below b), h2.up b⟩
theorem sees_no {P T : Nat} {w : World} {p : Ps} (h : PsA P T w p) {x : List UInt8} (hb : p.sees [x] = false) :
    Calls Tryz.prog 44 #[pt P, .slice (some ⟨w.heap.size, 0, none⟩) 1 1] (w.alloc (.cells #[.string (mkB x)] 9)) fun e w' => e = .returned (.bool false) ∧ KP P w w' ∧ PsA P T w' p := by
  have := sees_one h x
  rwa [hb] at this

set_option maxHeartbeats 8000000 in
set_option maxRecDepth 100000 in
theorem small_any {P T : Nat} {E : Ps → Px Ex} (hE : MethC P T 75 E) : MethS P T 48 (smlF E) := by
  intro W p z h hz
  have hPl := h.lt
  have hTl := h.ltT
  have h0 := h.up (alB W sz)
  have hk0 := KP.al P W sz
  have hr0 := heap_alloc_new W sz
  have HE : Hid (MethC P T 75 E) := hE
  unfold smlF at hz
  clear h hE
  cases hb0 : p.sees [[112, 97, 115, 115]] with
  | true => simp only [hb0, cond_true] at hz; cases hz
  | false =>
  cases hb1 : p.sees [[114, 101, 116, 117, 114, 110]] with
  | true => simp only [hb0, hb1, cond_true, cond_false] at hz; cases hz
  | false =>
  cases hb2 : p.sees [[108, 111, 97, 100]] with
  | true => simp only [hb0, hb1, hb2, cond_true, cond_false] at hz; cases hz
  | false =>
  cases hb3 : sSet p with
  | false => simp only [hb0, hb1, hb2, hb3, cond_false] at hz; cases hz
  | true =>
  simp only [hb0, hb1, hb2, hb3, cond_true, cond_false] at hz
  go_enter Tryz.func48, Tryz.ntmps48
  go_wp2_with fail
  refine (passSign_no h0 (x := [112, 97, 115, 115]) hb0).mono ?_
  rintro e w1 ⟨rfl, hj1, h1⟩
  have hk1 := hk0.trans hj1
  have hr1 := hj1.heapEq hr0 (by omega)
  clear h0 hj1 hr0 hk0
  go_wp2_with fail
  refine (sees_no h1 (x := [114, 101, 116, 117, 114, 110]) hb1).mono ?_
  rintro e w2 ⟨rfl, hj2, h2⟩
  have hk2 := hk1.trans hj2
  have hr2 := hj2.heapEq hr1 (by omega)
  clear h1 hj2 hr1 hk1
  go_wp2_with fail
  refine (sees_no h2 (x := [108, 111, 97, 100]) hb2).mono ?_
  rintro e w3 ⟨rfl, hj3, h3⟩
  have hk3 := hk2.trans hj3
  have hr3 := hj3.heapEq hr2 (by omega)
  clear h2 hj3 hr2 hk2
  have HSe := seesSet_any h3
  rw [hb3] at HSe
  go_wp2_with fail
  refine HSe.mono ?_
  rintro e w4 ⟨rfl, hbel⟩
  have h4 := h3.up hbel
  have hk4 := hk3.trans (KP.of_below (P := P) hbel)
  have hr4 := (KP.of_below (P := P) hbel).heapEq hr3 (by omega)
  clear h3 hr3 hk3 HSe hbel
  unfold setS at hz
  rcases bnd_some hz with ⟨x, hx, rfl⟩ | ⟨t, q5, hx, hz5⟩
  · have HT := take2_any h4 1 (by decide) hx
    go_wp2_with fail
    refine HT.mono ?_
    rintro e v1 hpo
    obtain ⟨rfl, hk⟩ := bad_panic hpo hk4
    exact ⟨rfl, rfl, hk⟩
  have HT := take2_any h4 1 (by decide) hx
  go_wp2_with fail
  refine HT.mono ?_
  rintro e w5 ⟨v, rfl, rfl, h5, hj5⟩
  have hk5 := hk4.trans hj5
  have hr5 := hj5.heapEq hr4 (by omega)
  clear h4 hj5 hr4 hk4 HT hz hx
  rcases bnd_some hz5 with ⟨x, hx, rfl⟩ | ⟨_, q6, hx, hz6⟩
  · have HT := takeSign_any h5 [61] hx
    go_wp2_with fail
    refine HT.mono ?_
    rintro e v1 hpo
    obtain ⟨rfl, hk⟩ := bad_panic hpo hk5
    exact ⟨rfl, rfl, hk⟩
  have HT := takeSign_any h5 [61] hx
  go_wp2_with fail
  refine HT.mono ?_
  rintro e w6 ⟨v, rfl, rfl, h6, hj6⟩
  have hk6 := hk5.trans hj6
  have hr6 := hj6.heapEq hr5 (by omega)
  have hs6 : W.heap.size < w6.heap.size := (Array.getElem?_eq_some_iff.1 hr6).1
  clear h5 hj6 hr5 hk5 HT hz5 hx
  rcases bnd_some hz6 with ⟨x, hx, rfl⟩ | ⟨y, q7, hx, hz7⟩
  · have HD := HE.out w6 _ _ h6 hx
    go_wp2_with fail
    refine HD.mono ?_
    rintro e v1 hpo
    obtain ⟨rfl, hk⟩ := bad_panic hpo hk6
    exact ⟨rfl, rfl, hk⟩
  have HD := HE.out w6 _ _ h6 hx
  cases hz7
  go_wp2_with fail
  refine HD.mono ?_
  rintro e w7 ⟨v, rfl, ⟨c, rfl, hx7⟩, h7, hj7⟩
  have hk7 := hk6.trans hj7
  have hr7 := hj7.heapEq hr6 (by omega)
  obtain ⟨b1, d1, b2, d2, hc7⟩ := hx7.form
  subst hc7
  have hsm := SmA.small hx7 3 t.text
  obtain ⟨t9, i9, o9, l9, j9⟩ := fin10 hr7 rfl hsm
  have HZ : Hid _ := poS_fin (Nat.le_refl W.heap.size) hsm (fun g hg => ⟨by omega, by omega⟩) h7 hk7 hPl hTl
  have HL : Hid _ := (⟨t9, i9, o9, l9⟩ : _ ∧ _ ∧ _ ∧ _)
  clear h7 hk7 hr7 hj7 hx7 hsm t9 i9 o9 l9 j9 HD HE hk6 hr6 h6 hx hz6
  go_wp2_with (first
    | (refine wpList_store_mid rfl 43 (Operand.tmp 2) (Operand.tmp 31) rfl W.heap.size 0 (Value.int IntKind.i64 (3 : Nat) :: sv t.text :: Value.slice none 0 0 :: ([Value.int IntKind.i64 y.kind, Value.int IntKind.i64 y.num, Value.string (mkB y.text), Value.slice b1 y.kids.length d1, Value.slice b2 y.names.length d2] ++ [Value.slice none 0 0, Value.slice none 0 0])).toArray rfl rfl HL.out.1 HL.out.2.1 HL.out.2.2.1 ?_)
    | fail)
  refine bodyPost_ret (v := .agg (Value.int IntKind.i64 (3 : Nat) :: sv t.text :: Value.slice none 0 0 :: ([Value.int IntKind.i64 y.kind, Value.int IntKind.i64 y.num, Value.string (mkB y.text), Value.slice b1 y.kids.length d1, Value.slice b2 y.names.length d2] ++ [Value.slice none 0 0, Value.slice none 0 0])).toArray) (res_one Tryz.results48 _ _ rfl HL.out.2.2.2) rfl HZ.out

theorem var10 {w1 : World} {S : Nat → Prop} {x : Sm} {c : List Value} (h : SmA w1 S x c) : (w1.alloc sz).there w1.heap.size 0 c.toArray.size ∧ ((w1.alloc sz).setCells w1.heap.size 0 c).rangeAt w1.heap.size 0 c ∧ SmA ((w1.alloc sz).setCells w1.heap.size 0 c) (fun g => S g ∧ g < w1.heap.size) x c ∧ (∀ g, g < w1.heap.size → ((w1.alloc sz).setCells w1.heap.size 0 c).heap[g]? = w1.heap[g]?) := by
  have hr : (w1.alloc sz).heap[w1.heap.size]? = some sz := heap_alloc_new w1 _
  have hla : c.toArray.size = 10 := h.len
  have ht : (w1.alloc sz).there w1.heap.size 0 c.toArray.size := by rw [hla]; exact there_of hr
  have hg : ∀ g, g < w1.heap.size → ((w1.alloc sz).setCells w1.heap.size 0 c).heap[g]? = w1.heap[g]? := fun g hg => (heap_sets _ c 0 _ g (by omega)).trans (heap_al w1 _ g hg)
  exact ⟨ht, World.rangeAt_setCells_same _ _ _ _ ht, h.keep (fun g _ hg2 => hg g hg2) (fun g h1 h2 => ⟨h1, h2⟩), hg⟩
theorem range_keep {w w' : World} {b : Nat} {c : List Value} (h : w.rangeAt b 0 c) (hk : w'.heap[b]? = w.heap[b]?) : w'.rangeAt b 0 c := fun j v hv => by
  rw [← h j v hv]
  simp [World.cell?, hk]

set_option maxHeartbeats 8000000 in
set_option maxRecDepth 100000 in
theorem statement_any {P T : Nat} {E : Ps → Px Ex} (hSm : MethS P T 48 (smlF E)) : MethS P T 30 (stmF E) := by
  intro W p z h hz
  have hPl := h.lt
  have hTl := h.ltT
  have h0 := h.up (alB W sz)
  have hk0 := KP.al P W sz
  have hr0 := heap_alloc_new W sz
  have HE : Hid (MethS P T 48 (smlF E)) := hSm
  unfold stmF at hz
  clear h hSm
  cases hb0 : p.sees [[105, 102]] with
  | true => simp only [hb0, cond_true] at hz; cases hz
  | false =>
  cases hb1 : p.sees [[102, 111, 114]] with
  | true => simp only [hb0, hb1, cond_true, cond_false] at hz; cases hz
  | false =>
  cases hb2 : p.sees [[100, 101, 102]] with
  | true => simp only [hb0, hb1, hb2, cond_true, cond_false] at hz; cases hz
  | false =>
  simp only [hb0, hb1, hb2, cond_false] at hz
  go_enter Tryz.func30, Tryz.ntmps30
  have HS0 := sees_no h0 (x := [105, 102]) hb0
  rw [World.size_alloc] at HS0
  go_wp2_with fail
  refine HS0.mono ?_
  rintro e w1 ⟨rfl, hj1, h1⟩
  have hk1 := hk0.trans hj1
  have hr1 := hj1.heapEq hr0 (by omega)
  clear h0 hj1 hr0 hk0 HS0
  go_wp2_with fail
  refine (sees_no h1 (x := [102, 111, 114]) hb1).mono ?_
  rintro e w2 ⟨rfl, hj2, h2⟩
  have hk2 := hk1.trans hj2
  have hr2 := hj2.heapEq hr1 (by omega)
  clear h1 hj2 hr1 hk1
  go_wp2_with fail
  refine (sees_no h2 (x := [100, 101, 102]) hb2).mono ?_
  rintro e w3 ⟨rfl, hj3, h3⟩
  have hk3 := hk2.trans hj3
  have hr3 := hj3.heapEq hr2 (by omega)
  have hs3 : W.heap.size < w3.heap.size := (Array.getElem?_eq_some_iff.1 hr3).1
  clear h2 hj3 hr2 hk2
  rcases bnd_some hz with ⟨x, hx, rfl⟩ | ⟨x, q4, hx, hz4⟩
  · have HD := HE.out w3 _ _ h3 hx
    go_wp2_with fail
    refine HD.mono ?_
    rintro e v1 hpo
    obtain ⟨rfl, hk⟩ := bad_panic hpo hk3
    exact ⟨rfl, rfl, hk⟩
  have HD := HE.out w3 _ _ h3 hx
  go_wp2_with fail
  refine HD.mono ?_
  rintro e w7 ⟨v, rfl, ⟨c, rfl, hx7⟩, h7, hj7⟩
  have hk7 := hk3.trans hj7
  have hr7 := hj7.heapEq hr3 (by omega)
  have hs7 : W.heap.size < w7.heap.size := (Array.getElem?_eq_some_iff.1 hr7).1
  obtain ⟨t1, r1, x1, g1⟩ := var10 hx7
  obtain ⟨-, i1, o1, -, j1⟩ := fin10 hr7 rfl hx7
  have HF : Hid ((w7.alloc sz).there w7.heap.size 0 c.toArray.size ∧ (Tryz.prog.info? 43).map (·.size) = some c.toArray.size ∧ c.toArray.all (·.oneCell') = true) := ⟨t1, i1, o1⟩
  have hA : PsA P T ((w7.alloc sz).setCells w7.heap.size 0 c) q4 := h7.keep (g1 P (by omega)) (g1 T (by omega))
  have HA : Hid (KP P W ((w7.alloc sz).setCells w7.heap.size 0 c) ∧ ((w7.alloc sz).setCells w7.heap.size 0 c).rangeAt w7.heap.size 0 c ∧ ((w7.alloc sz).setCells w7.heap.size 0 c).heap[W.heap.size]? = some sz ∧ SmA ((w7.alloc sz).setCells w7.heap.size 0 c) (fun g => w3.heap.size ≤ g ∧ g < w7.heap.size) x c ∧ ((w7.alloc sz).setCells w7.heap.size 0 c).heap.size = w7.heap.size + 1) := ⟨hk7.trans ((KP.al P w7 sz).sets (by omega) c), r1, (g1 _ hs7).trans hr7, x1, by rw [size_sets, World.size_alloc]⟩
  clear t1 r1 x1 g1 i1 o1 j1 hk7 hr7 hj7 h7 hx7 HD hx hz HE hk3 hr3 h3
  rcases bnd_some hz4 with ⟨y, hy, rfl⟩ | ⟨_, q8, hy, hz8⟩
  · have HT := take2_any hA 6 (by decide) hy
    clear hA
    go_wp2_with (first
      | (refine wpList_store_mid rfl 43 (Operand.tmp 3) (Operand.tmp 23) rfl w7.heap.size 0 c.toArray rfl rfl HF.out.1 HF.out.2.1 HF.out.2.2 ?_)
      | fail)
    refine HT.mono ?_
    rintro e v1 hpo
    obtain ⟨rfl, hk⟩ := bad_panic hpo HA.out.1
    exact ⟨rfl, rfl, hk⟩
  have HT := take2_any hA 6 (by decide) hy
  cases hz8
  clear hA
  go_wp2_with (first
    | (refine wpList_store_mid rfl 43 (Operand.tmp 3) (Operand.tmp 23) rfl w7.heap.size 0 c.toArray rfl rfl HF.out.1 HF.out.2.1 HF.out.2.2 ?_)
    | fail)
  refine HT.mono ?_
  rintro e w8 ⟨v, rfl, rfl, h8, hj8⟩
  have hev8 : w8.rangeAt w7.heap.size 0 c := range_keep HA.out.2.1 (hj8.blk _ (by have := HA.out.2.2.2.2; omega) (by omega))
  have hr8 := hj8.heapEq HA.out.2.2.1 (by omega)
  have hx8 : SmA w8 (fun g => w3.heap.size ≤ g ∧ g < w7.heap.size) x c := HA.out.2.2.2.1.keep (fun g hg hg2 => hj8.blk g hg2 (by omega)) (fun g hg _ => hg)
  obtain ⟨t2, i2, o2, l2, j2⟩ := fin10 hr8 rfl hx8
  have HZ : Hid (PoA P T (VS W.heap.size) W (.ok (x, q8)) (.returned (.agg c.toArray)) (w8.setCells W.heap.size 0 c)) := poS_fin (Nat.le_refl _) hx8 (fun g hg => ⟨by omega, by omega⟩) h8 (HA.out.1.trans hj8) hPl hTl
  have HG : Hid (w8.rangeAt w7.heap.size 0 c ∧ (Tryz.prog.info? 43).map (·.size) = some c.length ∧ w8.there W.heap.size 0 c.toArray.size ∧ (Tryz.prog.info? 43).map (·.size) = some c.toArray.size ∧ c.toArray.all (·.oneCell') = true ∧ (loadVar 43 ⟨W.heap.size, 0, none⟩).run Tryz.prog (w8.setCells W.heap.size 0 c) = .ok (.agg c.toArray) (w8.setCells W.heap.size 0 c)) := ⟨hev8, j2, t2, i2, o2, l2⟩
  clear t2 i2 o2 l2 j2 hx8 hr8 hev8 h8 hj8 HA HF HT
  go_wp2_with (first
    | (refine wpList_load_mid rfl 43 (Operand.tmp 3) rfl w7.heap.size 0 rfl c _ HG.out.1 Tryz.underlying43 rfl HG.out.2.1 ?_)
    | (refine wpList_store_mid rfl 43 (Operand.tmp 2) (Operand.tmp 26) rfl W.heap.size 0 c.toArray rfl rfl HG.out.2.2.1 HG.out.2.2.2.1 HG.out.2.2.2.2.1 ?_)
    | fail)
  refine bodyPost_ret (v := .agg c.toArray) (res_one Tryz.results30 _ _ rfl HG.out.2.2.2.2.2) rfl HZ.out
end Go.Proofs.YtheiijnpggabkaaGreatDoor

/- source: all statements. -/
namespace Go.Proofs.YtheiijnpggabkaaGreatDoor
open Go.RowKit Go.Shelf
attribute [local go_sem ↓] fld0 fld1 fld2 fld3

theorem infSt : (Tryz.prog.info? 43).map (fun i => (i.zero, i.size, i.bytes)) = some (some (.agg #[.int .i64 0, .string ⟨#[]⟩, .slice none 0 0, .int .i64 0, .int .i64 0, .string ⟨#[]⟩, .slice none 0 0, .slice none 0 0, .slice none 0 0, .slice none 0 0]), 10, 176) := by kernel_rfl
/-- Statements as a row; what they have lies elsewhere. -/
structure RwS (n : Nat) (w : World) (l : List Sm) (v : Value) (vs : List (List Value)) : Prop where
  row : w.ownsRow n 43 10 v l.length vs.flatten
  fa : Fa (SmA w (fun g => n ≤ g ∧ v.ownBlock ≠ some g)) l vs
theorem RwS.keep {n : Nat} {w w' : World} {l : List Sm} {v : Value} {vs : List (List Value)} (h : RwS n w l v vs) (hk : ∀ g, n ≤ g → g < w.heap.size → w'.heap[g]? = w.heap[g]?) : RwS n w' l v vs :=
  ⟨own_heap h.row fun g hg => hk g (h.row.lt g hg).1 (h.row.lt g hg).2, h.fa.mono fun _ _ f => f.keep (fun g hg hg2 => hk g hg.1 hg2) (fun _ hg _ => hg)⟩
theorem RwS.push {n : Nat} {X w2 : World} {l : List Sm} {v : Value} {vs : List (List Value)} (h : RwS n X l v vs) {y : Sm} {cy : List Value} (hy : SmA X (fun g => n ≤ g ∧ v.ownBlock ≠ some g) y cy)
    {g' cap' : Nat} (hgrow : X.grownBy w2 v.ownBlock) (hat : v.ownBlock = some g' ∨ g' = X.heap.size) (hrow : w2.ownsRow n 43 10 (.slice (some ⟨g', 0, none⟩) (l.length + 1) cap') (l.length + 1) (vs.flatten ++ cy)) :
    RwS n w2 (l ++ [y]) (.slice (some ⟨g', 0, none⟩) (l.length + 1) cap') (vs ++ [cy]) := by
  have hgo : ∀ g, g < X.heap.size → v.ownBlock ≠ some g → g ≠ g' := fun g h1 h2 e => by
    rcases hat with h3 | h3
    · exact h2 (by rw [h3, e])
    · omega
  have hS : ∀ (x : Sm) (c : List Value), SmA X (fun g => n ≤ g ∧ v.ownBlock ≠ some g) x c → SmA w2 (fun g => n ≤ g ∧ (Value.slice (some ⟨g', 0, none⟩) (l.length + 1) cap').ownBlock ≠ some g) x c := fun x c hx => hx.keep (fun g hg hg2 => hgrow.block g hg2 fun e => hg.2 e.symm) (fun g hg hg2 => ⟨hg.1, fun e => by
    have e2 : g' = g := by simpa [Value.ownBlock] using e
    exact hgo g hg2 hg.2 e2.symm⟩)
  exact ⟨by simpa using hrow, (h.fa.mono fun _ _ f => hS _ _ f).snoc (hS _ _ hy)⟩
theorem KP.trans' {P : Nat} {a b c : World} (h : KP P a b) {row : Option Nat} (k : b.grownBy c row) (hr : ∀ g, g < a.heap.size → some g ≠ row) : KP P a c := ⟨k.os.trans h.os, k.tape.trans h.tape, k.output.trans h.output, Nat.le_trans h.size k.size, fun g hg hp => (k.block g (Nat.lt_of_lt_of_le hg h.size) (hr g hg)).trans (h.blk g hg hp)⟩
def VL (n : Nat) (w : World) (l : List Sm) (v : Value) : Prop := ∃ vs, RwS n w l v vs
def SoI (P T n : Nat) (w : World) (E : Ps → Px Ex) (z : Except Ft (List Sm × Ps)) (v : Value) (wr : World) : Prop := ∃ l p f vs, srcL E f l p = some z ∧ PsA P T wr p ∧ KP P w wr ∧ RwS n wr l v vs

set_option maxHeartbeats 8000000 in
set_option maxRecDepth 100000 in
theorem source_any {P T : Nat} {E : Ps → Px Ex} (hSt : MethS P T 30 (stmF E)) (W : World) (p : Ps) (z : Except Ft (List Sm × Ps)) (h : PsA P T W p) (hz : srcF E p = some z) :
    Calls Tryz.prog 23 #[pt P] W (PoA P T (VL W.heap.size) W z) := by
  obtain ⟨i0, hi, hz0, hz1, hz2⟩ := info_p infSt
  have hPl := h.lt
  have hTl := h.ltT
  have HE : Hid (MethS P T 30 (stmF E)) := hSt
  have HJ : Hid (SoI P T W.heap.size W E z (.slice none 0 0) W) := ⟨[], p, _, [], hz, h, KP.refl P W, World.ownsRow_nil _ _ _ _, trivial⟩
  clear h hz hSt
  go_enter Tryz.func23, Tryz.ntmps23
  go_wp2
  go_loopw [3] (fun u wr => ∃ v : Value, u = v ∧ Hid (SoI P T W.heap.size W E z v wr)) (fun _ wr => tkLen P wr)
  case atStart => exact ⟨_, rfl, HJ⟩
  case round =>
    obtain ⟨v, rfl, hrel⟩ := hrel
    obtain ⟨l, p', f, vs, hj, hps, hk, hrw⟩ := hrel.out
    obtain ⟨ao, cp, rfl⟩ := row_shape hrw.row
    clear hrel HJ
    cases f with
    | zero => cases hj
    | succ f =>
    unfold srcL at hj
    have htk := hps.tk
    obtain ⟨a, c, c0, _⟩ := hps.cells
    by_cases hl0 : p'.toks.length = 0
    · rw [show decide (p'.toks.length = 0) = true from by simpa using hl0] at hj
      cases hj
      rw [hl0] at c0
      have HZ : Hid (PoA P T (VL W.heap.size) W (.ok (l, p')) (.returned (.slice ao l.length cp)) wr) := ⟨_, rfl, ⟨vs, hrw⟩, hps, hk⟩
      clear hps hk hrw
      go_wp2
      go_ret
      exact HZ.out
    · rw [show decide (p'.toks.length = 0) = false from by simpa using hl0] at hj
      replace hj : iff (decide (l.length < 1000000)) (bnd (stmF E p') fun s q => iff (less q p') (srcL E f (l ++ [s]) q)) = some z := hj
      obtain ⟨hn, hj2⟩ := iff_some hj
      have hn1 : l.length < 1000000 := of_decide_eq_true hn
      have hpos : (0 : Int) < (p'.toks.length : Int) := by omega
      clear hj hn
      rcases bnd_some hj2 with ⟨x, hx, rfl⟩ | ⟨y, q, hx, hq⟩
      · have HD := HE.out wr _ _ hps hx
        clear hps hrw hx hj2
        go_wp2_with (go_at_call 30; refine HD.mono ?_; rintro e1 w1 hpo; obtain ⟨rfl, hk1⟩ := bad_panic hpo hk)
        exact ⟨rfl, rfl, hk1⟩
      · have HD := HE.out wr _ _ hps hx
        obtain ⟨hle, hj3⟩ := iff_some hq
        have hle2 : q.toks.length < p'.toks.length := of_decide_eq_true hle
        clear hx hj2 hq hle
        go_wp2_with fail
        refine HD.mono ?_
        rintro e1 w1 ⟨v1, rfl, ⟨cy, rfl, hy1⟩, hp1, hk1⟩
        obtain ⟨a0, k0, a1, k1, a2, k2, a3, k3, a4, k4, hcy⟩ := hy1.form
        have hlo : W.heap.size ≤ wr.heap.size := hk.size
        have hob := fun g (hg : (Value.slice ao l.length cp).ownBlock = some g) => (hrw.row.lt g hg).2
        have hrw1 := hrw.keep (w' := w1) (fun g hg hg2 => hk1.blk g hg2 (by omega))
        have hyS : SmA w1 (fun g => W.heap.size ≤ g ∧ (Value.slice ao l.length cp).ownBlock ≠ some g) y cy := hy1.mono (fun g hg _ => ⟨by omega, fun e => by have := hob g e; omega⟩)
        subst hcy
        have hkX : KP P W (w1.alloc (.cells #[.int .i64 y.kind, .string (mkB y.text), .slice a0 y.names.length k0, .int .i64 y.ex.kind, .int .i64 y.ex.num, .string (mkB y.ex.text), .slice a1 y.ex.kids.length k1, .slice a2 y.ex.names.length k2, .slice a3 y.body.length k3, .slice a4 y.els.length k4] 43)) := (hk.trans hk1).trans (KP.al P w1 _)
        have HX : Hid (RwS W.heap.size (w1.alloc (.cells #[.int .i64 y.kind, .string (mkB y.text), .slice a0 y.names.length k0, .int .i64 y.ex.kind, .int .i64 y.ex.num, .string (mkB y.ex.text), .slice a1 y.ex.kids.length k1, .slice a2 y.ex.names.length k2, .slice a3 y.body.length k3, .slice a4 y.els.length k4] 43)) l (.slice ao l.length cp) vs ∧ SmA (w1.alloc (.cells #[.int .i64 y.kind, .string (mkB y.text), .slice a0 y.names.length k0, .int .i64 y.ex.kind, .int .i64 y.ex.num, .string (mkB y.ex.text), .slice a1 y.ex.kids.length k1, .slice a2 y.ex.names.length k2, .slice a3 y.body.length k3, .slice a4 y.els.length k4] 43)) (fun g => W.heap.size ≤ g ∧ (Value.slice ao l.length cp).ownBlock ≠ some g) y ([.int .i64 y.kind, .string (mkB y.text), .slice a0 y.names.length k0, .int .i64 y.ex.kind, .int .i64 y.ex.num, .string (mkB y.ex.text), .slice a1 y.ex.kids.length k1, .slice a2 y.ex.names.length k2, .slice a3 y.body.length k3, .slice a4 y.els.length k4] : List Value) ∧ PsA P T (w1.alloc (.cells #[.int .i64 y.kind, .string (mkB y.text), .slice a0 y.names.length k0, .int .i64 y.ex.kind, .int .i64 y.ex.num, .string (mkB y.ex.text), .slice a1 y.ex.kids.length k1, .slice a2 y.ex.names.length k2, .slice a3 y.body.length k3, .slice a4 y.els.length k4] 43)) q ∧ KP P W (w1.alloc (.cells #[.int .i64 y.kind, .string (mkB y.text), .slice a0 y.names.length k0, .int .i64 y.ex.kind, .int .i64 y.ex.num, .string (mkB y.ex.text), .slice a1 y.ex.kids.length k1, .slice a2 y.ex.names.length k2, .slice a3 y.body.length k3, .slice a4 y.els.length k4] 43))) := ⟨hrw1.keep (fun g _ hg2 => heap_al w1 _ g hg2), hyS.keep (fun g _ hg2 => heap_al w1 _ g hg2) (fun _ hg _ => hg), hp1.up (alB _ _), hkX⟩
        have hsX : W.heap.size ≤ (w1.alloc (.cells #[.int .i64 y.kind, .string (mkB y.text), .slice a0 y.names.length k0, .int .i64 y.ex.kind, .int .i64 y.ex.num, .string (mkB y.ex.text), .slice a1 y.ex.kids.length k1, .slice a2 y.ex.names.length k2, .slice a3 y.body.length k3, .slice a4 y.els.length k4] 43)).heap.size := hkX.size
        have hnews : ∀ (j : Nat) (u : Value), ([.int .i64 y.kind, .string (mkB y.text), .slice a0 y.names.length k0, .int .i64 y.ex.kind, .int .i64 y.ex.num, .string (mkB y.ex.text), .slice a1 y.ex.kids.length k1, .slice a2 y.ex.names.length k2, .slice a3 y.body.length k3, .slice a4 y.els.length k4] : List Value)[j]? = some u → (w1.alloc (.cells #[.int .i64 y.kind, .string (mkB y.text), .slice a0 y.names.length k0, .int .i64 y.ex.kind, .int .i64 y.ex.num, .string (mkB y.ex.text), .slice a1 y.ex.kids.length k1, .slice a2 y.ex.names.length k2, .slice a3 y.body.length k3, .slice a4 y.els.length k4] 43)).cell? ((⟨w1.heap.size, 0, none⟩ : Addr).add j) = some u := fun j u hu => World.news_of_block (heap_alloc_new w1 _) j u hu
        have hone := hyS.one
        clear hyS hrw1 hob hlo hy1 hp1 hk1 hrw hps hk HD hkX
        go_wp2_with (first
          | (refine wpList_append_lies (w1.alloc (.cells #[.int .i64 y.kind, .string (mkB y.text), .slice a0 y.names.length k0, .int .i64 y.ex.kind, .int .i64 y.ex.num, .string (mkB y.ex.text), .slice a1 y.ex.kids.length k1, .slice a2 y.ex.names.length k2, .slice a3 y.body.length k3, .slice a4 y.els.length k4] 43)) (by rfl) (Operand.tmp 10) (Operand.tmp 13) 33 (by rfl) W.heap.size 43 i0 (.agg #[.int .i64 0, .string ⟨#[]⟩, .slice none 0 0, .int .i64 0, .int .i64 0, .string ⟨#[]⟩, .slice none 0 0, .slice none 0 0, .slice none 0 0, .slice none 0 0]) 10 176 Tryz.underlying33 hi hz0 hz1 hz2 rfl (by decide) (.slice ao l.length cp) l.length vs.flatten (by rfl) HX.out.1.row ⟨w1.heap.size, 0, none⟩ 1 1 ([.int .i64 y.kind, .string (mkB y.text), .slice a0 y.names.length k0, .int .i64 y.ex.kind, .int .i64 y.ex.num, .string (mkB y.ex.text), .slice a1 y.ex.kids.length k1, .slice a2 y.ex.names.length k2, .slice a3 y.body.length k3, .slice a4 y.els.length k4] : List Value) (by rfl) rfl hnews hone (by decide) (by unfold maxLen; omega) (by omega) hsX (w1.alloc (.cells #[.int .i64 y.kind, .string (mkB y.text), .slice a0 y.names.length k0, .int .i64 y.ex.kind, .int .i64 y.ex.num, .string (mkB y.ex.text), .slice a1 y.ex.kids.length k1, .slice a2 y.ex.names.length k2, .slice a3 y.body.length k3, .slice a4 y.els.length k4] 43)).heap.size rfl ?_; intro g' cap' w2 hown2 hgrow hat hltg)
          | fail)
        have hPn : (Value.slice ao l.length cp).ownBlock ≠ some P := fun e => by have := (HX.out.1.row.lt P e).1; omega
        have hTn : (Value.slice ao l.length cp).ownBlock ≠ some T := fun e => by have := (HX.out.1.row.lt T e).1; omega
        have hp2 : PsA P T w2 q := HX.out.2.2.1.keep (hgrow.block P HX.out.2.2.1.lt (fun e => hPn e.symm)) (hgrow.block T HX.out.2.2.1.ltT (fun e => hTn e.symm))
        have hk2 : KP P W w2 := HX.out.2.2.2.trans' hgrow (fun g hg e => by have := (HX.out.1.row.lt g e.symm).1; omega)
        have HJ : Hid (SoI P T W.heap.size W E z (.slice (some ⟨g', 0, none⟩) (l.length + 1) cap') w2) := ⟨l ++ [y], q, f, _, hj3, hp2, hk2, HX.out.1.push HX.out.2.1 hgrow hat hown2⟩
        have htk2 := hp2.tk
        refine ⟨⟨_, rfl, HJ⟩, by rw [htk2, htk]; exact hle2⟩
end Go.Proofs.YtheiijnpggabkaaGreatDoor

/- The writer: statements. -/
namespace Go.Proofs.YtheiijnpggabkaaGreatDoor
open Go.RowKit Go.Shelf

/-- Expressions, whole. -/
theorem exprW_any : ∀ m, ExC 54 m
  | 0 => fun _ _ _ _ _ _ _ _ _ h => by cases h
  | m + 1 => fun B b n x out l w S c hx h hB hg ht he hS hlen => by
    have ih := exprW_any m
    unfold wE at hx
    cases h4 : (x.kind == 4 && decide (x.num ≤ 1000000)) with
    | true =>
      rw [h4] at hx
      cases hx
      simp at h4
      exact exprI_any h4.1 h4.2 h hB hg ht he hlen
    | false =>
    rw [h4] at hx
    cases h7 : (x.kind == 7 && decide (x.kids.length ≤ 1000000)) with
    | true =>
      rw [h7] at hx
      simp at h7
      cases hw : wL (wE m) true x.kids with
      | none => rw [hw] at hx; cases hx
      | some a =>
        rw [hw] at hx
        cases hx
        simp at hlen
        refine exprM_any (by omega) h hB hg ht he fun V hV hBV htV heV => ?_
        exact madeL_any ih h7.1 hw hV hBV hg htV heV hS h7.2 (by omega)
    | false =>
    rw [h7] at hx
    cases h11 : (x.kind == 11) with
    | false => rw [h11] at hx; cases hx
    | true =>
      rw [h11] at hx
      simp at h11
      match hk : x.kids, hx with
      | [y, z], hx =>
        simp only [cond_true, cond_false] at hx
        cases hy : decide (y.kind < 12) with
        | false => rw [hy] at hx; cases hx
        | true =>
        rw [hy] at hx
        cases h1 : wE m y with
        | none => rw [h1] at hx; cases hx
        | some u =>
        cases h2 : wE m z with
        | none => rw [h1, h2] at hx; cases hx
        | some v =>
          rw [h1, h2] at hx
          cases hx
          simp at hlen hy
          refine exprM_any (by omega) h hB hg ht he fun V hV hBV htV heV => ?_
          exact madeI_any ih h11 hk hy h1 h2 hV hBV hg htV heV hS (by omega)

set_option maxHeartbeats 2000000 in
set_option maxRecDepth 100000 in
theorem repeat0 (s : ByteArray) (w : World) : Calls Tryz.prog 31 #[.string s, .int .i64 0] w fun e w' => e = .returned (.string ⟨#[]⟩) ∧ w' = w := by
  go_enter Tryz.func31, Tryz.ntmps31
  go_wp2
  go_ret
  exact ⟨rfl, rfl⟩

theorem WrIs.c2 {B b : Nat} {n : Int} {bs : List Value} {w : World} (h : WrIs B b n bs w) : w.cell? ⟨b, 2, none⟩ = some (.int .i64 n) := by
  rcases h with ⟨_, v, h1, _⟩ | ⟨_, v, h1, _⟩ <;> (rw [Lib.cell_of_heap h1]; rfl)

set_option maxHeartbeats 4000000 in
set_option maxRecDepth 100000 in
theorem begin_any {B b : Nat} {l : List UInt8} {w : World} (h : WrIs B b 0 (Lib.byteCells l) w) (hB : B ≤ w.heap.size) (hlen : l.length ≤ 1000000000) :
    Calls Tryz.prog 24 #[pt b] w (WpO B b 0 l w) := by
  have c2 := h.c2
  have HR : Hid (Calls Tryz.prog 31 #[.string ⟨#[32, 32, 32, 32]⟩, .int .i64 0] w.drew fun e w' => e = .returned (.string ⟨#[]⟩) ∧ w' = w.drew) := repeat0 _ _
  have HW : Hid (Calls Tryz.prog 18 #[pt b, .string ⟨#[]⟩] w.drew fun e w' => e = .returned (.tuple #[.int .i64 (0 : Nat), .nilIface]) ∧ WrIs B b 0 (Lib.byteCells l) w' ∧ Kp B b w w' ∧ B ≤ w'.heap.size) := (ws_any (w := w.drew) h hB [] (by simpa using hlen)).mono fun e w' ⟨q1, q2, q3, q4⟩ => ⟨q1, by simpa using q2, q3.un, q4⟩
  clear h hB
  go_enter Tryz.func24, Tryz.ntmps24
  go_wp2_with fail
  go_region_with (first
    | (go_at_call 31; refine HR.out.mono ?_; rintro e w1 ⟨rfl, rfl⟩)
    | (go_at_call 18; refine HW.out.mono ?_; rintro e w2 ⟨rfl, h2, hk2, hB2⟩)
    | fail)
  all_goals
    go_wp2
    go_end0
    exact ⟨rfl, h2, hk2, hB2⟩

theorem ten_of {w : World} {R : Nat} {v0 v1 v2 v3 v4 v5 v6 v7 v8 v9 : Value} {t : TypeId} (h : w.heap[R]? = some (.cells #[v0, v1, v2, v3, v4, v5, v6, v7, v8, v9] t (0, 0))) : w.cell? ⟨R, 0, none⟩ = some v0 ∧ w.cell? ⟨R, 1, none⟩ = some v1 ∧ w.cell? ⟨R, 2, none⟩ = some v2 ∧ w.cell? ⟨R, 3, none⟩ = some v3 ∧ w.cell? ⟨R, 4, none⟩ = some v4 ∧ w.cell? ⟨R, 5, none⟩ = some v5 ∧ w.cell? ⟨R, 6, none⟩ = some v6 ∧ w.cell? ⟨R, 7, none⟩ = some v7 ∧ w.cell? ⟨R, 8, none⟩ = some v8 ∧ w.cell? ⟨R, 9, none⟩ = some v9 := by
  refine ⟨?_, ?_, ?_, ?_, ?_, ?_, ?_, ?_, ?_, ?_⟩ <;> (rw [Lib.cell_of_heap h]; rfl)
theorem SmA.ex {w : World} {S : Nat → Prop} {x : Sm} {a0 a1 a2 a3 a4 : Option Addr} {c0 c1 c2 c3 c4 : Nat} (h : SmA w S x ([.int .i64 x.kind, .string (mkB x.text), .slice a0 x.names.length c0, .int .i64 x.ex.kind, .int .i64 x.ex.num, .string (mkB x.ex.text), .slice a1 x.ex.kids.length c1, .slice a2 x.ex.names.length c2, .slice a3 x.body.length c3, .slice a4 x.els.length c4] : List Value)) : ExA w S x.ex [.int .i64 x.ex.kind, .int .i64 x.ex.num, .string (mkB x.ex.text), .slice a1 x.ex.kids.length c1, .slice a2 x.ex.names.length c2] := by
  obtain ⟨n, hn⟩ := h
  match n, hn with
  | n + 1, ⟨nv, ce, bv, ev, bs, es, e, h1, h2, h3, h4, _⟩ =>
    obtain ⟨b1, d1, b2, d2, rfl⟩ := h1.form
    have e2 : ([.int .i64 x.kind, .string (mkB x.text), .slice a0 x.names.length c0, .int .i64 x.ex.kind, .int .i64 x.ex.num, .string (mkB x.ex.text), .slice a1 x.ex.kids.length c1, .slice a2 x.ex.names.length c2, .slice a3 x.body.length c3, .slice a4 x.els.length c4] : List Value).drop 3 = (([.int .i64 x.ex.kind, .int .i64 x.ex.num, .string (mkB x.ex.text), .slice b1 x.ex.kids.length d1, .slice b2 x.ex.names.length d2] ++ [bv, ev] : List Value)) := by rw [e]; rfl
    simp at e2
    obtain ⟨⟨rfl, rfl⟩, ⟨rfl, rfl⟩, _⟩ := e2
    exact h1

set_option maxHeartbeats 4000000 in
set_option maxRecDepth 100000 in
theorem wsmall_any {m B b : Nat} {n : Int} {x : Sm} {out l : List UInt8} {w : World} {S : Nat → Prop} {c : List Value} (hkd : x.kind = 3) (hx : wE m x.ex = some out) (h : WrIs B b n (Lib.byteCells l) w) (hB : B ≤ w.heap.size) (hg : 3 < B) (ht : TabW w) (he : SmA w S x c) (hS : ∀ g, S g → g ≠ b) (hlen : l.length + x.text.length + 3 + out.length ≤ 1000000000) :
    Calls Tryz.prog 35 #[pt b, .agg c.toArray] w (WpO B b n (l ++ (x.text ++ [32, 61, 32]) ++ out) w) := by
  obtain ⟨a0, c0, a1, c1, a2, c2, a3, c3, a4, c4, rfl⟩ := he.form
  have hk0 : Kp B b w (w.alloc (.cells #[.int .i64 x.kind, .string (mkB x.text), .slice a0 x.names.length c0, .int .i64 x.ex.kind, .int .i64 x.ex.num, .string (mkB x.ex.text), .slice a1 x.ex.kids.length c1, .slice a2 x.ex.names.length c2, .slice a3 x.body.length c3, .slice a4 x.els.length c4] 43)) := Kp.al b hB _
  have s0 : (w.alloc (.cells #[.int .i64 x.kind, .string (mkB x.text), .slice a0 x.names.length c0, .int .i64 x.ex.kind, .int .i64 x.ex.num, .string (mkB x.ex.text), .slice a1 x.ex.kids.length c1, .slice a2 x.ex.names.length c2, .slice a3 x.body.length c3, .slice a4 x.els.length c4] 43)).heap.size = w.heap.size + 1 := World.size_alloc _ _
  have HE : Calls Tryz.prog 34 #[pt b, .agg #[.int .i64 x.ex.kind, .int .i64 x.ex.num, .string (mkB x.ex.text), .slice a1 x.ex.kids.length c1, .slice a2 x.ex.names.length c2], .string ⟨(x.text ++ [32, 61, 32]).toArray⟩] (w.alloc (.cells #[.int .i64 x.kind, .string (mkB x.text), .slice a0 x.names.length c0, .int .i64 x.ex.kind, .int .i64 x.ex.num, .string (mkB x.ex.text), .slice a1 x.ex.kids.length c1, .slice a2 x.ex.names.length c2, .slice a3 x.body.length c3, .slice a4 x.els.length c4] 43)) (WpO B b n (l ++ (x.text ++ [32, 61, 32]) ++ out) (w.alloc (.cells #[.int .i64 x.kind, .string (mkB x.text), .slice a0 x.names.length c0, .int .i64 x.ex.kind, .int .i64 x.ex.num, .string (mkB x.ex.text), .slice a1 x.ex.kids.length c1, .slice a2 x.ex.names.length c2, .slice a3 x.body.length c3, .slice a4 x.els.length c4] 43))) := before_any (exprW_any m) hx (h.al _) (by omega) hg (ht.kp hk0 hg) (he.ex.al _) hS _ (by simp; omega)
  have hsum : ¬ 9223372036854775807 < (mkB x.text).size + 3 := by rw [mk_size]; omega
  have hap : (mkB x.text ++ ⟨#[32, 61, 32]⟩ : ByteArray) = ⟨(x.text ++ [32, 61, 32]).toArray⟩ := by
    apply ByteArray.ext
    simp [mkB]
  have q1 : (((x.kind : Nat) : Int) == (1 : Int)) = false := by rw [hkd]; rfl
  have q2 : (((x.kind : Nat) : Int) == (2 : Int)) = false := by rw [hkd]; rfl
  have q3 : (((x.kind : Nat) : Int) == (3 : Int)) = true := by rw [hkd]; rfl
  have HK : Hid (Kp B b w (w.alloc (.cells #[.int .i64 x.kind, .string (mkB x.text), .slice a0 x.names.length c0, .int .i64 x.ex.kind, .int .i64 x.ex.num, .string (mkB x.ex.text), .slice a1 x.ex.kids.length c1, .slice a2 x.ex.names.length c2, .slice a3 x.body.length c3, .slice a4 x.els.length c4] 43))) := hk0
  clear h hk0 ht he s0 hx hkd
  go_enter Tryz.func35, Tryz.ntmps35
  go_wp2_with fail
  refine HE.mono ?_
  rintro e w2 ⟨rfl, h2, hk2, hB2⟩
  go_wp2
  go_end0
  exact ⟨rfl, by simpa using h2, HK.out.trans hk2, hB2⟩

set_option maxHeartbeats 4000000 in
set_option maxRecDepth 100000 in
theorem wstatement_any {m B b : Nat} {n : Int} {x : Sm} {out l : List UInt8} {w : World} {S : Nat → Prop} {c : List Value} (hkd : x.kind = 3) (hx : wE m x.ex = some out) (h : WrIs B b n (Lib.byteCells l) w) (hB : B ≤ w.heap.size) (hg : 3 < B) (ht : TabW w) (he : SmA w S x c) (hS : ∀ g, S g → g ≠ b) (hlen : l.length + x.text.length + 4 + out.length ≤ 1000000000) :
    Calls Tryz.prog 25 #[pt b, .agg c.toArray] w (WpO B b n (l ++ (x.text ++ [32, 61, 32]) ++ out ++ [10]) w) := by
  obtain ⟨a0, c0, a1, c1, a2, c2, a3, c3, a4, c4, rfl⟩ := he.form
  have hk0 : Kp B b w (w.alloc (.cells #[.int .i64 x.kind, .string (mkB x.text), .slice a0 x.names.length c0, .int .i64 x.ex.kind, .int .i64 x.ex.num, .string (mkB x.ex.text), .slice a1 x.ex.kids.length c1, .slice a2 x.ex.names.length c2, .slice a3 x.body.length c3, .slice a4 x.els.length c4] 43)) := Kp.al b hB _
  have s0 : (w.alloc (.cells #[.int .i64 x.kind, .string (mkB x.text), .slice a0 x.names.length c0, .int .i64 x.ex.kind, .int .i64 x.ex.num, .string (mkB x.ex.text), .slice a1 x.ex.kids.length c1, .slice a2 x.ex.names.length c2, .slice a3 x.body.length c3, .slice a4 x.els.length c4] 43)).heap.size = w.heap.size + 1 := World.size_alloc _ _
  have HE := wsmall_any hkd hx (h.al (.cells #[.int .i64 x.kind, .string (mkB x.text), .slice a0 x.names.length c0, .int .i64 x.ex.kind, .int .i64 x.ex.num, .string (mkB x.ex.text), .slice a1 x.ex.kids.length c1, .slice a2 x.ex.names.length c2, .slice a3 x.body.length c3, .slice a4 x.els.length c4] 43)) (by omega) hg (ht.kp hk0 hg) (he.keep (fun g _ hg => heap_al w _ g hg) (fun _ hg _ => hg)) hS (by omega)
  have q1 : (((x.kind : Nat) : Int) == (6 : Int)) = false := by rw [hkd]; rfl
  have q2 : (((x.kind : Nat) : Int) == (7 : Int)) = false := by rw [hkd]; rfl
  have q3 : (((x.kind : Nat) : Int) == (8 : Int)) = false := by rw [hkd]; rfl
  have HK : Hid (Kp B b w (w.alloc (.cells #[.int .i64 x.kind, .string (mkB x.text), .slice a0 x.names.length c0, .int .i64 x.ex.kind, .int .i64 x.ex.num, .string (mkB x.ex.text), .slice a1 x.ex.kids.length c1, .slice a2 x.ex.names.length c2, .slice a3 x.body.length c3, .slice a4 x.els.length c4] 43))) := hk0
  clear h hk0 ht he s0 hx hkd
  go_enter Tryz.func25, Tryz.ntmps25
  go_wp2_with fail
  refine HE.mono ?_
  rintro e w2 ⟨rfl, h2, hk2, hB2⟩
  have HW := wb_any h2 hB2 10 (by simp; omega)
  go_wp2_with (go_at_call 17; refine HW.mono ?_; rintro e w3 ⟨rfl, h3, hk3, hB3⟩)
  go_end0
  exact ⟨rfl, by simpa using h3, (HK.out.trans hk2).trans hk3, hB3⟩
end Go.Proofs.YtheiijnpggabkaaGreatDoor

/- A source, split. -/
namespace Go.Proofs.YtheiijnpggabkaaGreatDoor
open Go.RowKit Go.Shelf

/-- The shelf's contract for Clone, laid at this program. -/
def laysCl_ren : Ren := ⟨fun | 316 => 21 | n => n, fun | 9 => 9 | 3 => 3 | 4 => 4 | 37 => 44 | 0 => 0 | 127 => 60 | 5 => 5 | n => n, fun | n => n⟩
theorem laysCl : Go.Proofs.LaysM.n316 Tryz.prog laysCl_ren := {
  mixed := by kernel_rfl
  f316 := Tryz.func21.trans (congrArg some (by kernel_rfl))
  t0 := Tryz.underlying0
  a0 := Tryz.isAgg0
  z0 := Tryz.sizeOf0
  v0 := Tryz.zeroValue0
  t3 := Tryz.underlying3
  a3 := Tryz.isAgg3
  z3 := Tryz.sizeOf3
  v3 := Tryz.zeroValue3
  t4 := Tryz.underlying4
  a4 := Tryz.isAgg4
  z4 := Tryz.sizeOf4
  v4 := Tryz.zeroValue4
  t9 := Tryz.underlying9
  a9 := Tryz.isAgg9
  z9 := Tryz.sizeOf9
  v9 := Tryz.zeroValue9
  t37 := Tryz.underlying44
  a37 := Tryz.isAgg44
  z37 := Tryz.sizeOf44
  v37 := Tryz.zeroValue44
  t127 := Tryz.underlying60
  a127 := Tryz.isAgg60
  z127 := Tryz.sizeOf60
  v127 := Tryz.zeroValue60
  t5 := Tryz.underlying5
  a5 := Tryz.isAgg5
  z5 := Tryz.sizeOf5
  v5 := Tryz.zeroValue5
  i0 := by kernel_rfl
  i3 := by kernel_rfl
  i4 := by kernel_rfl
  i5 := by kernel_rfl
  i9 := by kernel_rfl
  i37 := by kernel_rfl
  i127 := by kernel_rfl }
theorem cloneLite (s : ByteArray) (w : World) (hlim : s.size ≤ 281474976710656) :
    Calls Tryz.prog 21 #[.string s] w fun e w' => e = .returned (.string s) ∧ Below w.heap.size w w' := Any.stringslite_Clone laysCl s w hlim
theorem clone_any (s : ByteArray) (w : World) (hlim : s.size ≤ 281474976710656) :
    Calls Tryz.prog 14 #[.string s] w fun e w' => e = .returned (.string s) ∧ Below w.heap.size w w' := by
  go_enter Tryz.func14, Tryz.ntmps14
  go_wp2_with (go_at_call 21; refine (cloneLite s _ hlim).mono ?_; rintro e w' ⟨rfl, hb⟩)
  go_ret
  exact ⟨rfl, hb⟩

/-- What Split answers, plain. -/
def splitA (L : List UInt8) : Except Ft (List Tk) := if L.length ≤ 6000 then splitL L else .error (2, 0)

set_option maxHeartbeats 4000000 in
set_option maxRecDepth 100000 in
theorem Split_any (L : List UInt8) (w : World) (hr : ErrR w) :
    Calls Tryz.prog 8 #[.string (mkB L)] w fun e w' => SplP w (splitA L) e w' := by
  have hsz := mk_size L
  by_cases hL : L.length ≤ 6000
  · have HA : Hid (splitA L = splitL L) := if_pos hL
    have hn : ¬ (6000 : Int) < ((mkB L).size : Int) := by omega
    have HCl : Hid (∀ W, Calls Tryz.prog 14 #[.string (mkB L)] W fun e w' => e = .returned (.string (mkB L)) ∧ Below W.heap.size W w') := fun W => clone_any (mkB L) W (by omega)
    have HSp : Hid (∀ W, Below w.heap.size w W → Calls Tryz.prog 13 #[.string (mkB L)] W fun e w' => SplP W (splitL L) e w') := fun W hW => split_any L W hL (hr.up hW)
    have HR : Hid (ErrR w) := hr
    clear hr hL hsz
    have hb0 : Below w.heap.size w (w.alloc (.cells #[.int .i64 0, .int .i64 0] 28)) := (Below.refl _ w).alloc (Nat.le_refl _) _
    have l0 := heap_alloc_new w (.cells #[.int .i64 0, .int .i64 0] 28)
    have hz0 : (w.alloc (.cells #[.int .i64 0, .int .i64 0] 28)).heap.size = w.heap.size + 1 := World.size_alloc _ _
    have H0 : Hid (Below w.heap.size w (w.alloc (.cells #[.int .i64 0, .int .i64 0] 28)) ∧ (w.alloc (.cells #[.int .i64 0, .int .i64 0] 28)).heap[w.heap.size]? = some (.cells #[.int .i64 0, .int .i64 0] 28 (0, 0)) ∧ (w.alloc (.cells #[.int .i64 0, .int .i64 0] 28)).heap.size = w.heap.size + 1) := ⟨hb0, l0, hz0⟩
    clear hb0 l0 hz0
    go_enter Tryz.func8, Tryz.ntmps8
    go_wp2_with fail
    generalize w.alloc (.cells #[.int .i64 0, .int .i64 0] 28) = W0 at *
    refine (HCl.out W0).mono ?_
    rintro e W1 ⟨rfl, hb1⟩
    have hlt1 : w.heap.size < W1.heap.size := by have := hb1.size; have := H0.out.2.2; omega
    have H1 : Hid (Below w.heap.size w W1 ∧ W1.heap[w.heap.size]? = some (.cells #[.int .i64 0, .int .i64 0] 28 (0, 0)) ∧ w.heap.size < W1.heap.size) := ⟨H0.out.1.trans (hb1.mono (by have := H0.out.2.2; omega)), (hb1.block _ (by have := H0.out.2.2; omega)).trans H0.out.2.1, hlt1⟩
    clear hb1 H0 hlt1
    go_wp2_with fail
    refine (HSp.out W1 H1.out.1).mono ?_
    rintro e W2 ⟨h1, h2, hb2⟩
    have l2 := (hb2.block _ H1.out.2.2).trans H1.out.2.1
    have q0 : W2.cell? ⟨w.heap.size, 0, none⟩ = some (.int .i64 0) := by rw [Lib.cell_of_heap l2]; rfl
    have q1 : W2.cell? ⟨w.heap.size, 1, none⟩ = some (.int .i64 0) := by rw [Lib.cell_of_heap l2]; rfl
    have r0 : W2.frozen? ⟨w.heap.size, 0, none⟩ = false := Lib.frozen_of_heap l2 0
    have r1 : W2.frozen? ⟨w.heap.size, 1, none⟩ = false := Lib.frozen_of_heap l2 1
    have HB2 : Hid (Below w.heap.size w W2) := H1.out.1.trans (hb2.mono (Nat.le_of_lt H1.out.2.2))
    have HW : Hid (∀ a b : Value, Below w.heap.size w ((W2.setCell ⟨w.heap.size, 0, none⟩ a).setCell ⟨w.heap.size, 1, none⟩ b)) := fun a b => (HB2.out.setCell (p := ⟨w.heap.size, 0, none⟩) (Nat.le_refl _) _).setCell (p := ⟨w.heap.size, 1, none⟩) (Nat.le_refl _) _
    clear hb2 l2
    cases hsp : splitL L with
    | error x =>
      obtain ⟨k, z⟩ := x
      rw [hsp] at HA
      obtain rfl := h1 k z hsp
      clear h1 h2 hsp
      go_wp2
      refine bodyPost_ret (v := .tuple #[.slice none 0 0, .agg #[.int .i64 (k : Int), .int .i64 (z : Int)]]) (by simp [results, Tryz.results8, go_sem, q0, q1]) rfl ?_
      refine ⟨fun k' z' hz => ?_, fun l hl => ?_, HW.out _ _⟩
      · rw [HA.out] at hz; cases hz; rfl
      · rw [HA.out] at hl; cases hl
    | ok l =>
      rw [hsp] at HA
      obtain ⟨tv, rfl, ho⟩ := h2 l hsp
      have HO : Hid (∀ a b : Value, ((W2.setCell ⟨w.heap.size, 0, none⟩ a).setCell ⟨w.heap.size, 1, none⟩ b).ownsRow w.heap.size 32 4 tv l.length (tcs l)) := fun a b => row_mono (own_heap ho fun g hg => by
        have := (ho.lt g hg).1
        have := H1.out.2.2
        exact (Below.heap_setCell _ ⟨w.heap.size, 1, none⟩ _ g (by show ¬ g = w.heap.size; omega)).trans (Below.heap_setCell _ ⟨w.heap.size, 0, none⟩ _ g (by show ¬ g = w.heap.size; omega))) (Nat.le_of_lt H1.out.2.2)
      clear h1 h2 hsp ho
      go_wp2
      refine bodyPost_ret (v := .tuple #[tv, .agg #[.int .i64 0, .int .i64 0]]) (by simp [results, Tryz.results8, go_sem, q0, q1]) rfl ?_
      refine ⟨fun k' z' hz => ?_, fun l hl => ?_, HW.out _ _⟩
      · rw [HA.out] at hz; cases hz
      · rw [HA.out] at hl; cases hl
        exact ⟨_, rfl, HO.out _ _⟩
  · have HA : Hid (splitA L = .error (2, 0)) := if_neg hL
    have hn : (6000 : Int) < ((mkB L).size : Int) := by omega
    clear hr hL hsz
    go_enter Tryz.func8, Tryz.ntmps8
    go_wp2
    refine bodyPost_ret (v := .tuple #[.slice none 0 0, .agg #[.int .i64 2, .int .i64 0]]) (by simp [results, Tryz.results8, go_sem]) rfl ?_
    refine ⟨fun k' z' hz => ?_, fun l hl => ?_, ?_⟩
    · rw [HA.out] at hz; cases hz; rfl
    · rw [HA.out] at hl; cases hl
    · exact (Below.refl _ w).alloc (Nat.le_refl _) _
end Go.Proofs.YtheiijnpggabkaaGreatDoor

/- parse: what was given up is caught. -/
namespace Go.Proofs.YtheiijnpggabkaaGreatDoor
open Go.RowKit Go.Shelf

set_option maxHeartbeats 2000000 in
set_option maxRecDepth 100000 in
theorem pcatch_idle (p q : Addr) (w : World) :
    CallsD Tryz.prog 22 #[.pointer (some p), .pointer (some q)] .returning w fun e u' w' => e = .returned (.tuple #[]) ∧ u' = .returning ∧ Below w.heap.size w w' := by
  refine callsD_of_wpS Tryz.func22 rfl fun c₀ cs hu => ?_
  apply wpS_seq
  apply wpS_region
  simp [wpOpsS, go_sem, recoverD, hu, Tryz.ntmps22, Exit.thenS, ta_nil]
  apply wpS_seq
  apply wpS_region
  simp [wpOpsS, go_sem, Exit.thenS]
  refine wpS_cond (t := false) (by simp [Act.eval, Array.replicate]) ?_
  simp only [Bool.false_eq_true, if_false]
  refine wpS_of_wp (wp_skip ?_)
  have hb : Below w.heap.size w (w.alloc (.cells #[.int .i64 0, .int .i64 0] 28)) := (Below.refl _ w).alloc (Nat.le_refl _) _
  cases c₀
  simp_all [bodyPostS, results, Tryz.results22]

set_option maxHeartbeats 2000000 in
set_option maxRecDepth 100000 in
theorem pcatch_pan (B lb fb : Nat) (x y0 y1 : Value) (k : Int) (z : Nat) (older : List PanicEntry) (w : World) (h0 : w.cell? ⟨lb, 0, none⟩ = some x) (h1 : w.cell? ⟨fb, 0, none⟩ = some y0) (h2 : w.cell? ⟨fb, 1, none⟩ = some y1)
    (f0 : w.frozen? ⟨lb, 0, none⟩ = false) (f1 : w.frozen? ⟨fb, 0, none⟩ = false) (f2 : w.frozen? ⟨fb, 1, none⟩ = false) (hn : ¬ lb = fb) (hB : B ≤ lb) (hB2 : B ≤ fb) :
    CallsD Tryz.prog 22 #[.pointer (some ⟨lb, 0, none⟩), .pointer (some ⟨fb, 0, none⟩)] (.panicking ({ v := .iface 28 (.agg #[.int .i64 k, .int .i64 z]), recovered := false } :: older)) w fun e u' w' =>
      e = .returned (.tuple #[]) ∧ u' = .panicking ({ v := .iface 28 (.agg #[.int .i64 k, .int .i64 z]), recovered := true } :: older) ∧ w'.cell? ⟨lb, 0, none⟩ = some (.slice none 0 0) ∧ w'.cell? ⟨fb, 0, none⟩ = some (.int .i64 k) ∧ w'.cell? ⟨fb, 1, none⟩ = some (.int .i64 z) ∧ Below B w w' := by
  refine callsD_of_wpS Tryz.func22 rfl fun c₀ cs hu => ?_
  apply wpS_seq
  apply wpS_region
  simp [wpOpsS, go_sem, recoverD, hu, Tryz.ntmps22, Exit.thenS, ta_yes]
  apply wpS_seq
  apply wpS_region
  simp [wpOpsS, go_sem, Exit.thenS]
  refine wpS_cond (t := true) (by simp [Act.eval, Array.replicate]) ?_
  simp only [if_true]
  refine wpS_of_wp ?_
  simp [Array.replicate]
  have hpl : lb < w.heap.size := World.block_lt_of_cell? w ⟨lb, 0, none⟩ h0
  have hql : fb < w.heap.size := World.block_lt_of_cell? w ⟨fb, 0, none⟩ h1
  have hnew := heap_alloc_new w (.cells #[.int .i64 k, .int .i64 (z : Int)] 28)
  have g0 : (w.alloc (.cells #[.int .i64 k, .int .i64 (z : Int)] 28)).cell? ⟨lb, 0, none⟩ = some x := (World.cell?_alloc_past _ _ _ hpl).trans h0
  have g1 : (w.alloc (.cells #[.int .i64 k, .int .i64 (z : Int)] 28)).cell? ⟨fb, 0, none⟩ = some y0 := (World.cell?_alloc_past _ _ _ hql).trans h1
  have g2 : (w.alloc (.cells #[.int .i64 k, .int .i64 (z : Int)] 28)).cell? ⟨fb, 1, none⟩ = some y1 := (World.cell?_alloc_past _ _ _ hql).trans h2
  have e0 : (w.alloc (.cells #[.int .i64 k, .int .i64 (z : Int)] 28)).frozen? ⟨lb, 0, none⟩ = false := (World.frozen?_of_block (heap_al w _ lb hpl)).trans f0
  have e1 : (w.alloc (.cells #[.int .i64 k, .int .i64 (z : Int)] 28)).frozen? ⟨fb, 0, none⟩ = false := (World.frozen?_of_block (heap_al w _ fb hql)).trans f1
  have e2 : (w.alloc (.cells #[.int .i64 k, .int .i64 (z : Int)] 28)).frozen? ⟨fb, 1, none⟩ = false := (World.frozen?_of_block (heap_al w _ fb hql)).trans f2
  have n0 : (w.alloc (.cells #[.int .i64 k, .int .i64 (z : Int)] 28)).cell? ⟨w.heap.size, 0, none⟩ = some (.int .i64 k) := by rw [Lib.cell_of_heap hnew]; rfl
  have n1 : (w.alloc (.cells #[.int .i64 k, .int .i64 (z : Int)] 28)).cell? ⟨w.heap.size, 1, none⟩ = some (.int .i64 (z : Int)) := by rw [Lib.cell_of_heap hnew]; rfl
  have HB : Hid (Below B w (w.alloc (.cells #[.int .i64 k, .int .i64 (z : Int)] 28))) := (Below.refl B w).alloc (by omega) _
  have m1 : ¬ w.heap.size = lb := by omega
  have m2 : ¬ w.heap.size = fb := by omega
  clear h0 h1 h2 f0 f1 f2 hpl hql hnew
  generalize w.alloc (.cells #[.int .i64 k, .int .i64 (z : Int)] 28) = W at *
  generalize w.heap.size = Z at *
  go_region_with fail
  all_goals
    have hb : Below B w (((W.setCell ⟨lb, 0, none⟩ (.slice none 0 0)).setCell ⟨fb, 0, none⟩ (.int .i64 k)).setCell ⟨fb, 1, none⟩ (.int .i64 (z : Int))).drew := (((HB.out.setCell (p := ⟨lb, 0, none⟩) hB _).setCell (p := ⟨fb, 0, none⟩) hB2 _).setCell (p := ⟨fb, 1, none⟩) hB2 _).drew
    cases c₀
    simp [bodyPostS, results, Tryz.results22, go_sem, g0, g1, g2, hb]

theorem RwS.mono {n m : Nat} {w : World} {l : List Sm} {v : Value} {vs : List (List Value)} (h : RwS n w l v vs) (hm : m ≤ n) : RwS m w l v vs := ⟨row_mono h.row hm, h.fa.mono fun _ _ f => f.mono fun _ hg _ => ⟨Nat.le_trans hm hg.1, hg.2⟩⟩
/-- What parse answers. -/
def ParP (w : World) (r : Except Ft (List Sm)) (e : Ending) (w' : World) : Prop :=
  (∀ (k z : Nat), r = .error (k, z) → e = .returned (.tuple #[.slice none 0 0, .agg #[.int .i64 (k : Int), .int .i64 (z : Int)]])) ∧
  (∀ l, r = .ok l → ∃ v vs, e = .returned (.tuple #[v, .agg #[.int .i64 0, .int .i64 0]]) ∧ RwS w.heap.size w' l v vs) ∧ Below w.heap.size w w'
/-- Where parse begins. -/
def bpW (tv : Value) (n : Nat) (w : World) : World := ((w.alloc (.cells #[.slice none 0 0] 33)).alloc (.cells #[.int .i64 0, .int .i64 0] 28)).alloc (.cells #[tv, .int .i64 n, .int .i64 0, .bool false, .int .i64 0] 66)
theorem bp_facts {B : Nat} {toks : List Tk} {ao : Option Addr} {cp : Nat} {w : World} (n : Nat) (hr : w.ownsRow B 32 4 (.slice ao toks.length cp) toks.length (tcs toks)) (h0 : 0 < toks.length) : ∃ T, PsA (w.heap.size + 1 + 1) T (bpW (.slice ao toks.length cp) n w) ⟨toks, n, 0, false, 0⟩ ∧ Below w.heap.size w (bpW (.slice ao toks.length cp) n w) ∧
    (bpW (.slice ao toks.length cp) n w).heap[w.heap.size]? = some (.cells #[.slice none 0 0] 33 (0, 0)) ∧ (bpW (.slice ao toks.length cp) n w).heap[w.heap.size + 1]? = some (.cells #[.int .i64 0, .int .i64 0] 28 (0, 0)) ∧ (bpW (.slice ao toks.length cp) n w).heap.size = w.heap.size + 1 + 1 + 1 := by
  have s1 : (w.alloc (.cells #[.slice none 0 0] 33)).heap.size = w.heap.size + 1 := World.size_alloc _ _
  have s2 : ((w.alloc (.cells #[.slice none 0 0] 33)).alloc (.cells #[.int .i64 0, .int .i64 0] 28)).heap.size = w.heap.size + 1 + 1 := by rw [World.size_alloc, s1]
  have s3 : (bpW (.slice ao toks.length cp) n w).heap.size = w.heap.size + 1 + 1 + 1 := by unfold bpW; rw [World.size_alloc, s2]
  have k0 : ∀ g, g < w.heap.size → (bpW (.slice ao toks.length cp) n w).heap[g]? = w.heap[g]? := fun g hg => by
    unfold bpW
    rw [heap_al _ _ _ (by rw [s2]; omega), heap_al _ _ _ (by rw [s1]; omega), heap_al _ _ _ hg]
  have b0 : (bpW (.slice ao toks.length cp) n w).heap[w.heap.size]? = some (.cells #[.slice none 0 0] 33 (0, 0)) := by
    unfold bpW
    rw [heap_al _ _ _ (by rw [s2]; omega), heap_al _ _ _ (by rw [s1]; omega)]
    exact heap_alloc_new w _
  have b1 : (bpW (.slice ao toks.length cp) n w).heap[w.heap.size + 1]? = some (.cells #[.int .i64 0, .int .i64 0] 28 (0, 0)) := by
    unfold bpW
    rw [heap_al _ _ _ (by rw [s2]; omega), ← s1]
    exact heap_alloc_new _ _
  have b2 : (bpW (.slice ao toks.length cp) n w).heap[w.heap.size + 1 + 1]? = some (.cells #[.slice ao toks.length cp, .int .i64 n, .int .i64 0, .bool false, .int .i64 0] 66 (0, 0)) := by
    unfold bpW
    rw [← s2]
    exact heap_alloc_new _ _
  rcases hr.2 with ⟨_, e0⟩ | ⟨g, cap, cur, hv, h2, h3, h4, h5, h6, h7⟩
  · omega
  · cases hv
    have hg : g < w.heap.size := (Array.getElem?_eq_some_iff.1 h3).1
    refine ⟨g, ⟨some ⟨g, 0, none⟩, cp, 0, b2, h4, Nat.zero_le _, fun _ => rfl, fun j hj => ?_, by omega, by omega, Nat.zero_le _, Nat.zero_le _⟩, ?_, b0, b1, s3⟩
    · rw [Nat.zero_add, Lib.cell_of_heap ((k0 g hg).trans h3), ← h7, List.getElem?_take_of_lt hj]
      simp
    · unfold bpW
      exact (((Below.refl _ w).alloc (Nat.le_refl _) _).alloc (by rw [s1]; omega) _).alloc (by rw [s2]; omega) _

set_option maxHeartbeats 8000000 in
set_option maxRecDepth 100000 in
theorem parse_any {B : Nat} {toks : List Tk} {tv : Value} {w : World} (n : Nat) (hr : w.ownsRow B 32 4 tv toks.length (tcs toks)) (h0 : 0 < toks.length) {E : Ps → Px Ex} (hE : ∀ P T, MethC P T 75 E) {l : List Sm} {q : Ps} (hz : srcF E ⟨toks, n, 0, false, 0⟩ = some (.ok (l, q))) :
    Calls Tryz.prog 15 #[tv, .int .i64 n] w (ParP w (.ok l)) := by
  have hmf : ∀ (fn : Fn) (first cap : Array Value) (w : World), (Instr.makeFunc fn first cap).run Tryz.prog w = .ok (.func fn first cap) w := fun _ _ _ _ => rfl
  obtain ⟨ao, cp, rfl⟩ := row_shape hr
  obtain ⟨T, t0, hb0, l0, f0, s0⟩ := bp_facts n hr h0
  have HLn := source_any (statement_any (small_any (hE _ T))) _ _ _ t0 hz
  rw [s0] at HLn
  have HB0 : Hid (Below w.heap.size w (bpW (.slice ao toks.length cp) n w) ∧ (bpW (.slice ao toks.length cp) n w).heap[w.heap.size]? = some (.cells #[.slice none 0 0] 33 (0, 0)) ∧ (bpW (.slice ao toks.length cp) n w).heap[w.heap.size + 1]? = some (.cells #[.int .i64 0, .int .i64 0] 28 (0, 0)) ∧ (bpW (.slice ao toks.length cp) n w).heap.size = w.heap.size + 1 + 1 + 1) := ⟨hb0, l0, f0, s0⟩
  clear t0 hb0 l0 f0 s0 hr hz hE h0
  unfold bpW at *
  go_enter_defers Tryz.func15, Tryz.ntmps15
  go_wp2_with fail
  refine HLn.mono ?_
  rintro e w1 ⟨v, rfl, ⟨vs, hrw⟩, hps, hk⟩
  obtain ⟨a1, c1, rfl⟩ := row_shape hrw.row
  have l1 := (hk.blk w.heap.size (by have := HB0.out.2.2.2; omega) (by omega)).trans HB0.out.2.1
  have f1 := (hk.blk (w.heap.size + 1) (by have := HB0.out.2.2.2; omega) (by omega)).trans HB0.out.2.2.1
  have HB1 : Hid (Below w.heap.size w w1) := HB0.out.1.trans (hk.below (by omega) (by have := HB0.out.2.2.2; omega))
  have q0 : w1.cell? ⟨w.heap.size, 0, none⟩ = some (.slice none 0 0) := by rw [Lib.cell_of_heap l1]; rfl
  have q1 : w1.cell? ⟨w.heap.size + 1, 0, none⟩ = some (.int .i64 0) := by rw [Lib.cell_of_heap f1]; rfl
  have q2 : w1.cell? ⟨w.heap.size + 1, 1, none⟩ = some (.int .i64 0) := by rw [Lib.cell_of_heap f1]; rfl
  have r0 : w1.frozen? ⟨w.heap.size, 0, none⟩ = false := Lib.frozen_of_heap l1 0
  have r1 : w1.frozen? ⟨w.heap.size + 1, 0, none⟩ = false := Lib.frozen_of_heap f1 0
  have r2 : w1.frozen? ⟨w.heap.size + 1, 1, none⟩ = false := Lib.frozen_of_heap f1 1
  have s0 : (((w1.setCell ⟨w.heap.size, 0, none⟩ (.slice a1 l.length c1)).setCell ⟨w.heap.size + 1, 0, none⟩ (.int .i64 0)).setCell ⟨w.heap.size + 1, 1, none⟩ (.int .i64 0)).cell? ⟨w.heap.size, 0, none⟩ = some (.slice a1 l.length c1) := by simp [go_sem, q0]
  have s1 : (((w1.setCell ⟨w.heap.size, 0, none⟩ (.slice a1 l.length c1)).setCell ⟨w.heap.size + 1, 0, none⟩ (.int .i64 0)).setCell ⟨w.heap.size + 1, 1, none⟩ (.int .i64 0)).cell? ⟨w.heap.size + 1, 0, none⟩ = some (.int .i64 0) := by simp [go_sem, q1]
  have s2 : (((w1.setCell ⟨w.heap.size, 0, none⟩ (.slice a1 l.length c1)).setCell ⟨w.heap.size + 1, 0, none⟩ (.int .i64 0)).setCell ⟨w.heap.size + 1, 1, none⟩ (.int .i64 0)).cell? ⟨w.heap.size + 1, 1, none⟩ = some (.int .i64 0) := by simp [go_sem, q2]
  have HS : Hid ((((w1.setCell ⟨w.heap.size, 0, none⟩ (.slice a1 l.length c1)).setCell ⟨w.heap.size + 1, 0, none⟩ (.int .i64 0)).setCell ⟨w.heap.size + 1, 1, none⟩ (.int .i64 0)).cell? ⟨w.heap.size, 0, none⟩ = some (.slice a1 l.length c1) ∧ (((w1.setCell ⟨w.heap.size, 0, none⟩ (.slice a1 l.length c1)).setCell ⟨w.heap.size + 1, 0, none⟩ (.int .i64 0)).setCell ⟨w.heap.size + 1, 1, none⟩ (.int .i64 0)).cell? ⟨w.heap.size + 1, 0, none⟩ = some (.int .i64 0) ∧ (((w1.setCell ⟨w.heap.size, 0, none⟩ (.slice a1 l.length c1)).setCell ⟨w.heap.size + 1, 0, none⟩ (.int .i64 0)).setCell ⟨w.heap.size + 1, 1, none⟩ (.int .i64 0)).cell? ⟨w.heap.size + 1, 1, none⟩ = some (.int .i64 0)) := ⟨s0, s1, s2⟩
  have hkw : ∀ g, w.heap.size + 1 + 1 + 1 ≤ g → g < w1.heap.size → (((w1.setCell ⟨w.heap.size, 0, none⟩ (.slice a1 l.length c1)).setCell ⟨w.heap.size + 1, 0, none⟩ (.int .i64 0)).setCell ⟨w.heap.size + 1, 1, none⟩ (.int .i64 0)).heap[g]? = w1.heap[g]? := fun g hg _ => (Below.heap_setCell _ ⟨w.heap.size + 1, 1, none⟩ _ g (by show ¬ g = w.heap.size + 1; omega)).trans ((Below.heap_setCell _ ⟨w.heap.size + 1, 0, none⟩ _ g (by show ¬ g = w.heap.size + 1; omega)).trans (Below.heap_setCell _ ⟨w.heap.size, 0, none⟩ _ g (by show ¬ g = w.heap.size; omega)))
  have HO : Hid (RwS (w.heap.size + 1 + 1 + 1) (((w1.setCell ⟨w.heap.size, 0, none⟩ (.slice a1 l.length c1)).setCell ⟨w.heap.size + 1, 0, none⟩ (.int .i64 0)).setCell ⟨w.heap.size + 1, 1, none⟩ (.int .i64 0)) l (.slice a1 l.length c1) vs) := hrw.keep hkw
  have HB2 : Hid (Below w.heap.size w (((w1.setCell ⟨w.heap.size, 0, none⟩ (.slice a1 l.length c1)).setCell ⟨w.heap.size + 1, 0, none⟩ (.int .i64 0)).setCell ⟨w.heap.size + 1, 1, none⟩ (.int .i64 0))) := ((HB1.out.setCell (p := ⟨w.heap.size, 0, none⟩) (Nat.le_refl _) _).setCell (p := ⟨w.heap.size + 1, 0, none⟩) (Nat.le_succ _) _).setCell (p := ⟨w.heap.size + 1, 1, none⟩) (Nat.le_succ _) _
  clear s0 s1 s2 hkw hrw hps hk l1 f1 HB0 HLn
  go_wp2
  generalize (((w1.setCell ⟨w.heap.size, 0, none⟩ (.slice a1 l.length c1)).setCell ⟨w.heap.size + 1, 0, none⟩ (.int .i64 0)).setCell ⟨w.heap.size + 1, 1, none⟩ (.int .i64 0)) = w2 at *
  refine leaves_cons (f := 22) (args := #[.pointer (some ⟨w.heap.size, 0, none⟩), .pointer (some ⟨w.heap.size + 1, 0, none⟩)]) (by simp) (by simp [go_sem]) ?_
  refine (pcatch_idle ⟨w.heap.size, 0, none⟩ ⟨w.heap.size + 1, 0, none⟩ _).mono ?_
  rintro e u' w3 ⟨rfl, rfl, hb3⟩
  have k0 := (hb3.cell (World.block_lt_of_cell? w2 _ HS.out.1)).trans HS.out.1
  have k1 := (hb3.cell (World.block_lt_of_cell? w2 _ HS.out.2.1)).trans HS.out.2.1
  have k2 := (hb3.cell (World.block_lt_of_cell? w2 _ HS.out.2.2)).trans HS.out.2.2
  have hle : w.heap.size ≤ w2.heap.size := Nat.le_of_lt (World.block_lt_of_cell? w2 _ HS.out.1)
  simp [Leaves, settle, results, Tryz.results15, go_sem, k0, k1, k2]
  refine ⟨(fun k' z' hz => by cases hz), fun l' hl => ?_, HB2.out.trans (hb3.mono hle)⟩
  cases hl
  exact ⟨_, vs, rfl, (HO.out.keep (fun g _ hg => hb3.block g hg)).mono (by omega)⟩
end Go.Proofs.YtheiijnpggabkaaGreatDoor

/- Parse, whole, where it is told. -/
namespace Go.Proofs.YtheiijnpggabkaaGreatDoor
open Go.RowKit Go.Shelf

/-- What Parse comes to without a fault, where it is told. -/
def parL (L : List UInt8) : Option (List Sm) := match splitA L with
  | .error _ => none
  | .ok toks => bif decide (0 < toks.length) then match srcF (exF 40) ⟨toks, L.length, 0, false, 0⟩ with
      | some (.ok (l, _)) => some l
      | _ => none
    else none
theorem parL_some {L : List UInt8} {l : List Sm} (h : parL L = some l) : ∃ toks q, splitA L = .ok toks ∧ 0 < toks.length ∧ srcF (exF 40) ⟨toks, L.length, 0, false, 0⟩ = some (.ok (l, q)) := by
  unfold parL at h
  match hs : splitA L, h with
  | .ok toks, h =>
    simp only at h
    cases h0 : decide (0 < toks.length) with
    | false => rw [h0] at h; cases h
    | true =>
      rw [h0] at h
      match hr : srcF (exF 40) ⟨toks, L.length, 0, false, 0⟩, h with
      | some (.ok (l', q)), h =>
        simp only [cond_true] at h
        cases h
        exact ⟨toks, q, rfl, of_decide_eq_true h0, hr⟩

set_option maxHeartbeats 8000000 in
set_option maxRecDepth 100000 in
theorem Parse_ok (L : List UInt8) (w : World) (hr : ErrR w) {l : List Sm} (hl : parL L = some l) :
    Calls Tryz.prog 9 #[.string (mkB L)] w (ParP w (.ok l)) := by
  obtain ⟨toks, q, h1, h2, h3⟩ := parL_some hl
  have hrW : ErrR (w.alloc (.cells #[.int .i64 0, .int .i64 0] 28)) := hr.up (alB w _)
  have HS := Split_any L (w.alloc (.cells #[.int .i64 0, .int .i64 0] 28)) hrW
  rw [h1] at HS
  have HP : Hid (∀ (V : World) (B : Nat) (tv : Value), V.ownsRow B 32 4 tv toks.length (tcs toks) → Calls Tryz.prog 15 #[tv, .int .i64 L.length] V (ParP V (.ok l))) := fun V B tv hV => parse_any L.length hV h2 (fun P T => exF_any 40) h3
  have HB : Hid (Below w.heap.size w (w.alloc (.cells #[.int .i64 0, .int .i64 0] 28))) := alB w _
  have hs0 : (w.alloc (.cells #[.int .i64 0, .int .i64 0] 28)).heap.size = w.heap.size + 1 := World.size_alloc _ _
  have hf0 := heap_alloc_new w (.cells #[.int .i64 0, .int .i64 0] 28)
  have hsz := mk_size L
  clear h1 h2 h3 hrW hl hr
  go_enter Tryz.func9, Tryz.ntmps9
  go_wp2_with fail
  refine HS.mono ?_
  rintro e w1 ⟨_, hok, hb1⟩
  obtain ⟨tv, rfl, hown⟩ := hok toks rfl
  obtain ⟨ao, cp, rfl⟩ := row_shape hown
  have hf1 := (hb1.block w.heap.size (by omega)).trans hf0
  have hs1 : w.heap.size < w1.heap.size := (Array.getElem?_eq_some_iff.1 hf1).1
  have hownX : (w1.alloc (.cells #[.int .i64 0, .int .i64 0] 28)).ownsRow _ 32 4 (.slice ao toks.length cp) toks.length (tcs toks) := own_heap hown (fun g hg => heap_al w1 _ g (hown.lt g hg).2)
  have HPa := HP.out _ _ _ hownX
  have hf2 : (w1.alloc (.cells #[.int .i64 0, .int .i64 0] 28)).heap[w.heap.size]? = some (.cells #[.int .i64 0, .int .i64 0] 28 (0, 0)) := (heap_al _ _ _ hs1).trans hf1
  have HQ : Hid (Below w.heap.size w (w1.alloc (.cells #[.int .i64 0, .int .i64 0] 28)) ∧ (w1.alloc (.cells #[.int .i64 0, .int .i64 0] 28)).heap[w.heap.size]? = some (.cells #[.int .i64 0, .int .i64 0] 28 (0, 0))) := ⟨(HB.out.trans (hb1.mono (by omega))).trans ((alB w1 _).mono (by omega)), hf2⟩
  clear hok hb1 hown hownX hf1 hf2 HP HS hf0
  go_wp2_with fail
  refine HPa.mono ?_
  rintro e w2 ⟨_, hok, hb2⟩
  obtain ⟨v, vs, rfl, hrw⟩ := hok l rfl
  obtain ⟨a3, c3, rfl⟩ := row_shape hrw.row
  have hf3 := (hb2.block w.heap.size (Array.getElem?_eq_some_iff.1 HQ.out.2).1).trans HQ.out.2
  have g0 : w2.cell? ⟨w.heap.size, 0, none⟩ = some (.int .i64 0) := by rw [Lib.cell_of_heap hf3]; rfl
  have g1 : w2.cell? ⟨w.heap.size, 1, none⟩ = some (.int .i64 0) := by rw [Lib.cell_of_heap hf3]; rfl
  have k0 : w2.frozen? ⟨w.heap.size, 0, none⟩ = false := Lib.frozen_of_heap hf3 0
  have k1 : w2.frozen? ⟨w.heap.size, 1, none⟩ = false := Lib.frozen_of_heap hf3 1
  have HZ : Hid (Below w.heap.size w ((w2.setCell ⟨w.heap.size, 0, none⟩ (.int .i64 0)).setCell ⟨w.heap.size, 1, none⟩ (.int .i64 0)) ∧ RwS w.heap.size ((w2.setCell ⟨w.heap.size, 0, none⟩ (.int .i64 0)).setCell ⟨w.heap.size, 1, none⟩ (.int .i64 0)) l (.slice a3 l.length c3) vs) := by
    refine ⟨((HQ.out.1.trans (hb2.mono HQ.out.1.size)).setCell (p := ⟨w.heap.size, 0, none⟩) (Nat.le_refl _) _).setCell (p := ⟨w.heap.size, 1, none⟩) (Nat.le_refl _) _, ?_⟩
    have hsX := (Array.getElem?_eq_some_iff.1 HQ.out.2).1
    exact (hrw.keep (fun g hg _ => (Below.heap_setCell _ ⟨w.heap.size, 1, none⟩ _ g (by show ¬ g = w.heap.size; omega)).trans (Below.heap_setCell _ ⟨w.heap.size, 0, none⟩ _ g (by show ¬ g = w.heap.size; omega)))).mono (by omega)
  clear hok hb2 hrw hf3 HPa HQ
  go_wp2
  refine bodyPost_ret (v := .tuple #[.slice a3 l.length c3, .agg #[.int .i64 0, .int .i64 0]]) (by simp [results, Tryz.results9, go_sem, g0, g1]) rfl ⟨(fun k z hz => by cases hz), fun l' hl' => ?_, HZ.out.1⟩
  cases hl'
  exact ⟨_, vs, rfl, HZ.out.2⟩
end Go.Proofs.YtheiijnpggabkaaGreatDoor

/- The writer: all statements; what it has written. -/
namespace Go.Proofs.YtheiijnpggabkaaGreatDoor
open Go.RowKit Go.Shelf

/-- What is written of statements: of settings alone it is told. -/
def wP (m : Nat) : List Sm → Option (List UInt8)
  | [] => some []
  | x :: r => bif x.kind == 3 then match wE m x.ex with
      | none => none
      | some a => match wP m r with
        | none => none
        | some b => some (x.text ++ [32, 61, 32] ++ a ++ [10] ++ b)
    else none
theorem wP_cons {m : Nat} {x : Sm} {r : List Sm} {out : List UInt8} (h : wP m (x :: r) = some out) : x.kind = 3 ∧ ∃ a b, wE m x.ex = some a ∧ wP m r = some b ∧ out = x.text ++ [32, 61, 32] ++ a ++ [10] ++ b := by
  unfold wP at h
  cases hk : (x.kind == 3) with
  | false => rw [hk] at h; cases h
  | true =>
  rw [hk] at h
  cases ha : wE m x.ex with
  | none => rw [ha] at h; cases h
  | some a =>
  cases hb : wP m r with
  | none => rw [ha, hb] at h; cases h
  | some b =>
    rw [ha, hb] at h
    cases h
    exact ⟨by simpa using hk, a, b, rfl, rfl, rfl⟩
theorem SmV.kpw {B b : Nat} {w w' : World} (hk : Kp B b w w') {S : Nat → Prop} (hS : ∀ g, S g → g ≠ b) : ∀ {n : Nat} {x : Sm} {c : List Value}, SmV w S n x c → SmV w' S n x c
  | _ + 1, _, _, ⟨nv, ce, bv, ev, bs, es, e, h1, h2, h3, h4, k2, k3, k4, h5, h6⟩ => ⟨nv, ce, bv, ev, bs, es, e, h1.kpw hk hS, hk.row h2 (fun g hg => hS g (k2 g hg)) (by decide), hk.row h3 (fun g hg => hS g (k3 g hg)) (by decide), hk.row h4 (fun g hg => hS g (k4 g hg)) (by decide), k2, k3, k4, h5.mono fun _ _ f => SmV.kpw hk hS f, h6.mono fun _ _ f => SmV.kpw hk hS f⟩
theorem SmA.kpw {B b : Nat} {w w' : World} (hk : Kp B b w w') {S : Nat → Prop} (hS : ∀ g, S g → g ≠ b) {x : Sm} {c : List Value} (h : SmA w S x c) : SmA w' S x c := ⟨h.choose, h.choose_spec.kpw hk hS⟩
theorem flat10 : ∀ (vs : List (List Value)) (_ : ∀ c ∈ vs, c.length = 10) (k : Nat) (c : List Value) (_ : vs[k]? = some c) (i : Nat) (_ : i < 10), vs.flatten[k * 10 + i]? = c[i]?
  | v :: vs, h, 0, c, hk, i, hi => by
    cases hk
    rw [Nat.zero_mul, Nat.zero_add, List.flatten_cons, List.getElem?_append_left (by rw [h v (by simp)]; exact hi)]
  | v :: vs, h, k + 1, c, hk, i, hi => by
    have hv := h v (by simp)
    rw [List.flatten_cons, List.getElem?_append_right (by rw [hv]; omega), hv, show (k + 1) * 10 + i - 10 = k * 10 + i from by omega]
    exact flat10 vs (fun c hc => h c (by simp [hc])) k c (by simpa using hk) i hi
/-- Statements, where they lie. -/
structure RwT (S : Nat → Prop) (w : World) (l : List Sm) (v : Value) (vs : List (List Value)) : Prop where
  row : w.ownsRow 0 43 10 v l.length vs.flatten
  own : ∀ g, v.ownBlock = some g → S g
  fa : Fa (SmA w S) l vs
theorem RwT.kpw {B b : Nat} {w w' : World} (hk : Kp B b w w') {S : Nat → Prop} (hS : ∀ g, S g → g ≠ b) {l : List Sm} {v : Value} {vs : List (List Value)} (h : RwT S w l v vs) : RwT S w' l v vs := ⟨hk.row h.row (fun g hg => hS g (h.own g hg)) (by decide), h.own, h.fa.mono fun _ _ f => f.kpw hk hS⟩
theorem RwT.at {S : Nat → Prop} {w : World} {l : List Sm} {a : Option Addr} {n cap : Nat} {vs : List (List Value)} (h : RwT S w l (.slice a n cap) vs) (k : Nat) (hk : k < l.length) : ∃ g, a = some ⟨g, 0, none⟩ ∧ n = l.length ∧ ∃ c, SmA w S l[k] c ∧ ∀ i, i < 10 → w.cell? ⟨g, k * 10 + i, none⟩ = c[i]? := by
  obtain ⟨g, cap', hv, _, hc⟩ := row_form h.row (by omega)
  cases hv
  have hvl := h.fa.len
  refine ⟨g, rfl, rfl, vs[k]'(by omega), Fa.get h.fa k hk (by omega), fun i hi => ?_⟩
  rw [hc (k * 10 + i) (by have : k + 1 ≤ l.length := hk; omega)]
  exact flat10 vs (Fa.mem (fun _ _ f => f.len) h.fa) k _ (List.getElem?_eq_getElem (by omega)) i hi

set_option maxHeartbeats 8000000 in
set_option maxRecDepth 100000 in
theorem wstatements_any {m B b : Nat} {ls : List Sm} {out l : List UInt8} {w : World} {S : Nat → Prop} {v : Value} {vs : List (List Value)} (hx : wP m ls = some out) (h : WrIs B b 0 (Lib.byteCells l) w) (hB : B ≤ w.heap.size) (hg : 3 < B) (ht : TabW w) (hr : RwT S w ls v vs) (hS : ∀ g, S g → g ≠ b) (hn : ls.length ≤ 1000000) (hlen : l.length + out.length ≤ 1000000000) :
    Calls Tryz.prog 16 #[pt b, v] w (WpO B b 0 (l ++ out) w) := by
  obtain ⟨ao, cp, rfl⟩ := row_shape hr.row
  have HR : Hid (RwT S w ls (.slice ao ls.length cp) vs) := hr
  have HT : Hid (TabW w) := ht
  have HI : Hid (∃ l' rest, WrIs B b 0 (Lib.byteCells l') w ∧ Kp B b w w ∧ B ≤ w.heap.size ∧ wP m ls = some rest ∧ l' ++ rest = l ++ out) := ⟨l, out, h, Kp.refl _ _ _, hB, hx, rfl⟩
  have hni : (ls.length : Int) ≤ 1000000 := by omega
  clear h hB hx hr ht
  go_enter Tryz.func16, Tryz.ntmps16
  go_wp2
  go_loopw [8] (fun u wr => ∃ k : Nat, k ≤ ls.length ∧ u = .int .i64 (k : Int) ∧ Hid (∃ l' rest, WrIs B b 0 (Lib.byteCells l') wr ∧ Kp B b w wr ∧ B ≤ wr.heap.size ∧ wP m (ls.drop k) = some rest ∧ l' ++ rest = l ++ out)) (fun u _ => ls.length - (intOf u).toNat)
  case atStart => exact ⟨0, Nat.zero_le _, rfl, HI⟩
  case round =>
    obtain ⟨k, hk, rfl, hrel⟩ := hrel
    obtain ⟨l', rest, hw, hkp, hBw, hr, hll⟩ := hrel.out
    have hll2 := congrArg List.length hll
    simp only [List.length_append] at hll2
    clear hrel HI
    by_cases hlt : k < ls.length
    · have hki : (k : Int) < (ls.length : Int) := by omega
      rw [List.drop_eq_getElem_cons hlt] at hr
      obtain ⟨hkd, a, bs, ha, hb, rfl⟩ := wP_cons hr
      simp only [List.length_append, List.length_cons, List.length_nil] at hll2
      have hRW := HR.out.kpw hkp hS
      obtain ⟨g, rfl, _, cx, hsm, hcell⟩ := hRW.at k hlt
      generalize hxx : ls[k] = x at *
      obtain ⟨a0, c0, a1, c1, a2, c2, a3, c3, a4, c4, hcx⟩ := hsm.form
      subst hcx
      have v0 := hcell 0 (by decide)
      have v1 := hcell 1 (by decide)
      have v2 := hcell 2 (by decide)
      have v3 := hcell 3 (by decide)
      have v4 := hcell 4 (by decide)
      have v5 := hcell 5 (by decide)
      have v6 := hcell 6 (by decide)
      have v7 := hcell 7 (by decide)
      have v8 := hcell 8 (by decide)
      have v9 := hcell 9 (by decide)
      simp only [List.getElem?_cons_zero, List.getElem?_cons_succ, Nat.add_zero] at v0 v1 v2 v3 v4 v5 v6 v7 v8 v9
      have hk1 : Kp B b wr (wr.alloc (.cells #[.int .i64 x.kind, .string (mkB x.text), .slice a0 x.names.length c0, .int .i64 x.ex.kind, .int .i64 x.ex.num, .string (mkB x.ex.text), .slice a1 x.ex.kids.length c1, .slice a2 x.ex.names.length c2, .slice a3 x.body.length c3, .slice a4 x.els.length c4] 43)) := Kp.al b hBw _
      have s1 : (wr.alloc (.cells #[.int .i64 x.kind, .string (mkB x.text), .slice a0 x.names.length c0, .int .i64 x.ex.kind, .int .i64 x.ex.num, .string (mkB x.ex.text), .slice a1 x.ex.kids.length c1, .slice a2 x.ex.names.length c2, .slice a3 x.body.length c3, .slice a4 x.els.length c4] 43)).heap.size = wr.heap.size + 1 := World.size_alloc _ _
      have hbl := hw.lt
      have HBg := begin_any (hw.al (.cells #[.int .i64 x.kind, .string (mkB x.text), .slice a0 x.names.length c0, .int .i64 x.ex.kind, .int .i64 x.ex.num, .string (mkB x.ex.text), .slice a1 x.ex.kids.length c1, .slice a2 x.ex.names.length c2, .slice a3 x.body.length c3, .slice a4 x.els.length c4] 43)) (by omega) (by omega)
      have HQ : Hid (Kp B b w (wr.alloc (.cells #[.int .i64 x.kind, .string (mkB x.text), .slice a0 x.names.length c0, .int .i64 x.ex.kind, .int .i64 x.ex.num, .string (mkB x.ex.text), .slice a1 x.ex.kids.length c1, .slice a2 x.ex.names.length c2, .slice a3 x.body.length c3, .slice a4 x.els.length c4] 43)) ∧ (wr.alloc (.cells #[.int .i64 x.kind, .string (mkB x.text), .slice a0 x.names.length c0, .int .i64 x.ex.kind, .int .i64 x.ex.num, .string (mkB x.ex.text), .slice a1 x.ex.kids.length c1, .slice a2 x.ex.names.length c2, .slice a3 x.body.length c3, .slice a4 x.els.length c4] 43)).heap[wr.heap.size]? = some (.cells #[.int .i64 x.kind, .string (mkB x.text), .slice a0 x.names.length c0, .int .i64 x.ex.kind, .int .i64 x.ex.num, .string (mkB x.ex.text), .slice a1 x.ex.kids.length c1, .slice a2 x.ex.names.length c2, .slice a3 x.body.length c3, .slice a4 x.els.length c4] 43 (0, 0)) ∧ SmA (wr.alloc (.cells #[.int .i64 x.kind, .string (mkB x.text), .slice a0 x.names.length c0, .int .i64 x.ex.kind, .int .i64 x.ex.num, .string (mkB x.ex.text), .slice a1 x.ex.kids.length c1, .slice a2 x.ex.names.length c2, .slice a3 x.body.length c3, .slice a4 x.els.length c4] 43)) S x [.int .i64 x.kind, .string (mkB x.text), .slice a0 x.names.length c0, .int .i64 x.ex.kind, .int .i64 x.ex.num, .string (mkB x.ex.text), .slice a1 x.ex.kids.length c1, .slice a2 x.ex.names.length c2, .slice a3 x.body.length c3, .slice a4 x.els.length c4]) := ⟨hkp.trans hk1, heap_alloc_new wr _, hsm.keep (fun g _ hg => heap_al wr _ g hg) (fun _ hg _ => hg)⟩
      have HKD : Hid (x.kind = 3) := hkd
      clear hcell hsm hRW hw hkp hBw hk1 s1 hkd
      go_wp2_with fail
      refine HBg.mono ?_
      rintro e w1 ⟨rfl, h1, hk1, hB1⟩
      obtain ⟨u0, u1, u2, u3, u4, u5, u6, u7, u8, u9⟩ := ten_of (hk1.other HQ.out.2.1 (by omega) (by decide))
      have HSt := wstatement_any HKD.out ha h1 hB1 hg (HT.out.kp (HQ.out.1.trans hk1) hg) (HQ.out.2.2.kpw hk1 hS) hS (by omega)
      clear h1 hB1 HBg
      go_wp2_with fail
      refine HSt.mono ?_
      rintro e w2 ⟨rfl, h2, hk2, hB2⟩
      have HI : Hid (∃ l'' rest, WrIs B b 0 (Lib.byteCells l'') w2 ∧ Kp B b w w2 ∧ B ≤ w2.heap.size ∧ wP m (ls.drop (k + 1)) = some rest ∧ l'' ++ rest = l ++ out) := ⟨_, bs, h2, (HQ.out.1.trans hk1).trans hk2, hB2, hb, by rw [← hll]; simp⟩
      clear h2 hk2 hB2 hk1 HSt HQ
      go_wp2
      exact ⟨⟨k + 1, by omega, by go_num, HI⟩, by simp [intOf]; omega⟩
    · obtain rfl : k = ls.length := by omega
      rw [List.drop_length] at hr
      have hr2 : rest = [] := by simpa [wP] using hr.symm
      subst hr2
      rw [List.append_nil] at hll
      subst hll
      go_wp2
      go_end0
      exact ⟨rfl, hw, hkp, hBw⟩

/-- What was written may be read. -/
def StR (B b : Nat) (l : List UInt8) (w : World) : Prop := ∃ g cap size, B ≤ g ∧ g < w.heap.size ∧ b < w.heap.size ∧ w.cell? ⟨b, 1, none⟩ = some (.slice (some ⟨g, 0, none⟩) l.length cap) ∧ w.shape? g = some (5, size) ∧ (l.length ≤ size ∧ l.length ≤ cap) ∧ size ≤ maxLen ∧ g ≠ b ∧ ∀ (j : Nat) (x : UInt8), l[j]? = some x → w.cell? ⟨g, j, none⟩ = some (.int .u8 x.toNat)
theorem StR.up {B b : Nat} {l : List UInt8} {w w' : World} (h : StR B b l w) (hb : Below w.heap.size w w') : StR B b l w' := by
  obtain ⟨g, cap, size, h1, h2, h3, h4, h5, h6, h7, h8, h9⟩ := h
  refine ⟨g, cap, size, h1, Nat.lt_of_lt_of_le h2 hb.size, Nat.lt_of_lt_of_le h3 hb.size, (World.cell?_of_block (hb.block b h3)).trans h4, ?_, h6, h7, h8, fun j x hx => (World.cell?_of_block (hb.block g h2)).trans (h9 j x hx)⟩
  rw [← h5]
  simp [World.shape?, hb.block g h2]
theorem StR.of {B b : Nat} {n : Int} {l : List UInt8} {w : World} (h : WrIs B b n (Lib.byteCells l) w) (h0 : l ≠ []) : StR B b l w := by
  have hbl := h.lt
  obtain ⟨p, hB, v, hbk, hown, hne⟩ : ∃ p, WrAt B b n p (Lib.byteCells l) w := by
    rcases h with h | h
    · exact ⟨_, h⟩
    · exact ⟨_, h⟩
  have hl0 : l.length ≠ 0 := by simpa using h0
  rw [Lib.byteCells_length] at hown
  rcases hown.2 with ⟨_, hz⟩ | ⟨g, cap, cur, rfl, hbg, hg, hnc, hcm, hcs, htake⟩
  · exact absurd hz hl0
  · refine ⟨g, cap, cur.size, hbg, (Array.getElem?_eq_some_iff.1 hg).1, hbl, by rw [Lib.cell_of_heap hbk]; rfl, by simp [World.shape?, hg], ⟨by omega, hnc⟩, by omega, fun e => hne (by rw [e]; rfl), fun j x hx => ?_⟩
    have h9 := hown.cells (g := g) rfl j (.int .u8 x.toNat) (by simp [Lib.byteCells, hx])
    rwa [add0] at h9

theorem freeze_shape (w : World) (g n : Nat) : (w.drew.freeze ⟨g, 0, none⟩ n).shape? g = w.shape? g := by
  by_cases hn : n = 0
  · unfold World.freeze
    rw [if_pos hn]
    rfl
  · unfold World.freeze World.shape?
    rw [if_neg hn]
    have : w.drew.heap[g]? = w.heap[g]? := rfl
    simp only [Array.getElem?_modify, this]
    cases w.heap[g]? with
    | none => simp
    | some o => cases o <;> simp
theorem freeze_cell (w : World) (g n j : Nat) : (w.drew.freeze ⟨g, 0, none⟩ n).cell? ⟨g, j, none⟩ = w.cell? ⟨g, j, none⟩ := by
  by_cases hn : n = 0
  · unfold World.freeze
    rw [if_pos hn]
    rfl
  · unfold World.freeze World.cell?
    rw [if_neg hn]
    have : w.drew.heap[g]? = w.heap[g]? := rfl
    simp only [Array.getElem?_modify, this]
    cases w.heap[g]? with
    | none => simp
    | some o => cases o <;> simp

set_option maxHeartbeats 2000000 in
set_option maxRecDepth 100000 in
theorem stR_any {B b : Nat} {l : List UInt8} {w : World} (h : StR B b l w) (h0 : l ≠ []) :
    Calls Tryz.prog 12 #[pt b] w fun e w' => e = .returned (.string ⟨l.toArray⟩) ∧ Below B w w' ∧ StR B b l w' := by
  have H : Hid (StR B b l w) := h
  obtain ⟨g, cap, size, h1, h2, h3, c1, h5, h6, h7, h8, h9⟩ := h
  have hl0 : l.length ≠ 0 := by simpa using h0
  have hcp := h6.2
  have hls := h6.1
  have hSD : (Builtin.unsafeSliceData_ #[44] 60 #[.slice (some ⟨g, 0, none⟩) l.length cap]).run Tryz.prog w.drew = .ok (.pointer (some ⟨g, 0, none⟩)) w.drew :=
    Lib.run_unsafeSliceData_row _ _ _ _ _ _ (by omega)
  have hUS : (Builtin.unsafeString_ #[60, 3] 9 #[.pointer (some ⟨g, 0, none⟩), .int .i64 l.length]).run Tryz.prog w.drew = .ok (.string ⟨l.toArray⟩) (w.drew.freeze ⟨g, 0, none⟩ l.length) :=
    Lib.run_unsafeString_row w.drew 60 3 9 5 Tryz.underlying60 celB g size h5 l h0 (by omega) (by unfold maxLen at h7; omega) (fun j x hx => by rw [add0]; exact h9 j x hx)
  have HF : Hid (StR B b l (w.drew.freeze ⟨g, 0, none⟩ l.length)) := by
    have hh : ∀ k, k ≠ g → (w.drew.freeze ⟨g, 0, none⟩ l.length).heap[k]? = w.heap[k]? := fun k hk => by
      unfold World.freeze
      rw [if_neg hl0]
      simp [Array.getElem?_modify, Ne.symm hk]
      all_goals rfl
    have hz : (w.drew.freeze ⟨g, 0, none⟩ l.length).heap.size = w.heap.size := by
      unfold World.freeze
      rw [if_neg hl0]
      simp
      all_goals rfl
    have hcg : ∀ j, (w.drew.freeze ⟨g, 0, none⟩ l.length).cell? ⟨g, j, none⟩ = w.cell? ⟨g, j, none⟩ := fun j => freeze_cell w g l.length j
    refine ⟨g, cap, size, h1, by rw [hz]; exact h2, by rw [hz]; exact h3, (World.cell?_of_block (hh b (fun e => h8 e.symm))).trans c1, ?_, h6, h7, h8, fun j x hx => (hcg j).trans (h9 j x hx)⟩
    rw [← h5]
    exact freeze_shape w g l.length
  have HBe : Hid (Below B w (w.drew.freeze ⟨g, 0, none⟩ l.length)) := Lib.below_freeze (Below.drew (Below.refl B w)) (p := ⟨g, 0, none⟩) h1 _
  clear h5 h9
  go_enter Tryz.func12, Tryz.ntmps12
  go_wp2
  go_region
  all_goals
    go_wp2
    go_ret
    exact ⟨rfl, HBe.out, HF.out⟩
end Go.Proofs.YtheiijnpggabkaaGreatDoor

/- Canon, where it is told. -/
namespace Go.Proofs.YtheiijnpggabkaaGreatDoor
open Go.RowKit Go.Shelf

abbrev fz : Obj := .cells #[.int .i64 0, .int .i64 0] 28
abbrev wz : Obj := .cells #[.pointer none, .slice none 0 0, .int .i64 0] 49
theorem RwS.rt {n : Nat} {w : World} {l : List Sm} {v : Value} {vs : List (List Value)} (h : RwS n w l v vs) : RwT (fun g => n ≤ g ∧ g < w.heap.size) w l v vs :=
  ⟨row_mono h.row (Nat.zero_le _), fun g hg => h.row.lt g hg, h.fa.mono fun _ _ f => f.mono fun _ hg hg2 => ⟨hg.1, hg2⟩⟩
theorem RwT.up {S : Nat → Prop} {w w' : World} {l : List Sm} {v : Value} {vs : List (List Value)} (h : RwT S w l v vs) (hb : ∀ g, S g → w'.heap[g]? = w.heap[g]?) : RwT S w' l v vs :=
  ⟨own_heap h.row fun g hg => hb g (h.own g hg), h.own, h.fa.mono fun _ _ f => f.keep (fun g hg _ => hb g hg) (fun _ hg _ => hg)⟩
theorem two_of {w : World} {R : Nat} (h : w.heap[R]? = some fz) : w.cell? ⟨R, 0, none⟩ = some (.int .i64 0) ∧ w.cell? ⟨R, 1, none⟩ = some (.int .i64 0) ∧ w.frozen? ⟨R, 0, none⟩ = false ∧ w.frozen? ⟨R, 1, none⟩ = false := by
  refine ⟨?_, ?_, Lib.frozen_of_heap h 0, Lib.frozen_of_heap h 1⟩ <;> (rw [Lib.cell_of_heap h]; rfl)
theorem ErrR.bel {w w' : World} (h : ErrR w) {B : Nat} (hb : Below B w w') (hB : w.heap.size ≤ B) : ErrR w' := h.up (hb.mono hB)
theorem TabW.bel {w w' : World} (h : TabW w) {B : Nat} (hb : Below B w w') (hB : w.heap.size ≤ B) : TabW w' := h.of_block (hb.block _ (Nat.lt_of_lt_of_le h.lt hB))

set_option maxHeartbeats 8000000 in
set_option maxRecDepth 100000 in
theorem Canon_ok (L out : List UInt8) (w : World) (hr : ErrR w) (ht : TabW w) {m : Nat} {l l2 : List Sm} (h1 : parL L = some l) (h2 : wP m l = some out) (h3 : parL out = some l2) (h0 : out ≠ []) (hn : l.length ≤ 1000000) (hlen : out.length ≤ 1000000) :
    Calls Tryz.prog 10 #[.string (mkB L)] w fun e w' => e = .returned (.tuple #[.string ⟨out.toArray⟩, .agg #[.int .i64 0, .int .i64 0]]) ∧ Below w.heap.size w w' := by
  have s0 : (w.alloc fz).heap.size = w.heap.size + 1 := World.size_alloc _ _
  have hb0 : Below w.heap.size w (w.alloc fz) := alB w fz
  have hf0 : (w.alloc fz).heap[w.heap.size]? = some fz := heap_alloc_new w fz
  have HP := Parse_ok L (w.alloc fz) (hr.bel hb0 (Nat.le_refl _)) h1
  have HR : Hid (ErrR w ∧ TabW w) := ⟨hr, ht⟩
  have H3 : Hid (∀ W, ErrR W → Calls Tryz.prog 9 #[.string ⟨out.toArray⟩] W (ParP W (.ok l2))) := fun W hW => Parse_ok out W hW h3
  have H2 : Hid (wP m l = some out) := h2
  clear hr ht h1 h2 h3
  go_enter Tryz.func10, Tryz.ntmps10
  go_wp2_with fail
  refine HP.mono ?_
  rintro e w1 ⟨_, hok, hb1⟩
  obtain ⟨v, vs, rfl, hrw⟩ := hok l rfl
  obtain ⟨a1, c1, rfl⟩ := row_shape hrw.row
  have s1 : w.heap.size + 1 ≤ w1.heap.size := by have := hb1.size; omega
  have s2 : (w1.alloc fz).heap.size = w1.heap.size + 1 := World.size_alloc _ _
  have s3 : ((w1.alloc fz).alloc wz).heap.size = w1.heap.size + 1 + 1 := by rw [World.size_alloc, s2]
  have kX : ∀ g, g < w1.heap.size → ((w1.alloc fz).alloc wz).heap[g]? = w1.heap[g]? := fun g hg => (heap_al _ _ _ (by omega)).trans (heap_al _ _ _ hg)
  have hbX : Below w.heap.size w ((w1.alloc fz).alloc wz) := ((hb0.trans (hb1.mono (by omega))).trans ((alB w1 fz).mono (by omega))).trans ((alB _ wz).mono (by omega))
  have hfX : ((w1.alloc fz).alloc wz).heap[w.heap.size]? = some fz := (kX _ (by omega)).trans ((hb1.block _ (by omega)).trans hf0)
  have hwX : WrIs (w1.heap.size + 1) (w1.heap.size + 1) 0 (Lib.byteCells []) ((w1.alloc fz).alloc wz) := by
    refine .inl ⟨Nat.le_refl _, .slice none 0 0, ?_, World.ownsRow_nil _ _ _ _, by simp [Value.ownBlock]⟩
    have := heap_alloc_new (w1.alloc fz) wz
    rwa [s2] at this
  have hgp : 3 < w1.heap.size + 1 := by have := HR.out.2.lt; omega
  have HSt := wstatements_any H2.out hwX (by omega) hgp (HR.out.2.bel hbX (Nat.le_refl _)) (hrw.rt.up (fun g hg => kX g hg.2)) (fun g hg => by have := hg.2; omega) hn (by simpa using (by omega : out.length ≤ 1000000000))
  have HQ : Hid (Below w.heap.size w ((w1.alloc fz).alloc wz) ∧ ((w1.alloc fz).alloc wz).heap[w.heap.size]? = some fz ∧ w.heap.size + 1 ≤ w1.heap.size ∧ ((w1.alloc fz).alloc wz).heap.size = w1.heap.size + 1 + 1) := ⟨hbX, hfX, s1, s3⟩
  clear HP hok hb1 hrw hb0 hf0 s0 s1 s2 s3 kX hbX hfX hwX hgp
  go_wp2_with fail
  refine HSt.mono ?_
  rintro e w3 ⟨rfl, h3, hk3, hB3⟩
  have HSg := stR_any (StR.of h3 (by simpa using h0)) (by simpa using h0)
  have hb3 : Below w.heap.size w w3 := HQ.out.1.trans (hk3.1.mono (by have := HQ.out.2.2.1; omega))
  have hf3 : w3.heap[w.heap.size]? = some fz := (hk3.1.block _ (by have := HQ.out.2.2.1; omega)).trans HQ.out.2.1
  clear HSt h3 hk3
  go_wp2_with fail
  refine HSg.mono ?_
  rintro e w4 ⟨rfl, hb4, hst4⟩
  have hs13 := HQ.out.2.2.1
  have hb4' : Below w.heap.size w w4 := hb3.trans (hb4.mono (by omega))
  have hf4 : w4.heap[w.heap.size]? = some fz := (hb4.block _ (by omega)).trans hf3
  have HP2 := H3.out w4 (HR.out.1.bel hb4' (Nat.le_refl _))
  clear HSg hb4 hb3 hf3
  go_wp2_with fail
  refine HP2.mono ?_
  rintro e w5 ⟨_, hok, hb5⟩
  obtain ⟨v5, vs5, rfl, hrw5⟩ := hok l2 rfl
  obtain ⟨a5, c5, rfl⟩ := row_shape hrw5.row
  have hst5 := (hst4.up hb5).up (alB w5 fz)
  have HSg := stR_any hst5 (by simpa using h0)
  have hs4 := hb4'.size
  have hs5 := hb5.size
  have hb5' : Below w.heap.size w (w5.alloc fz) := (hb4'.trans (hb5.mono hs4)).trans ((alB w5 fz).mono (by omega))
  have hf4l := (Array.getElem?_eq_some_iff.1 hf4).1
  have hf5 : (w5.alloc fz).heap[w.heap.size]? = some fz := (heap_al _ _ _ (by omega)).trans ((hb5.block _ hf4l).trans hf4)
  clear HP2 hok hrw5 hst4 hst5 hb5 hb4' hf4
  go_wp2_with fail
  refine HSg.mono ?_
  rintro e w6 ⟨rfl, hb6, _⟩
  obtain ⟨g0, g1, k0, k1⟩ := two_of ((hb6.block w.heap.size (by omega)).trans hf5)
  have HZ : Hid (Below w.heap.size w ((w6.setCell ⟨w.heap.size, 0, none⟩ (.int .i64 0)).setCell ⟨w.heap.size, 1, none⟩ (.int .i64 0))) := ((hb5'.trans (hb6.mono (by omega))).setCell (p := ⟨w.heap.size, 0, none⟩) (Nat.le_refl _) _).setCell (p := ⟨w.heap.size, 1, none⟩) (Nat.le_refl _) _
  clear HSg hb6 hb5' hf5
  go_wp2
  refine bodyPost_ret (v := .tuple #[.string ⟨out.toArray⟩, .agg #[.int .i64 0, .int .i64 0]]) (by simp [results, Tryz.results10, go_sem, g0, g1]) rfl ⟨rfl, HZ.out⟩
end Go.Proofs.YtheiijnpggabkaaGreatDoor

/- What must be in any case of sources. -/
namespace Go.Proofs.YtheiijnpggabkaaGreatDoor
open Go.RowKit Go.Shelf

def stm1 : Sm := ⟨3, [97], [], ⟨14, 0, [43], [⟨13, 0, [], [⟨4, 1, [], [], []⟩], []⟩, ⟨4, 2, [], [], []⟩], []⟩, [], []⟩
def stm2 : Sm := ⟨3, [97], [], ⟨11, 0, [], [⟨7, 0, [], [⟨4, 1, [], [], []⟩, ⟨4, 2, [], [], []⟩], []⟩, ⟨4, 0, [], [], []⟩], []⟩, [], []⟩
theorem par1 : parL [97, 32, 61, 32, 45, 49, 32, 43, 32, 50] = some [stm1] := by kernel_rfl
theorem par2 : parL [97, 61, 91, 49, 44, 50, 93, 91, 48, 93] = some [stm2] := by kernel_rfl
theorem par3 : parL [97, 32, 61, 32, 91, 49, 44, 32, 50, 93, 91, 48, 93, 10] = some [stm2] := by kernel_rfl
theorem dd0 : Lib.decDigits 0 = [48] := by rw [Lib.decDigits, dif_pos (by decide)]; rfl
theorem dd1 : Lib.decDigits 1 = [49] := by rw [Lib.decDigits, dif_pos (by decide)]; rfl
theorem dd2 : Lib.decDigits 2 = [50] := by rw [Lib.decDigits, dif_pos (by decide)]; rfl
theorem wri2 : wP 5 [stm2] = some [97, 32, 61, 32, 91, 49, 44, 32, 50, 93, 91, 48, 93, 10] := by
  simp [wP, wE, wL, stm2, dd0, dd1, dd2]

set_option maxHeartbeats 8000000 in
set_option maxRecDepth 100000 in
theorem sbegun_any (w : World) (hr : ErrR w) (ht : TabW w) :
    Calls Tryz.prog 5 #[] w fun e w' => e = .returned (.bool true) ∧ Below w.heap.size w w' := by
  have HP : Calls Tryz.prog 9 #[.string ⟨#[97, 32, 61, 32, 45, 49, 32, 43, 32, 50]⟩] w (ParP w (.ok [stm1])) := Parse_ok [97, 32, 61, 32, 45, 49, 32, 43, 32, 50] w hr par1
  have HC : Hid (∀ W, ErrR W → TabW W → Calls Tryz.prog 10 #[.string ⟨#[97, 61, 91, 49, 44, 50, 93, 91, 48, 93]⟩] W fun e w' => e = .returned (.tuple #[.string ⟨#[97, 32, 61, 32, 91, 49, 44, 32, 50, 93, 91, 48, 93, 10]⟩, .agg #[.int .i64 0, .int .i64 0]]) ∧ Below W.heap.size W w') := fun W h1 h2 => Canon_ok [97, 61, 91, 49, 44, 50, 93, 91, 48, 93] [97, 32, 61, 32, 91, 49, 44, 32, 50, 93, 91, 48, 93, 10] W h1 h2 par2 wri2 par3 (by simp) (by simp) (by simp)
  have HR : Hid (ErrR w ∧ TabW w) := ⟨hr, ht⟩
  clear hr ht
  go_enter Tryz.func5, Tryz.ntmps5
  go_wp2_with fail
  refine HP.mono ?_
  rintro e w1 ⟨_, hok, hb1⟩
  obtain ⟨v, vs, rfl, hrw⟩ := hok [stm1] rfl
  obtain ⟨a1, c1, rfl⟩ := row_shape hrw.row
  have hbX : Below w.heap.size w (w1.alloc fz) := hb1.trans ((alB w1 fz).mono hb1.size)
  have hfX : (w1.alloc fz).heap[w1.heap.size]? = some fz := heap_alloc_new w1 fz
  have s1 : (w1.alloc fz).heap.size = w1.heap.size + 1 := World.size_alloc _ _
  have HCa := HC.out (w1.alloc fz) (HR.out.1.bel hbX (Nat.le_refl _)) (HR.out.2.bel hbX (Nat.le_refl _))
  have hrt : RwT _ (w1.alloc fz) [stm1] _ vs := hrw.rt.up (fun g hg => heap_al w1 _ g hg.2)
  clear HP hok hrw
  go_wp2_with fail
  refine HCa.mono ?_
  rintro e w2 ⟨rfl, hb2⟩
  have hb2' : Below w.heap.size w (w2.alloc fz) := (hbX.trans (hb2.mono hbX.size)).trans ((alB w2 fz).mono (by have := hb2.size; have := hbX.size; omega))
  have hs2 := hb2.size
  have hrt2 : RwT _ (w2.alloc fz) [stm1] _ vs := hrt.up (fun g hg => (heap_al w2 _ g (by have := hg.2; omega)).trans (hb2.block g (by have := hg.2; omega)))
  obtain ⟨g, rfl, hn1, cx, hsm, hcell⟩ := hrt2.at 0 (by simp)
  obtain ⟨a0, k0, b1, k1, b2, k2, b3, k3, b4, k4, hcx⟩ := hsm.form
  subst hcx
  have v0 := hcell 0 (by decide)
  have v0' : (w2.alloc fz).cell? ⟨g, 0, none⟩ = some (.int .i64 3) := v0
  obtain ⟨f0, f1, _, _⟩ := two_of ((heap_al w2 fz w1.heap.size (by omega)).trans ((hb2.block w1.heap.size (by omega)).trans hfX))
  have s2 : (w2.alloc fz).heap.size = w2.heap.size + 1 := World.size_alloc _ _
  have hcv : (convert 44 9 (.slice (some ⟨w2.heap.size + 1, 0, none⟩) 1 1)).run Tryz.prog ((w2.alloc fz).alloc (.cells #[.int .u8 10] 5)) = .ok (.string ⟨#[10]⟩) ((w2.alloc fz).alloc (.cells #[.int .u8 10] 5)) :=
    run_convert_bytes_back _ 44 9 5 ⟨w2.heap.size + 1, 0, none⟩ 1 [10] Tryz.underlying44 Tryz.underlying5 Tryz.underlying9 fun j hj => by
      have hj0 : j = 0 := by simpa using hj
      subst hj0
      have := heap_alloc_new (w2.alloc fz) (.cells #[.int .u8 10] 5)
      rw [s2] at this
      rw [add0, Lib.cell_of_heap this]
      rfl
  have HBz : Hid (Below w.heap.size w ((w2.alloc fz).alloc (.cells #[.int .u8 10] 5))) := hb2'.trans ((alB _ _).mono hb2'.size)
  have hcat : ((⟨#[97, 32, 61, 32, 91, 49, 44, 32, 50, 93, 91, 48, 93]⟩ : ByteArray) ++ ⟨#[10]⟩).toList = [97, 32, 61, 32, 91, 49, 44, 32, 50, 93, 91, 48, 93, 10] := by rw [Lib.toList_data]; simp
  clear HCa hb2 hrt hrt2 hsm hcell v0 hbX hfX
  go_wp2
  go_ret
  exact ⟨rfl, HBz.out⟩
end Go.Proofs.YtheiijnpggabkaaGreatDoor

/- What the rows of the statements on sources lay: the powers of ten, an error of its own; the second form's witness. -/
namespace Go.Proofs.YtheiijnpggabkaaGreatDoor
open Go.ChangeShapes Go.WideShapes Go.ChangeAt Go.RowKit Go.Shelf

theorem witness_up {H : Type} {enc : TypeId × Value → H} {C : Checked} {os : Os} {f : FuncId} {fn : Func} {s : OpenSpec} {conds : List PathCond} {apart : Bool} {laid : List (String × DataW Unit)} (w0 : World) (args : Array Value) (hos : w0.os = os)
    (hsh : (w0.forCall (fun _ _ => 0) ⟨#[], args, []⟩).Shaped C.prog)
    (hok : Input.okWideB C.prog (w0.forCall (fun _ _ => 0) ⟨#[], args, []⟩) f ⟨#[], args, []⟩ = true)
    (hrow : s.preRow enc C.prog fn conds apart laid (w0.forCall (fun _ _ => 0) ⟨#[], args, []⟩).memory args) :
    ∃ (w : World) (tape : Tape) (i : Input), w.os = os ∧ (w.forCall tape i).Shaped C.prog ∧ i.vars = [] ∧ Input.okWide C.prog (w.forCall tape i) .any w.heap.size f i ∧
      s.preRow enc C.prog fn conds apart laid (w.forCall tape i).memory i.args ∧ ({} : Assume).holds C.prog (lone (Frame.enter C.prog f i.args .normal) [] (w.forCall tape i)) :=
  ⟨w0, fun _ _ => 0, ⟨#[], args, []⟩, hos, hsh, (Input.okWide_of_okWideB (base := 0) hok).1, (Input.okWide_of_okWideB hok).2, hrow, by
    simp only [Assume.holds]
    exact ⟨by simp, by simp, fun _ => Modest.zero, by simp, by simp⟩⟩
theorem own : ownKnob Tryz.prog.godebug = none := by kernel_rfl
theorem starE : "*" ++ "errors.errorString" = "*errors.errorString" := by decide +kernel
theorem rowE (u : TypeId) (h : Tryz.prog.typeName? 3 u = some "*errors.errorString") : u = 137 :=
  typeName_ptr_named (nm := "errors.errorString") (by rw [starE]; kernel_rfl) (by kernel_rfl) (by decide) u (by rw [starE]; exact h)
theorem tab_laid {W : World} {rest : List (String × DataW Unit)} {ps : List MemPlace} (h : DataW.LaidVars Tryz.prog W (("internal/strconv.uint64pow10", Rows.laid_internal_strconv_uint64pow10) :: rest) ps) : Lib.TabIs Tryz.prog W "internal/strconv.uint64pow10" .u64 Lib.pow10Tab := by
  rw [show Rows.laid_internal_strconv_uint64pow10 = Lib.tabData .u64 Lib.pow10Tab by kernel_rfl] at h
  obtain ⟨g, t, cs, fuel, p, q, hg, ht, hvar, hd, _, _⟩ := h
  have hg0 : Tryz.prog.globalNamed "internal/strconv.uint64pow10" = some 3 := by kernel_rfl
  obtain rfl := Option.some.inj (hg0.symm.trans hg)
  have ht0 : (Tryz.prog.globals[3]?).map (·.type) = some 142 := by kernel_rfl
  obtain rfl := Option.some.inj (ht0.symm.trans ht)
  unfold Lib.TabIs
  rw [hvar, ← Lib.cells_of_tab Tryz.underlying142 Tryz.underlying100 (by kernel_rfl) (by kernel_rfl) hd]

theorem err_syntaxWritesUpto {W : World} (h : laidMetH Tryz.prog Rows.syntaxWritesUptoRow.laid W) : ErrR W := by
  rw [MakeChecks.laidMetH_plain _ _ _ (by kernel_rfl)] at h
  have h3 : laidMet Tryz.prog (Rows.syntaxWritesUptoRow.laid.drop 3) W := h.tail.tail.tail
  obtain ⟨a, s, hv, _⟩ := laid_sentinel (P := Tryz.prog) (n := "strconv.ErrRange") (nm := "*errors.errorString") (g := 2) (ti := 56) (tp := 137) (te := 139) (ts := 9) h3 (by kernel_rfl) (by kernel_rfl) Tryz.underlying56 rowE Tryz.underlying137 Tryz.underlying139 rfl rfl Tryz.underlying9 (by kernel_rfl) (by kernel_rfl)
  exact ⟨_, World.var?_cell (by kernel_rfl) hv 0, .inr ⟨_, _, rfl⟩⟩
theorem tab_syntaxWritesUpto {W : World} (h : laidMetH Tryz.prog Rows.syntaxWritesUptoRow.laid W) : TabW W := by
  rw [MakeChecks.laidMetH_plain _ _ _ (by kernel_rfl)] at h
  have h3 : laidMet Tryz.prog (Rows.syntaxWritesUptoRow.laid.drop 2) W := h.tail.tail
  obtain ⟨ps, hv, _, _⟩ := h3
  exact tab_laid hv
theorem err_syntaxQuotesUpto {W : World} (h : laidMetH Tryz.prog Rows.syntaxQuotesUptoRow.laid W) : ErrR W := by
  rw [MakeChecks.laidMetH_plain _ _ _ (by kernel_rfl)] at h
  have h3 : laidMet Tryz.prog (Rows.syntaxQuotesUptoRow.laid.drop 3) W := h.tail.tail.tail
  obtain ⟨a, s, hv, _⟩ := laid_sentinel (P := Tryz.prog) (n := "strconv.ErrRange") (nm := "*errors.errorString") (g := 2) (ti := 56) (tp := 137) (te := 139) (ts := 9) h3 (by kernel_rfl) (by kernel_rfl) Tryz.underlying56 rowE Tryz.underlying137 Tryz.underlying139 rfl rfl Tryz.underlying9 (by kernel_rfl) (by kernel_rfl)
  exact ⟨_, World.var?_cell (by kernel_rfl) hv 0, .inr ⟨_, _, rfl⟩⟩
theorem tab_syntaxQuotesUpto {W : World} (h : laidMetH Tryz.prog Rows.syntaxQuotesUptoRow.laid W) : TabW W := by
  rw [MakeChecks.laidMetH_plain _ _ _ (by kernel_rfl)] at h
  have h3 : laidMet Tryz.prog (Rows.syntaxQuotesUptoRow.laid.drop 2) W := h.tail.tail
  obtain ⟨ps, hv, _, _⟩ := h3
  exact tab_laid hv
end Go.Proofs.YtheiijnpggabkaaGreatDoor

/- Quote: a text between quotes. -/
namespace Go.Proofs.YtheiijnpggabkaaGreatDoor
open Go.RowKit Go.Joins

set_option maxHeartbeats 2000000 in
set_option maxRecDepth 100000 in
theorem Quote_any (s : ByteArray) (w : World) (hs : 2 * s.size + 2 ≤ 140737488355328) :
    Calls Tryz.prog 6 #[.string s] w fun e w' => e = .returned (.string ⟨(qtL s.data.toList).toArray⟩) ∧ Below w.heap.size w w' := by
  obtain ⟨W, hW⟩ : ∃ W, W = w.alloc (.cells #[.pointer none, .slice none 0 0, .int .i64 0] 49) := ⟨_, rfl⟩
  have hWb : Below w.heap.size w W := by rw [hW]; exact (Below.refl _ w).alloc (Nat.le_refl _) _
  have hWc : W.heap[w.heap.size]? = some (.cells #[.pointer none, .slice none 0 0, .int .i64 0] 49 (0, 0)) := by rw [hW]; exact heap_alloc_new w _
  have h0 : WrIs w.heap.size w.heap.size 0 (Lib.byteCells []) W := .inl ⟨Nat.le_refl _, _, hWc, ⟨rfl, .inl ⟨rfl, rfl⟩⟩, fun e => by cases e⟩
  have H1 := wtext_any w.heap.size w.heap.size 0 [] s W h0 (by simpa using hs) hWb.size
  have HS : Hid (∀ w2, WrIs w.heap.size w.heap.size 0 (Lib.byteCells (qtL s.data.toList)) w2 ∧ Kp w.heap.size w.heap.size W w2 → Calls Tryz.prog 12 #[.pointer (some ⟨w.heap.size, 0, none⟩)] w2 fun e w' => e = .returned (.string ⟨(qtL s.data.toList).toArray⟩) ∧ Hid (Below w.heap.size w w')) := fun w2 hw2 => (stW_any w.heap.size w.heap.size 0 (qtL s.data.toList) w2 hw2.1 (by simp [qtL])).mono fun e w' ⟨q1, q2⟩ => ⟨q1, hWb.trans (hw2.2.bel.trans q2)⟩
  clear hWb hWc h0
  subst hW
  rw [List.nil_append] at H1
  generalize qtL s.data.toList = l at *
  go_enter Tryz.func6, Tryz.ntmps6
  go_wp2_with fail
  refine H1.mono ?_
  rintro e w2 ⟨rfl, G2⟩
  have H2 := HS.out w2 G2.out
  clear H1 HS G2
  go_wp2_with fail
  refine H2.mono ?_
  rintro e w3 ⟨rfl, G3⟩
  clear H2
  go_wp2
  go_ret
  exact ⟨rfl, G3.out⟩
end Go.Proofs.YtheiijnpggabkaaGreatDoor
