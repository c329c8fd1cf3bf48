/- What is handed back of expressions; refuseDeep. -/
import Derived.Deep.RegionHeld3
import Derived.Shelf.Strconv.Itoa3
import Derived.Test.YtheiijnpggabkaaGreatDoorChecked
import Derived.Lib.LaidTab
import Derived.Test.YtheiijnpggabkaaGreatDoorTs4
namespace Go.Proofs.YtheiijnpggabkaaGreatDoor
open Go.RowKit Go.Shelf
attribute [local go_sem ↓] fld0 fld1 fld2 fld3

abbrev ez : Obj := .cells #[.int .i64 0, .int .i64 0, .string ⟨#[]⟩, .slice none 0 0, .slice none 0 0] 41
theorem szE : (Tryz.prog.info? 41).map (·.size) = some 5 := by kernel_rfl
theorem ExA.one {w : World} {S : Nat → Prop} {x : Ex} {c : List Value} (h : ExA w S x c) : ∀ v ∈ c, v.oneCell' = true := by
  obtain ⟨kv, nv, vs, rfl, h1, h2, _⟩ := h.open
  obtain ⟨a1, c1, rfl⟩ := row_shape h1
  obtain ⟨a2, c2, rfl⟩ := row_shape h2
  intro v hv
  simp [sv] at hv
  rcases hv with rfl | rfl | rfl | rfl | rfl <;> rfl
/-- An expression as a value, all of it new. -/
def VE (n : Nat) (w : World) (x : Ex) (v : Value) : Prop := ∃ c, v = .agg c.toArray ∧ ExA w (fun g => n ≤ g) x c
/-- What goes into a variable of an expression's type. -/
theorem fin5 {w1 : World} {R : Nat} {c0 : Array Value} (hr : w1.heap[R]? = some (.cells c0 41 (0, 0))) (h0 : c0.size = 5) {S : Nat → Prop} {x : Ex} {c : List Value} (h : ExA w1 S x c) :
    w1.there R 0 c.toArray.size ∧ (Tryz.prog.info? 41).map (·.size) = some c.toArray.size ∧ c.toArray.all (·.oneCell') = true ∧ (loadVar 41 ⟨R, 0, none⟩).run Tryz.prog (w1.setCells R 0 c) = .ok (.agg c.toArray) (w1.setCells R 0 c) ∧
    (Tryz.prog.info? 41).map (·.size) = some c.length := by
  have hl := h.len
  have hla : c.toArray.size = 5 := hl
  refine ⟨by rw [hla, ← h0]; exact there_of hr, by rw [hla]; exact szE, all_oneCell_toArray h.one, (stN hr (c := c) (by rw [hl, h0]) (by rw [hl]; exact szE) h.one Tryz.underlying41 rfl).2, by rw [hl]; exact szE⟩
theorem poE_fin {P T n : Nat} {w w1 : World} {R : Nat} (hR : w.heap.size ≤ R) (hRn : R < n) {x : Ex} {c : List Value} (hx : ExA w1 (fun g => n ≤ g) x c) {q : Ps} (hps : PsA P T w1 q) (hk : KP P w w1) (hP : P < w.heap.size) (hT : T < w.heap.size) :
    PoA P T (VE w.heap.size) w (.ok (x, q)) (.returned (.agg c.toArray)) (w1.setCells R 0 c) :=
  ⟨_, rfl, ⟨c, rfl, hx.keep (fun g hg _ => heap_sets R c 0 w1 g (by omega)) (fun g hg _ => by omega)⟩, hps.sets (by omega) (by omega) _, hk.sets hR _⟩

set_option maxHeartbeats 4000000 in
set_option maxRecDepth 100000 in
theorem seesAtom_any {P T : Nat} {w : World} {p : Ps} (h : PsA P T w p) :
    Calls Tryz.prog 126 #[pt P] w fun e w' => e = .returned (.bool (sAtom p)) ∧ Below w.heap.size w w' := by
  have HN := next_any h
  have HS : Hid (∀ W, Below w.heap.size w W → Calls Tryz.prog 44 #[pt P, .slice (some ⟨W.heap.size, 0, none⟩) 6 6] (W.alloc (.cells #[.string ⟨#[84, 114, 117, 101]⟩, .string ⟨#[70, 97, 108, 115, 101]⟩, .string ⟨#[78, 111, 110, 101]⟩, .string ⟨#[40]⟩, .string ⟨#[91]⟩, .string ⟨#[123]⟩] 9)) fun e w' => e = .returned (.bool (p.sees [[84, 114, 117, 101], [70, 97, 108, 115, 101], [78, 111, 110, 101], [40], [91], [123]])) ∧ Below w.heap.size w w') := fun W hW => by
    have hb := alB W (.cells #[.string ⟨#[84, 114, 117, 101]⟩, .string ⟨#[70, 97, 108, 115, 101]⟩, .string ⟨#[78, 111, 110, 101]⟩, .string ⟨#[40]⟩, .string ⟨#[91]⟩, .string ⟨#[123]⟩] 9)
    refine (seesSign_any ((h.up hW).up hb) (SgA.new P W [[84, 114, 117, 101], [70, 97, 108, 115, 101], [78, 111, 110, 101], [40], [91], [123]] (by simp) ((h.up hW).lt))).mono ?_
    rintro e w' ⟨a, b⟩
    exact ⟨a, (hW.trans (hb.mono hW.size)).trans (b.mono (Nat.le_trans hW.size hb.size))⟩
  have hq1 : (((p.nx.kind : Nat) : Int) == (1 : Int)) = (p.nx.kind == 1) := by rw [Bool.eq_iff_iff]; simp; omega
  have hq2 : (((p.nx.kind : Nat) : Int) == (2 : Int)) = (p.nx.kind == 2) := by rw [Bool.eq_iff_iff]; simp; omega
  have hq3 : (((p.nx.kind : Nat) : Int) == (3 : Int)) = (p.nx.kind == 3) := by rw [Bool.eq_iff_iff]; simp; omega
  unfold sAtom
  clear h
  generalize p.sees [[84, 114, 117, 101], [70, 97, 108, 115, 101], [78, 111, 110, 101], [40], [91], [123]] = bs at *
  generalize (p.nx.kind == 1) = b1 at *
  generalize (p.nx.kind == 2) = b2 at *
  generalize (p.nx.kind == 3) = b3 at *
  generalize p.nx = t at *
  cases b1 <;> cases b2 <;> cases b3
  all_goals
    go_enter Tryz.func126, Tryz.ntmps126
    go_wp2_with fail
    refine HN.mono ?_
    rintro e w1 ⟨rfl, hb⟩
    have HS1 := HS.out w1 hb
    go_wp2_with (go_at_call 44; refine HS1.mono ?_; rintro e w2 ⟨rfl, hb2⟩)
    go_ret
    exact ⟨rfl, by assumption⟩

set_option maxHeartbeats 4000000 in
set_option maxRecDepth 100000 in
theorem refuseDeep_any {P T : Nat} {w : World} {p : Ps} (h : PsA P T w p) {v : Value} {l : List (List UInt8)} (hs : SgA P w v l) {z : Except Ft (Unit × Ps)} (hz : rfD l p = some z) :
    Calls Tryz.prog 103 #[pt P, v] w (PoA P T (fun _ _ v => v = .tuple #[]) w z) := by
  have HA := seesAtom_any h
  have HS : Hid (∀ W, Below w.heap.size w W → Calls Tryz.prog 44 #[pt P, v] W fun e w' => e = .returned (.bool (p.sees l)) ∧ Below w.heap.size w w') := fun W hW => (seesSign_any (h.up hW) (hs.keep (KP.of_below hW))).mono fun e w' ⟨a, b⟩ => ⟨a, hW.trans (b.mono hW.size)⟩
  have HG : Hid (∀ W (b : Bool), Below w.heap.size w W → Calls Tryz.prog 78 #[pt P, .bool b, .int .i64 2] W fun e w' => (e = bif b then PF 2 p.nx.pos else .returned (.tuple #[])) ∧ Below w.heap.size w w') := fun W b hW => (giveUpIf_any (h.up hW) b 2).mono fun e w' ⟨a, b⟩ => ⟨a, hW.trans (b.mono hW.size)⟩
  have HD : Hid (∀ W, Below w.heap.size w W → W.cell? ⟨P, 4, none⟩ = some (.int .i64 p.deep)) := fun W hW => by
    obtain ⟨_, _, _, _, _, _, c4, _⟩ := (h.up hW).cells
    exact c4
  have HU : Hid (∀ W, Below w.heap.size w W → PsA P T W p) := fun W hW => h.up hW
  have hq : (((p.deep : Nat) : Int) == (30 : Int)) = (p.deep == 30) := by rw [Bool.eq_iff_iff]; simp; omega
  unfold rfD guIf at hz
  clear h hs
  generalize sAtom p = b1 at *
  generalize p.sees l = b2 at *
  generalize (p.deep == 30) = b3 at *
  cases b1 <;> cases b2 <;> cases b3
  all_goals
    cases hz
    go_enter Tryz.func103, Tryz.ntmps103
    go_wp2_with fail
    refine HA.mono ?_
    rintro e w1 ⟨rfl, hb⟩
    have c4 := HD.out w1 hb
    go_wp2_with (first
      | (go_at_call 44; refine (HS.out w1 hb).mono ?_; rintro e w2 ⟨rfl, hb2⟩; have c42 := HD.out w2 hb2)
      | (go_at_call 78; refine (HG.out _ _ (by assumption)).mono ?_; rintro e w3 ⟨he, hb3⟩; simp only [cond_true, cond_false] at he; subst he)
      | fail)
  all_goals first
    | (go_end0; exact ⟨_, rfl, rfl, HU.out _ (by assumption), KP.of_below (by assumption)⟩)
    | exact ⟨rfl, rfl, KP.of_below (by assumption)⟩
end Go.Proofs.YtheiijnpggabkaaGreatDoor

/- What is within one more; pairs; what is joined. -/
namespace Go.Proofs.YtheiijnpggabkaaGreatDoor
open Go.RowKit Go.Shelf
attribute [local go_sem ↓] fld0 fld1 fld2 fld3

/-- A function value that parses a part. -/
def PartC (P T F : Nat) (caps : Array Value) (w0 : World) (m : Ps → Px Ex) : Prop := (∀ args w, (callFunc F args).run Tryz.prog w = .ok (.enter F args) w) ∧ ∀ W p z, KP P w0 W → PsA P T W p → m p = some z → Calls Tryz.prog F caps W (PoA P T (VE W.heap.size) W z)
theorem PartC.keep {P T F : Nat} {caps : Array Value} {w w' : World} {m : Ps → Px Ex} (h : PartC P T F caps w m) (hk : KP P w w') : PartC P T F caps w' m := ⟨h.1, fun W p z hW => h.2 W p z (hk.trans hW)⟩
theorem PsA.deepTo {P T : Nat} {w : World} {p : Ps} (h : PsA P T w p) (d : Nat) (hd : d ≤ 1000) : PsA P T (w.setCell ⟨P, 4, none⟩ (.int .i64 d)) { p with deep := d } := by
  obtain ⟨a, c, o, h1, h2, h3, h4, h5, h6, h7, h8, h9⟩ := h
  refine ⟨a, c, o, ?_, h2, h3, h4, fun j hj => ?_, h6, by simp [World.setCell]; exact h7, hd, h9⟩
  · rw [Go.Joins.block_setCell h1]; rfl
  · rw [← h5 j hj]
    have e2 := Below.heap_setCell w ⟨P, 4, none⟩ (.int .i64 d) T h6
    simp [World.cell?, e2]
theorem PsA.fz {P T : Nat} {w : World} {p : Ps} (h : PsA P T w p) (i : Nat) : w.frozen? ⟨P, i, none⟩ = false := by
  obtain ⟨a, c, o, h1, _⟩ := h
  exact Lib.frozen_of_heap h1 i
theorem PsA.deepLe {P T : Nat} {w : World} {p : Ps} (h : PsA P T w p) : p.deep ≤ 1000 := by
  obtain ⟨a, c, o, h1, h2, h3, h4, h5, h6, h7, h8, h9⟩ := h
  exact h8
theorem PsA.d4 {P T : Nat} {w : World} {p : Ps} (h : PsA P T w p) : w.cell? ⟨P, 4, none⟩ = some (.int .i64 p.deep) := by
  obtain ⟨_, _, _, _, _, _, c4, _⟩ := h.cells
  exact c4

theorem bad_panic {α : Type} {P T : Nat} {V : World → α → Value → Prop} {w w1 : World} {x : Ft} {e : Ending} {w2 : World} (h : PoA P T V w1 (.error x) e w2) (hk : KP P w w1) : e = PF x.1 x.2 ∧ KP P w w2 := by
  obtain ⟨k, a⟩ := x
  exact ⟨h.1, hk.trans h.2⟩
theorem size_set (w : World) (a : Addr) (v : Value) : (w.setCell a v).heap.size = w.heap.size := by simp [World.setCell]
/-- A variable that is laid for an expression, and the expression in it. -/
theorem var5 {w1 : World} {S : Nat → Prop} {x : Ex} {c : List Value} (h : ExA w1 S x c) : (w1.alloc ez).there w1.heap.size 0 c.toArray.size ∧ ((w1.alloc ez).setCells w1.heap.size 0 c).rangeAt w1.heap.size 0 c ∧ ExA ((w1.alloc ez).setCells w1.heap.size 0 c) (fun g => S g ∧ g < w1.heap.size) x c ∧ (∀ g, g < w1.heap.size → ((w1.alloc ez).setCells w1.heap.size 0 c).heap[g]? = w1.heap[g]?) := by
  have hr : (w1.alloc ez).heap[w1.heap.size]? = some ez := heap_alloc_new w1 _
  have hla : c.toArray.size = 5 := h.len
  have ht : (w1.alloc ez).there w1.heap.size 0 c.toArray.size := by rw [hla]; exact there_of hr
  have hg : ∀ g, g < w1.heap.size → ((w1.alloc ez).setCells w1.heap.size 0 c).heap[g]? = w1.heap[g]? := fun g hg => (heap_sets _ c 0 _ g (by omega)).trans (heap_al w1 _ g hg)
  exact ⟨ht, World.rangeAt_setCells_same _ _ _ _ ht, h.keep (fun g _ hg2 => hg g hg2) (fun g h1 h2 => ⟨h1, h2⟩), hg⟩

set_option maxHeartbeats 4000000 in
set_option maxRecDepth 100000 in
theorem deeper_any {P T F : Nat} {caps : Array Value} {w : World} {p : Ps} {m : Ps → Px Ex} (h : PsA P T w p) (hm : PartC P T F caps w m) {z : Except Ft (Ex × Ps)} (hz : inner m p = some z) :
    Calls Tryz.prog 104 #[pt P, .func (.func F) #[] caps] w (PoA P T (VE w.heap.size) w z) := by
  have hPl := h.lt
  have hTl := h.ltT
  obtain ⟨hd, hz2⟩ := iff_some hz
  have hd1 : p.deep < 1000 := of_decide_eq_true hd
  have c4 := (h.up (alB w ez)).d4
  have f4 := (h.up (alB w ez)).fz 4
  have hV : PsA P T ((w.setCell ⟨P, 4, none⟩ (.int .i64 ((p.deep + 1 : Nat) : Int))).alloc ez) p.inn := (h.deepTo (p.deep + 1) (by omega)).up (alB _ _)
  have hkV : KP P w ((w.setCell ⟨P, 4, none⟩ (.int .i64 ((p.deep + 1 : Nat) : Int))).alloc ez) := ((KP.refl P w).setCell 4 _).trans (KP.of_below (alB _ _))
  have hrV : ((w.setCell ⟨P, 4, none⟩ (.int .i64 ((p.deep + 1 : Nat) : Int))).alloc ez).heap[w.heap.size]? = some ez := by
    have := heap_alloc_new (w.setCell ⟨P, 4, none⟩ (.int .i64 ((p.deep + 1 : Nat) : Int))) ez
    rwa [size_set] at this
  have hw1 : IntKind.i64.wrap ((p.deep : Int) + 1) = ((p.deep + 1 : Nat) : Int) := by rw [IntKind.wrap_i64]; omega
  have hent := hm.1
  have HC : Hid (∀ z', m p.inn = some z' → Calls Tryz.prog F caps ((w.setCell ⟨P, 4, none⟩ (.int .i64 ((p.deep + 1 : Nat) : Int))).alloc ez) (PoA P T (VE (w.heap.size + 1)) ((w.setCell ⟨P, 4, none⟩ (.int .i64 ((p.deep + 1 : Nat) : Int))).alloc ez) z')) := fun z' hz' => by
    have := hm.2 _ _ z' hkV hV hz'
    rwa [World.size_alloc, size_set] at this
  have HV : Hid (KP P w ((w.setCell ⟨P, 4, none⟩ (.int .i64 ((p.deep + 1 : Nat) : Int))).alloc ez) ∧ ((w.setCell ⟨P, 4, none⟩ (.int .i64 ((p.deep + 1 : Nat) : Int))).alloc ez).heap[w.heap.size]? = some ez) := ⟨hkV, hrV⟩
  clear hm hV hkV hrV hz hd
  generalize ((p.deep + 1 : Nat) : Int) = D at *
  rcases bnd_some hz2 with ⟨x, hx, rfl⟩ | ⟨x, q, hx, hq⟩
  · have HC1 := HC.out _ hx
    clear HC
    go_enter Tryz.func104, Tryz.ntmps104
    go_wp2_with fail
    refine HC1.mono ?_
    rintro e w1 hpo
    obtain ⟨rfl, hk⟩ := bad_panic hpo HV.out.1
    exact ⟨rfl, rfl, hk⟩
  · have HC1 := HC.out _ hx
    clear HC
    obtain ⟨hd, hq2⟩ := iff_some hq
    have hd2 : 1 ≤ q.deep := of_decide_eq_true hd
    cases hq2
    go_enter Tryz.func104, Tryz.ntmps104
    go_wp2_with fail
    refine HC1.mono ?_
    rintro e w1 ⟨v, rfl, ⟨c, rfl, hx1⟩, hp1, hk1⟩
    have hr1 : w1.heap[w.heap.size]? = some ez := (hk1.blk _ (Array.getElem?_eq_some_iff.1 HV.out.2).1 (by omega)).trans HV.out.2
    have hs1 : w.heap.size < w1.heap.size := (Array.getElem?_eq_some_iff.1 hr1).1
    have hkw := HV.out.1.trans hk1
    obtain ⟨t1, r1, x1, g1⟩ := var5 hx1
    obtain ⟨-, i1, o1, -, j1⟩ := fin5 hr1 rfl hx1
    have hA : PsA P T ((w1.alloc ez).setCells w1.heap.size 0 c) q := hp1.keep (g1 P (by omega)) (g1 T (by omega))
    have d4 := hA.d4
    have e4 := hA.fz 4
    have hB := hA.deepTo (q.deep - 1) (by have := hA.deepLe; omega)
    have hkB : KP P w (((w1.alloc ez).setCells w1.heap.size 0 c).setCell ⟨P, 4, none⟩ (.int .i64 ((q.deep - 1 : Nat) : Int))) := ((hkw.trans (KP.of_below (alB w1 ez))).sets (by omega) c).setCell 4 _
    have sB : ∀ g, g ≠ P → g < w1.heap.size → (((w1.alloc ez).setCells w1.heap.size 0 c).setCell ⟨P, 4, none⟩ (.int .i64 ((q.deep - 1 : Nat) : Int))).heap[g]? = w1.heap[g]? := fun g hg hg2 => (Below.heap_setCell _ ⟨P, 4, none⟩ _ g hg).trans (g1 g hg2)
    have rB := (sB w.heap.size (by omega) hs1).trans hr1
    have xB : ExA (((w1.alloc ez).setCells w1.heap.size 0 c).setCell ⟨P, 4, none⟩ (.int .i64 ((q.deep - 1 : Nat) : Int))) (fun g => w.heap.size + 1 ≤ g) x c := hx1.keep (fun g hg hg2 => sB g (by omega) hg2) (fun g hg _ => hg)
    have aB : (((w1.alloc ez).setCells w1.heap.size 0 c).setCell ⟨P, 4, none⟩ (.int .i64 ((q.deep - 1 : Nat) : Int))).rangeAt w1.heap.size 0 c := fun j v hv => by
      rw [← r1 j v hv]
      have := Below.heap_setCell ((w1.alloc ez).setCells w1.heap.size 0 c) ⟨P, 4, none⟩ (.int .i64 ((q.deep - 1 : Nat) : Int)) w1.heap.size (by show ¬ _ = P; omega)
      simp [World.cell?, this]
    obtain ⟨t2, i2, o2, l2, j2⟩ := fin5 rB rfl xB
    have HE : Hid (PoA P T (VE w.heap.size) w (.ok (x, q.out)) (.returned (.agg c.toArray)) ((((w1.alloc ez).setCells w1.heap.size 0 c).setCell ⟨P, 4, none⟩ (.int .i64 ((q.deep - 1 : Nat) : Int))).setCells w.heap.size 0 c)) := poE_fin (Nat.le_refl _) (Nat.lt_succ_self _) xB hB hkB hPl hTl
    have HF : Hid _ := (⟨t1, i1, o1, j1, aB, t2, l2⟩ : _ ∧ _ ∧ _ ∧ _ ∧ _ ∧ _ ∧ _)
    have hw2 : IntKind.i64.wrap ((q.deep : Int) - 1) = ((q.deep - 1 : Nat) : Int) := by rw [IntKind.wrap_i64]; have := hA.deepLe; omega
    clear hA hB hkB sB rB xB aB t2 i2 o2 l2 j2 t1 i1 o1 j1 r1 x1 g1 hx1 hp1 hk1 hkw hr1 HC1 HV
    generalize ((q.deep - 1 : Nat) : Int) = D2 at *
    go_wp2_with (first
      | (refine wpList_load_mid rfl 41 (Operand.tmp 5) rfl w1.heap.size 0 rfl c _ HF.out.2.2.2.2.1 Tryz.underlying41 rfl HF.out.2.2.2.1 ?_)
      | (refine wpList_store_mid rfl 41 (Operand.tmp 5) (Operand.tmp 14) rfl w1.heap.size 0 c.toArray rfl rfl HF.out.1 HF.out.2.1 HF.out.2.2.1 ?_)
      | (refine wpList_store_mid rfl 41 (Operand.tmp 4) (Operand.tmp 22) rfl w.heap.size 0 c.toArray rfl rfl HF.out.2.2.2.2.2.1 HF.out.2.1 HF.out.2.2.1 ?_)
      | fail)
    refine bodyPost_ret (v := .agg c.toArray) (res_one Tryz.results104 _ _ rfl HF.out.2.2.2.2.2.2) rfl HE.out
end Go.Proofs.YtheiijnpggabkaaGreatDoor

/- A pair of what is ahead of a sign and what is behind it. -/
namespace Go.Proofs.YtheiijnpggabkaaGreatDoor
open Go.RowKit Go.Shelf
attribute [local go_sem ↓] fld0 fld1 fld2 fld3

theorem isS_self {t : Tk} {l : List (List UInt8)} (h : isS t l = true) : isS t [t.text] = true := by
  unfold isS at *
  simp at *
  exact h.1
theorem ExA.form {w : World} {S : Nat → Prop} {x : Ex} {c : List Value} (h : ExA w S x c) : ∃ a1 c1 a2 c2, c = [.int .i64 x.kind, .int .i64 x.num, .string (mkB x.text), .slice a1 x.kids.length c1, .slice a2 x.names.length c2] := by
  obtain ⟨kv, nv, vs, rfl, h1, h2, _⟩ := h.open
  obtain ⟨a1, c1, rfl⟩ := row_shape h1
  obtain ⟨a2, c2, rfl⟩ := row_shape h2
  exact ⟨a1, c1, a2, c2, rfl⟩
theorem PoA.okd {α : Type} {P T : Nat} {V : World → α → Value → Prop} {w : World} {a : α} {q : Ps} {e : Ending} {w' : World} (h : PoA P T V w (.ok (a, q)) e w') : ∃ v, e = .returned v ∧ V w' a v ∧ PsA P T w' q ∧ KP P w w' := h

theorem keepLR {P : Nat} {w W : World} {o1 o2 : Obj} (hPl : P < w.heap.size) (hk : ∀ g, g < ((w.alloc o1).alloc o2).heap.size → g ≠ P → W.heap[g]? = ((w.alloc o1).alloc o2).heap[g]?) : W.heap[w.heap.size]? = some o1 ∧ W.heap[w.heap.size + 1]? = some o2 := by
  have s1 : (w.alloc o1).heap.size = w.heap.size + 1 := World.size_alloc _ _
  have s2 : ((w.alloc o1).alloc o2).heap.size = w.heap.size + 1 + 1 := by rw [World.size_alloc, s1]
  refine ⟨(hk _ (by omega) (by omega)).trans ((heap_al _ _ _ (by omega)).trans (heap_alloc_new w _)), (hk _ (by omega) (by omega)).trans ?_⟩
  rw [← s1]
  exact heap_alloc_new _ _

theorem ob_le {b g o n c k : Nat} (h : (Value.slice (some ⟨b, o, none⟩) n c).ownBlock = some g) (hk : k ≤ b) : k ≤ g := by
  have h7 : b = g := by simpa [Value.ownBlock] using h
  omega
theorem sets5 (w : World) (b : Nat) (v0 v1 v2 v3 v4 : Value) : w.setCells b 0 [v0, v1, v2, v3, v4] = ((((w.setCell ⟨b, 0, none⟩ v0).setCell ⟨b, 1, none⟩ v1).setCell ⟨b, 2, none⟩ v2).setCell ⟨b, 3, none⟩ v3).setCell ⟨b, 4, none⟩ v4 := rfl
theorem cells5 {w : World} {R : Nat} (h : w.heap[R]? = some ez) : w.cell? ⟨R, 0, none⟩ = some (.int .i64 0) ∧ w.cell? ⟨R, 1, none⟩ = some (.int .i64 0) ∧ w.cell? ⟨R, 2, none⟩ = some (.string ⟨#[]⟩) ∧ w.cell? ⟨R, 3, none⟩ = some (.slice none 0 0) ∧ w.cell? ⟨R, 4, none⟩ = some (.slice none 0 0) ∧ w.frozen? ⟨R, 0, none⟩ = false ∧ w.frozen? ⟨R, 1, none⟩ = false ∧ w.frozen? ⟨R, 2, none⟩ = false ∧ w.frozen? ⟨R, 3, none⟩ = false ∧ w.frozen? ⟨R, 4, none⟩ = false := by
  refine ⟨?_, ?_, ?_, ?_, ?_, Lib.frozen_of_heap h 0, Lib.frozen_of_heap h 1, Lib.frozen_of_heap h 2, Lib.frozen_of_heap h 3, Lib.frozen_of_heap h 4⟩ <;> (rw [Lib.cell_of_heap h]; rfl)

set_option maxHeartbeats 8000000 in
set_option linter.unusedSimpArgs false in
set_option maxRecDepth 100000 in
theorem pair_any {P T F : Nat} {caps : Array Value} {w : World} {p : Ps} {m : Ps → Px Ex} (h : PsA P T w p) (hm : PartC P T F caps w m) {l : List (List UInt8)} (hl : p.sees l = true) {S : Nat → Prop} {x : Ex} {c : List Value} (hx : ExA w S x c) (hS : ∀ g, S g → g ≠ P) {z : Except Ft (Ex × Ps)} (hz : (bnd (m p.adv) fun y q => ok ⟨14, 0, p.nx.text, [x, y], []⟩ q) = some z) :
    Calls Tryz.prog 127 #[pt P, .agg c.toArray, .func (.func F) #[] caps] w (PoA P T (fun W y v => ∃ c', v = .agg c'.toArray ∧ ExA W (fun g => S g ∨ w.heap.size ≤ g) y c') w z) := by
  obtain ⟨a1, c1, a2, c2, hc⟩ := hx.form
  subst hc
  have hPl := h.lt
  have hTl := h.ltT
  have hent := hm.1
  obtain ⟨t, r, hp⟩ := sees_cons hl
  have hnx := adv_of hp
  have hts : tkS t.text p = some (.ok ((), p.adv)) := by
    unfold tkS
    rw [show p.sees [t.text] = true from by unfold Ps.sees at *; rw [hnx] at hl; rw [hnx]; exact isS_self hl]
    rfl
  have hW : PsA P T ((w.alloc (.cells #[.int .i64 x.kind, .int .i64 x.num, .string (mkB x.text), .slice a1 x.kids.length c1, .slice a2 x.names.length c2] 41)).alloc ez) p := (h.up (alB _ _)).up (alB _ _)
  have hkW : KP P w ((w.alloc (.cells #[.int .i64 x.kind, .int .i64 x.num, .string (mkB x.text), .slice a1 x.kids.length c1, .slice a2 x.names.length c2] 41)).alloc ez) := (KP.of_below (alB _ _)).trans (KP.of_below (alB _ _))
  have HN := next_any hW
  rw [hnx] at HN hz
  have HT : Hid (∀ V, PsA P T V p → Calls Tryz.prog 74 #[pt P, .string (mkB t.text)] V (PoA P T (fun _ _ v => v = .tuple #[]) V (.ok ((), p.adv)))) := fun V hV => takeSign_any hV t.text hts
  have HC : Hid (∀ V z', KP P w V → PsA P T V p.adv → m p.adv = some z' → Calls Tryz.prog F caps V (PoA P T (VE V.heap.size) V z')) := fun V z' hk hV hz' => hm.2 V _ z' hk hV hz'
  rcases bnd_some hz with ⟨y, hy, rfl⟩ | ⟨y, q, hy, hq⟩
  · go_enter Tryz.func127, Tryz.ntmps127
    go_wp2_with fail
    refine HN.mono ?_
    rintro e w1 ⟨rfl, hb1⟩
    have h1 := hW.up hb1
    have HT1 := HT.out w1 h1
    go_wp2_with fail
    refine HT1.mono ?_
    rintro e w2 ⟨v, rfl, rfl, h2, hk2⟩
    have hkw2 : KP P w w2 := (hkW.trans (KP.of_below hb1)).trans hk2
    obtain ⟨hL2, hR2⟩ := keepLR hPl (fun g hg hne => (hk2.blk g (Nat.lt_of_lt_of_le hg hb1.size) hne).trans (hb1.block g hg))
    have x0 : w2.cell? ⟨w.heap.size, 0, none⟩ = some (.int .i64 x.kind) := by rw [Lib.cell_of_heap hL2]; rfl
    have x1 : w2.cell? ⟨w.heap.size, 1, none⟩ = some (.int .i64 x.num) := by rw [Lib.cell_of_heap hL2]; rfl
    have x2 : w2.cell? ⟨w.heap.size, 2, none⟩ = some (.string (mkB x.text)) := by rw [Lib.cell_of_heap hL2]; rfl
    have x3 : w2.cell? ⟨w.heap.size, 3, none⟩ = some (.slice a1 x.kids.length c1) := by rw [Lib.cell_of_heap hL2]; rfl
    have x4 : w2.cell? ⟨w.heap.size, 4, none⟩ = some (.slice a2 x.names.length c2) := by rw [Lib.cell_of_heap hL2]; rfl
    have HQ : Hid (PsA P T w2 p.adv ∧ KP P w w2) := ⟨h2, hkw2⟩
    clear h2 hkw2 hk2 h1 hb1 hL2 hR2 HT1
    have HS : Hid (w2.drew.cell? ⟨w.heap.size, 0, none⟩ = some (.int .i64 x.kind) ∧ w2.drew.cell? ⟨w.heap.size, 1, none⟩ = some (.int .i64 x.num) ∧ w2.drew.cell? ⟨w.heap.size, 2, none⟩ = some (.string (mkB x.text)) ∧ w2.drew.cell? ⟨w.heap.size, 3, none⟩ = some (.slice a1 x.kids.length c1) ∧ w2.drew.cell? ⟨w.heap.size, 4, none⟩ = some (.slice a2 x.names.length c2)) := ⟨x0, x1, x2, x3, x4⟩
    go_wp2_with fail
    refine wp_region_held_drew (S := fun V => V.cell? ⟨w.heap.size, 0, none⟩ = some (.int .i64 x.kind) ∧ V.cell? ⟨w.heap.size, 1, none⟩ = some (.int .i64 x.num) ∧ V.cell? ⟨w.heap.size, 2, none⟩ = some (.string (mkB x.text)) ∧ V.cell? ⟨w.heap.size, 3, none⟩ = some (.slice a1 x.kids.length c1) ∧ V.cell? ⟨w.heap.size, 4, none⟩ = some (.slice a2 x.names.length c2)) (by kernel_rfl) HS.out (fun hHeld => ?_)
    refine wpAnyH_take (i := 0) (v := .string (mkB t.text)) rfl (by kernel_rfl) (by kernel_rfl) (by kernel_rfl) (fun _ _ _ h => h) (Or.inl ⟨by rfl, ?_⟩) (by assumption) ?_
    · intro V hSV
      try dsimp only at hSV
      go_simp
      try with_reducible rfl
    try simp only [Act.put, List.setIfInBounds_toArray, List.set_cons_zero, List.set_cons_succ]
    refine wpAnyH_take (i := 1) (v := .agg #[.int .i64 x.kind, .int .i64 x.num, .string (mkB x.text), .slice a1 x.kids.length c1, .slice a2 x.names.length c2]) rfl (by kernel_rfl) (by kernel_rfl) (by kernel_rfl) (fun _ _ _ h => h) (Or.inl ⟨by rfl, ?_⟩) (by assumption) ?_
    · intro V hSV
      try dsimp only at hSV
      go_simp
      try with_reducible rfl
    try simp only [Act.put, List.setIfInBounds_toArray, List.set_cons_zero, List.set_cons_succ]
    refine wpAnyH_take (i := 2) (v := .func (.func F) #[] caps) rfl (by kernel_rfl) (by kernel_rfl) (by kernel_rfl) (fun _ _ _ h => h) (Or.inl ⟨by rfl, ?_⟩) (by assumption) ?_
    · intro V hSV
      try dsimp only at hSV
      go_simp
      try with_reducible rfl
    try simp only [Act.put, List.setIfInBounds_toArray, List.set_cons_zero, List.set_cons_succ]
    refine wpAnyH_ready (rs := [3]) (by kernel_rfl) (by simp) (AllReadyH.cons rfl (fun K hK => ?_) AllReadyH.nil)
    go_simp
    refine (HC.out w2.drew _ HQ.out.2.drew (HQ.out.1.drewN 1) hy).mono ?_
    rintro e w3 hpo
    obtain ⟨rfl, hk3⟩ := bad_panic hpo HQ.out.2.drew
    exact ⟨rfl, rfl, hk3⟩
  · cases hq
    go_enter Tryz.func127, Tryz.ntmps127
    go_wp2_with fail
    refine HN.mono ?_
    rintro e w1 ⟨rfl, hb1⟩
    have h1 := hW.up hb1
    have HT1 := HT.out w1 h1
    go_wp2_with fail
    refine HT1.mono ?_
    rintro e w2 ⟨v, rfl, rfl, h2, hk2⟩
    have hkw2 : KP P w w2 := (hkW.trans (KP.of_below hb1)).trans hk2
    obtain ⟨hL2, hR2⟩ := keepLR hPl (fun g hg hne => (hk2.blk g (Nat.lt_of_lt_of_le hg hb1.size) hne).trans (hb1.block g hg))
    have x0 : w2.cell? ⟨w.heap.size, 0, none⟩ = some (.int .i64 x.kind) := by rw [Lib.cell_of_heap hL2]; rfl
    have x1 : w2.cell? ⟨w.heap.size, 1, none⟩ = some (.int .i64 x.num) := by rw [Lib.cell_of_heap hL2]; rfl
    have x2 : w2.cell? ⟨w.heap.size, 2, none⟩ = some (.string (mkB x.text)) := by rw [Lib.cell_of_heap hL2]; rfl
    have x3 : w2.cell? ⟨w.heap.size, 3, none⟩ = some (.slice a1 x.kids.length c1) := by rw [Lib.cell_of_heap hL2]; rfl
    have x4 : w2.cell? ⟨w.heap.size, 4, none⟩ = some (.slice a2 x.names.length c2) := by rw [Lib.cell_of_heap hL2]; rfl
    have HQ : Hid (PsA P T w2 p.adv ∧ KP P w w2 ∧ w2.heap[w.heap.size + 1]? = some ez ∧ w2.heap[w.heap.size]? = some (.cells #[.int .i64 x.kind, .int .i64 x.num, .string (mkB x.text), .slice a1 x.kids.length c1, .slice a2 x.names.length c2] 41 (0, 0))) := ⟨h2, hkw2, hR2, hL2⟩
    have HX : Hid (ExA w S x [.int .i64 x.kind, .int .i64 x.num, .string (mkB x.text), .slice a1 x.kids.length c1, .slice a2 x.names.length c2] ∧ (∀ g, S g → g ≠ P)) := ⟨hx, hS⟩
    clear h2 hkw2 hk2 h1 hb1 hL2 hR2 HT1 h hm hl hx hS hz HN hW hkW hp hnx hts
    have HS : Hid (w2.drew.cell? ⟨w.heap.size, 0, none⟩ = some (.int .i64 x.kind) ∧ w2.drew.cell? ⟨w.heap.size, 1, none⟩ = some (.int .i64 x.num) ∧ w2.drew.cell? ⟨w.heap.size, 2, none⟩ = some (.string (mkB x.text)) ∧ w2.drew.cell? ⟨w.heap.size, 3, none⟩ = some (.slice a1 x.kids.length c1) ∧ w2.drew.cell? ⟨w.heap.size, 4, none⟩ = some (.slice a2 x.names.length c2)) := ⟨x0, x1, x2, x3, x4⟩
    go_wp2_with fail
    refine wp_region_held_drew (S := fun V => V.cell? ⟨w.heap.size, 0, none⟩ = some (.int .i64 x.kind) ∧ V.cell? ⟨w.heap.size, 1, none⟩ = some (.int .i64 x.num) ∧ V.cell? ⟨w.heap.size, 2, none⟩ = some (.string (mkB x.text)) ∧ V.cell? ⟨w.heap.size, 3, none⟩ = some (.slice a1 x.kids.length c1) ∧ V.cell? ⟨w.heap.size, 4, none⟩ = some (.slice a2 x.names.length c2)) (by kernel_rfl) HS.out (fun hHeld => ?_)
    refine wpAnyH_take (i := 0) (v := .string (mkB t.text)) rfl (by kernel_rfl) (by kernel_rfl) (by kernel_rfl) (fun _ _ _ h => h) (Or.inl ⟨by rfl, ?_⟩) (by assumption) ?_
    · intro V hSV
      try dsimp only at hSV
      go_simp
      try with_reducible rfl
    try simp only [Act.put, List.setIfInBounds_toArray, List.set_cons_zero, List.set_cons_succ]
    refine wpAnyH_take (i := 1) (v := .agg #[.int .i64 x.kind, .int .i64 x.num, .string (mkB x.text), .slice a1 x.kids.length c1, .slice a2 x.names.length c2]) rfl (by kernel_rfl) (by kernel_rfl) (by kernel_rfl) (fun _ _ _ h => h) (Or.inl ⟨by rfl, ?_⟩) (by assumption) ?_
    · intro V hSV
      try dsimp only at hSV
      go_simp
      try with_reducible rfl
    try simp only [Act.put, List.setIfInBounds_toArray, List.set_cons_zero, List.set_cons_succ]
    refine wpAnyH_take (i := 2) (v := .func (.func F) #[] caps) rfl (by kernel_rfl) (by kernel_rfl) (by kernel_rfl) (fun _ _ _ h => h) (Or.inl ⟨by rfl, ?_⟩) (by assumption) ?_
    · intro V hSV
      try dsimp only at hSV
      go_simp
      try with_reducible rfl
    try simp only [Act.put, List.setIfInBounds_toArray, List.set_cons_zero, List.set_cons_succ]
    refine wpAnyH_ready (rs := [3]) (by kernel_rfl) (by simp) (AllReadyH.cons rfl (fun K hK => ?_) AllReadyH.nil)
    go_simp
    refine (HC.out w2.drew _ HQ.out.2.1.drew (HQ.out.1.drewN 1) hy).mono ?_
    rintro e w3 ⟨v, rfl, ⟨c', rfl, hx3⟩, hp3, hk3⟩
    obtain ⟨b1, d1, b2, d2, hc3⟩ := hx3.form
    subst hc3
    have hL3 : w3.heap[w.heap.size]? = some (.cells #[.int .i64 x.kind, .int .i64 x.num, .string (mkB x.text), .slice a1 x.kids.length c1, .slice a2 x.names.length c2] 41 (0, 0)) := (hk3.blk _ (Array.getElem?_eq_some_iff.1 HQ.out.2.2.2).1 (by omega)).trans HQ.out.2.2.2
    have hR3 : w3.heap[w.heap.size + 1]? = some ez := (hk3.blk _ (Array.getElem?_eq_some_iff.1 HQ.out.2.2.1).1 (by omega)).trans HQ.out.2.2.1
    have hS3 : w3.cell? ⟨w.heap.size, 0, none⟩ = some (.int .i64 x.kind) ∧ w3.cell? ⟨w.heap.size, 1, none⟩ = some (.int .i64 x.num) ∧ w3.cell? ⟨w.heap.size, 2, none⟩ = some (.string (mkB x.text)) ∧ w3.cell? ⟨w.heap.size, 3, none⟩ = some (.slice a1 x.kids.length c1) ∧ w3.cell? ⟨w.heap.size, 4, none⟩ = some (.slice a2 x.names.length c2) := by refine ⟨?_, ?_, ?_, ?_, ?_⟩ <;> (rw [Lib.cell_of_heap hL3]; rfl)
    have hL4 : (w3.alloc (.cells #[.int .i64 x.kind, .int .i64 x.num, .string (mkB x.text), .slice a1 x.kids.length c1, .slice a2 x.names.length c2, .int .i64 y.kind, .int .i64 y.num, .string (mkB y.text), .slice b1 y.kids.length d1, .slice b2 y.names.length d2] 41)).heap[w.heap.size]? = some (.cells #[.int .i64 x.kind, .int .i64 x.num, .string (mkB x.text), .slice a1 x.kids.length c1, .slice a2 x.names.length c2] 41 (0, 0)) := (heap_al w3 _ _ (Array.getElem?_eq_some_iff.1 hL3).1).trans hL3
    have hS4 : (w3.alloc (.cells #[.int .i64 x.kind, .int .i64 x.num, .string (mkB x.text), .slice a1 x.kids.length c1, .slice a2 x.names.length c2, .int .i64 y.kind, .int .i64 y.num, .string (mkB y.text), .slice b1 y.kids.length d1, .slice b2 y.names.length d2] 41)).cell? ⟨w.heap.size, 0, none⟩ = some (.int .i64 x.kind) ∧ (w3.alloc (.cells #[.int .i64 x.kind, .int .i64 x.num, .string (mkB x.text), .slice a1 x.kids.length c1, .slice a2 x.names.length c2, .int .i64 y.kind, .int .i64 y.num, .string (mkB y.text), .slice b1 y.kids.length d1, .slice b2 y.names.length d2] 41)).cell? ⟨w.heap.size, 1, none⟩ = some (.int .i64 x.num) ∧ (w3.alloc (.cells #[.int .i64 x.kind, .int .i64 x.num, .string (mkB x.text), .slice a1 x.kids.length c1, .slice a2 x.names.length c2, .int .i64 y.kind, .int .i64 y.num, .string (mkB y.text), .slice b1 y.kids.length d1, .slice b2 y.names.length d2] 41)).cell? ⟨w.heap.size, 2, none⟩ = some (.string (mkB x.text)) ∧ (w3.alloc (.cells #[.int .i64 x.kind, .int .i64 x.num, .string (mkB x.text), .slice a1 x.kids.length c1, .slice a2 x.names.length c2, .int .i64 y.kind, .int .i64 y.num, .string (mkB y.text), .slice b1 y.kids.length d1, .slice b2 y.names.length d2] 41)).cell? ⟨w.heap.size, 3, none⟩ = some (.slice a1 x.kids.length c1) ∧ (w3.alloc (.cells #[.int .i64 x.kind, .int .i64 x.num, .string (mkB x.text), .slice a1 x.kids.length c1, .slice a2 x.names.length c2, .int .i64 y.kind, .int .i64 y.num, .string (mkB y.text), .slice b1 y.kids.length d1, .slice b2 y.names.length d2] 41)).cell? ⟨w.heap.size, 4, none⟩ = some (.slice a2 x.names.length c2) := by refine ⟨?_, ?_, ?_, ?_, ?_⟩ <;> (rw [Lib.cell_of_heap hL4]; rfl)
    obtain ⟨y0, y1, y2, y3, y4, f0, f1, f2, f3, f4⟩ := cells5 ((heap_al w3 (.cells #[.int .i64 x.kind, .int .i64 x.num, .string (mkB x.text), .slice a1 x.kids.length c1, .slice a2 x.names.length c2, .int .i64 y.kind, .int .i64 y.num, .string (mkB y.text), .slice b1 y.kids.length d1, .slice b2 y.names.length d2] 41) _ (Array.getElem?_eq_some_iff.1 hR3).1).trans hR3)
    have HY : Hid (ExA w3 (fun g => w2.drew.heap.size ≤ g) y [.int .i64 y.kind, .int .i64 y.num, .string (mkB y.text), .slice b1 y.kids.length d1, .slice b2 y.names.length d2] ∧ PsA P T w3 q ∧ KP P w2.drew w3 ∧ w3.heap[w.heap.size + 1]? = some ez) := ⟨hx3, hp3, hk3, hR3⟩
    have hs3 : w.heap.size + 1 < w3.heap.size := (Array.getElem?_eq_some_iff.1 hR3).1
    have hs2 : w.heap.size + 1 < w2.heap.size := (Array.getElem?_eq_some_iff.1 HQ.out.2.2.1).1
    have hR4 : (w3.alloc (.cells #[.int .i64 x.kind, .int .i64 x.num, .string (mkB x.text), .slice a1 x.kids.length c1, .slice a2 x.names.length c2, .int .i64 y.kind, .int .i64 y.num, .string (mkB y.text), .slice b1 y.kids.length d1, .slice b2 y.names.length d2] 41)).heap[w.heap.size + 1]? = some ez := (heap_al w3 _ _ hs3).trans hR3
    have gF : ∀ g, g ≠ w.heap.size + 1 → g < w3.heap.size → ((w3.alloc (.cells #[.int .i64 x.kind, .int .i64 x.num, .string (mkB x.text), .slice a1 x.kids.length c1, .slice a2 x.names.length c2, .int .i64 y.kind, .int .i64 y.num, .string (mkB y.text), .slice b1 y.kids.length d1, .slice b2 y.names.length d2] 41)).setCells (w.heap.size + 1) 0 [.int .i64 14, .int .i64 0, .string (mkB t.text), .slice (some ⟨w3.heap.size, 0, none⟩) 2 2, .slice none 0 0]).heap[g]? = w3.heap[g]? := fun g hg hg2 => (heap_sets _ [.int .i64 14, .int .i64 0, .string (mkB t.text), .slice (some ⟨w3.heap.size, 0, none⟩) 2 2, .slice none 0 0] 0 _ g hg).trans (heap_al w3 _ g hg2)
    have gT : ((w3.alloc (.cells #[.int .i64 x.kind, .int .i64 x.num, .string (mkB x.text), .slice a1 x.kids.length c1, .slice a2 x.names.length c2, .int .i64 y.kind, .int .i64 y.num, .string (mkB y.text), .slice b1 y.kids.length d1, .slice b2 y.names.length d2] 41)).setCells (w.heap.size + 1) 0 [.int .i64 14, .int .i64 0, .string (mkB t.text), .slice (some ⟨w3.heap.size, 0, none⟩) 2 2, .slice none 0 0]).heap[w3.heap.size]? = some (.cells #[.int .i64 x.kind, .int .i64 x.num, .string (mkB x.text), .slice a1 x.kids.length c1, .slice a2 x.names.length c2, .int .i64 y.kind, .int .i64 y.num, .string (mkB y.text), .slice b1 y.kids.length d1, .slice b2 y.names.length d2] 41) := (heap_sets _ [.int .i64 14, .int .i64 0, .string (mkB t.text), .slice (some ⟨w3.heap.size, 0, none⟩) 2 2, .slice none 0 0] 0 _ _ (by omega)).trans (heap_alloc_new w3 _)
    have hL5 : ((w3.alloc (.cells #[.int .i64 x.kind, .int .i64 x.num, .string (mkB x.text), .slice a1 x.kids.length c1, .slice a2 x.names.length c2, .int .i64 y.kind, .int .i64 y.num, .string (mkB y.text), .slice b1 y.kids.length d1, .slice b2 y.names.length d2] 41)).setCells (w.heap.size + 1) 0 [.int .i64 14, .int .i64 0, .string (mkB t.text), .slice (some ⟨w3.heap.size, 0, none⟩) 2 2, .slice none 0 0]).heap[w.heap.size]? = some (.cells #[.int .i64 x.kind, .int .i64 x.num, .string (mkB x.text), .slice a1 x.kids.length c1, .slice a2 x.names.length c2] 41 (0, 0)) := (gF _ (by omega) (by omega)).trans hL3
    have hS5 : ((w3.alloc (.cells #[.int .i64 x.kind, .int .i64 x.num, .string (mkB x.text), .slice a1 x.kids.length c1, .slice a2 x.names.length c2, .int .i64 y.kind, .int .i64 y.num, .string (mkB y.text), .slice b1 y.kids.length d1, .slice b2 y.names.length d2] 41)).setCells (w.heap.size + 1) 0 [.int .i64 14, .int .i64 0, .string (mkB t.text), .slice (some ⟨w3.heap.size, 0, none⟩) 2 2, .slice none 0 0]).cell? ⟨w.heap.size, 0, none⟩ = some (.int .i64 x.kind) ∧ ((w3.alloc (.cells #[.int .i64 x.kind, .int .i64 x.num, .string (mkB x.text), .slice a1 x.kids.length c1, .slice a2 x.names.length c2, .int .i64 y.kind, .int .i64 y.num, .string (mkB y.text), .slice b1 y.kids.length d1, .slice b2 y.names.length d2] 41)).setCells (w.heap.size + 1) 0 [.int .i64 14, .int .i64 0, .string (mkB t.text), .slice (some ⟨w3.heap.size, 0, none⟩) 2 2, .slice none 0 0]).cell? ⟨w.heap.size, 1, none⟩ = some (.int .i64 x.num) ∧ ((w3.alloc (.cells #[.int .i64 x.kind, .int .i64 x.num, .string (mkB x.text), .slice a1 x.kids.length c1, .slice a2 x.names.length c2, .int .i64 y.kind, .int .i64 y.num, .string (mkB y.text), .slice b1 y.kids.length d1, .slice b2 y.names.length d2] 41)).setCells (w.heap.size + 1) 0 [.int .i64 14, .int .i64 0, .string (mkB t.text), .slice (some ⟨w3.heap.size, 0, none⟩) 2 2, .slice none 0 0]).cell? ⟨w.heap.size, 2, none⟩ = some (.string (mkB x.text)) ∧ ((w3.alloc (.cells #[.int .i64 x.kind, .int .i64 x.num, .string (mkB x.text), .slice a1 x.kids.length c1, .slice a2 x.names.length c2, .int .i64 y.kind, .int .i64 y.num, .string (mkB y.text), .slice b1 y.kids.length d1, .slice b2 y.names.length d2] 41)).setCells (w.heap.size + 1) 0 [.int .i64 14, .int .i64 0, .string (mkB t.text), .slice (some ⟨w3.heap.size, 0, none⟩) 2 2, .slice none 0 0]).cell? ⟨w.heap.size, 3, none⟩ = some (.slice a1 x.kids.length c1) ∧ ((w3.alloc (.cells #[.int .i64 x.kind, .int .i64 x.num, .string (mkB x.text), .slice a1 x.kids.length c1, .slice a2 x.names.length c2, .int .i64 y.kind, .int .i64 y.num, .string (mkB y.text), .slice b1 y.kids.length d1, .slice b2 y.names.length d2] 41)).setCells (w.heap.size + 1) 0 [.int .i64 14, .int .i64 0, .string (mkB t.text), .slice (some ⟨w3.heap.size, 0, none⟩) 2 2, .slice none 0 0]).cell? ⟨w.heap.size, 4, none⟩ = some (.slice a2 x.names.length c2) := by refine ⟨?_, ?_, ?_, ?_, ?_⟩ <;> (rw [Lib.cell_of_heap hL5]; rfl)
    have hl0 := (stN hR4 (c := [.int .i64 14, .int .i64 0, .string (mkB t.text), .slice (some ⟨w3.heap.size, 0, none⟩) 2 2, .slice none 0 0]) rfl szE (by simp [Value.oneCell']) Tryz.underlying41 rfl).2
    rw [sets5] at hl0
    have HL : Hid _ := hl0
    have hxF : ExA ((w3.alloc (.cells #[.int .i64 x.kind, .int .i64 x.num, .string (mkB x.text), .slice a1 x.kids.length c1, .slice a2 x.names.length c2, .int .i64 y.kind, .int .i64 y.num, .string (mkB y.text), .slice b1 y.kids.length d1, .slice b2 y.names.length d2] 41)).setCells (w.heap.size + 1) 0 [.int .i64 14, .int .i64 0, .string (mkB t.text), .slice (some ⟨w3.heap.size, 0, none⟩) 2 2, .slice none 0 0]) (fun g => S g ∨ w.heap.size ≤ g) x [.int .i64 x.kind, .int .i64 x.num, .string (mkB x.text), .slice a1 x.kids.length c1, .slice a2 x.names.length c2] := HX.out.1.keep (fun g hg hg2 => (gF g (by omega) (by omega)).trans ((hk3.blk g (by show g < w2.heap.size; omega) (HX.out.2 g hg)).trans (HQ.out.2.1.blk g hg2 (HX.out.2 g hg)))) (fun g hg _ => .inl hg)
    have hyF : ExA ((w3.alloc (.cells #[.int .i64 x.kind, .int .i64 x.num, .string (mkB x.text), .slice a1 x.kids.length c1, .slice a2 x.names.length c2, .int .i64 y.kind, .int .i64 y.num, .string (mkB y.text), .slice b1 y.kids.length d1, .slice b2 y.names.length d2] 41)).setCells (w.heap.size + 1) 0 [.int .i64 14, .int .i64 0, .string (mkB t.text), .slice (some ⟨w3.heap.size, 0, none⟩) 2 2, .slice none 0 0]) (fun g => S g ∨ w.heap.size ≤ g) y [.int .i64 y.kind, .int .i64 y.num, .string (mkB y.text), .slice b1 y.kids.length d1, .slice b2 y.names.length d2] := hx3.keep (fun g hg hg2 => gF g (by have : w2.heap.size ≤ g := hg; omega) hg2) (fun g hg _ => .inr (by have : w2.heap.size ≤ g := hg; omega))
    have hKF : KP P w ((w3.alloc (.cells #[.int .i64 x.kind, .int .i64 x.num, .string (mkB x.text), .slice a1 x.kids.length c1, .slice a2 x.names.length c2, .int .i64 y.kind, .int .i64 y.num, .string (mkB y.text), .slice b1 y.kids.length d1, .slice b2 y.names.length d2] 41)).setCells (w.heap.size + 1) 0 [.int .i64 14, .int .i64 0, .string (mkB t.text), .slice (some ⟨w3.heap.size, 0, none⟩) 2 2, .slice none 0 0]) := ((HQ.out.2.1.drew.trans hk3).trans (KP.of_below (alB w3 _))).sets (Nat.le_succ _) _
    have hPF : PsA P T ((w3.alloc (.cells #[.int .i64 x.kind, .int .i64 x.num, .string (mkB x.text), .slice a1 x.kids.length c1, .slice a2 x.names.length c2, .int .i64 y.kind, .int .i64 y.num, .string (mkB y.text), .slice b1 y.kids.length d1, .slice b2 y.names.length d2] 41)).setCells (w.heap.size + 1) 0 [.int .i64 14, .int .i64 0, .string (mkB t.text), .slice (some ⟨w3.heap.size, 0, none⟩) 2 2, .slice none 0 0]) q := hp3.keep (gF P (by omega) (by omega)) (gF T (by omega) (by omega))
    have he0 : PoA P T (fun W y v => ∃ c', v = .agg c'.toArray ∧ ExA W (fun g => S g ∨ w.heap.size ≤ g) y c') w (.ok ((⟨14, 0, t.text, [x, y], []⟩ : Ex), q)) (.returned (.agg ([.int .i64 14, .int .i64 0, .string (mkB t.text), .slice (some ⟨w3.heap.size, 0, none⟩) 2 2, .slice none 0 0]).toArray)) ((w3.alloc (.cells #[.int .i64 x.kind, .int .i64 x.num, .string (mkB x.text), .slice a1 x.kids.length c1, .slice a2 x.names.length c2, .int .i64 y.kind, .int .i64 y.num, .string (mkB y.text), .slice b1 y.kids.length d1, .slice b2 y.names.length d2] 41)).setCells (w.heap.size + 1) 0 [.int .i64 14, .int .i64 0, .string (mkB t.text), .slice (some ⟨w3.heap.size, 0, none⟩) 2 2, .slice none 0 0]) := ⟨_, rfl, ⟨_, rfl, ExA.make (x := ⟨14, 0, t.text, [x, y], []⟩) (vs := [[.int .i64 x.kind, .int .i64 x.num, .string (mkB x.text), .slice a1 x.kids.length c1, .slice a2 x.names.length c2], [.int .i64 y.kind, .int .i64 y.num, .string (mkB y.text), .slice b1 y.kids.length d1, .slice b2 y.names.length d2]]) ⟨rfl, .inr ⟨w3.heap.size, 2, _, rfl, Nat.zero_le _, gT, Nat.le_refl _, by decide, rfl, rfl⟩⟩ (World.ownsRow_nil _ _ _ _) (fun g hg => .inr (ob_le hg (by omega))) (fun g hg => by cases hg) ⟨hxF, hyF, trivial⟩⟩, hPF, hKF⟩
    rw [sets5] at he0
    have HE : Hid _ := he0
    clear hl0 he0
    clear hx3 hp3 hk3 hR3 hL3 hL4 hs3 hs2 hR4 gF gT hL5 hxF hyF hKF hPF
    refine hK.out _ _ hS3 (fun hHeld => ?_)
    clear hK K
    try simp only [Act.put, List.setIfInBounds_toArray, List.set_cons_zero, List.set_cons_succ]
    refine wpAnyH_ready (rs := [4]) (by kernel_rfl) (by simp) (AllReadyH.cons rfl (fun K hK => ?_) AllReadyH.nil)
    go_simp
    refine hK.out _ _ hS4 (fun hHeld => ?_)
    clear hK K
    try simp only [Act.put, List.setIfInBounds_toArray, List.set_cons_zero, List.set_cons_succ]
    refine wpAnyH_take (i := 5) (v := .agg #[.int .i64 14, .int .i64 0, .string (mkB t.text), .slice (some ⟨w3.heap.size, 0, none⟩) 2 2, .slice none 0 0]) rfl (by kernel_rfl) (by kernel_rfl) (by kernel_rfl) (fun _ _ _ h => h) (Or.inl ⟨by rfl, ?_⟩) (by assumption) ?_
    · intro V hSV
      try dsimp only at hSV
      go_simp
      try with_reducible rfl
    try simp only [Act.put, List.setIfInBounds_toArray, List.set_cons_zero, List.set_cons_succ]
    refine wpAnyH_ready (rs := [6]) (by kernel_rfl) (by simp) (AllReadyH.cons rfl (fun K hK => ?_) AllReadyH.nil)
    go_simp
    refine hK.out _ _ hS5 (fun hHeld => ?_)
    clear hK K
    refine wpAnyH_done (by kernel_rfl) ?_ _
    try simp only [Act.put, List.setIfInBounds_toArray, List.set_cons_zero, List.set_cons_succ]
    go_wp2
    refine bodyPost_ret (v := Value.agg #[Value.int IntKind.i64 14, Value.int IntKind.i64 0, Value.string (mkB t.text), Value.slice (some ⟨w3.heap.size, 0, none⟩) 2 2, Value.slice none 0 0]) (res_one Tryz.results127 _ _ rfl HL.out) rfl HE.out
end Go.Proofs.YtheiijnpggabkaaGreatDoor

/- The shelf's contracts, laid at this program. -/
namespace Go.Proofs.YtheiijnpggabkaaGreatDoor
open Go.RowKit Go.Shelf

def laysI_ren : Go.Shelf.Ren := ⟨fun | 171 => 90 | 243 => 113 | 246 => 130 | 283 => 137 | 284 => 138 | 285 => 139 | 286 => 140 | 129 => 147 | 317 => 146 | 318 => 148 | 319 => 149 | 320 => 150 | 337 => 153 | 338 => 154 | n => n, fun | 3 => 3 | 9 => 9 | 2 => 2 | 4 => 4 | 171 => 131 | 0 => 0 | 53 => 100 | 37 => 44 | 5 => 5 | 173 => 134 | 212 => 142 | 51 => 97 | 20 => 20 | 213 => 143 | 46 => 83 | 232 => 147 | 233 => 148 | n => n, fun | 17 => 3 | 18 => 4 | 19 => 5 | n => n⟩
theorem laysI : Go.Proofs.LaysM.n171 Tryz.prog laysI_ren := {
  mixed := by kernel_rfl
  f129 := Tryz.func147.trans (congrArg some (by kernel_rfl))
  f171 := Tryz.func90.trans (congrArg some (by kernel_rfl))
  f243 := Tryz.func113.trans (congrArg some (by kernel_rfl))
  f246 := Tryz.func130.trans (congrArg some (by kernel_rfl))
  f283 := Tryz.func137.trans (congrArg some (by kernel_rfl))
  f284 := Tryz.func138.trans (congrArg some (by kernel_rfl))
  f285 := Tryz.func139.trans (congrArg some (by kernel_rfl))
  f286 := Tryz.func140.trans (congrArg some (by kernel_rfl))
  f317 := Tryz.func146.trans (congrArg some (by kernel_rfl))
  f318 := Tryz.func148.trans (congrArg some (by kernel_rfl))
  f319 := Tryz.func149.trans (congrArg some (by kernel_rfl))
  f320 := Tryz.func150.trans (congrArg some (by kernel_rfl))
  f337 := Tryz.func153.trans (congrArg some (by kernel_rfl))
  f338 := Tryz.func154.trans (congrArg some (by kernel_rfl))
  t0 := Tryz.underlying0
  a0 := Tryz.isAgg0
  z0 := Tryz.sizeOf0
  v0 := Tryz.zeroValue0
  t2 := Tryz.underlying2
  a2 := Tryz.isAgg2
  z2 := Tryz.sizeOf2
  v2 := Tryz.zeroValue2
  t3 := Tryz.underlying3
  a3 := Tryz.isAgg3
  z3 := Tryz.sizeOf3
  v3 := Tryz.zeroValue3
  t4 := Tryz.underlying4
  a4 := Tryz.isAgg4
  z4 := Tryz.sizeOf4
  v4 := Tryz.zeroValue4
  t5 := Tryz.underlying5
  a5 := Tryz.isAgg5
  z5 := Tryz.sizeOf5
  v5 := Tryz.zeroValue5
  t9 := Tryz.underlying9
  a9 := Tryz.isAgg9
  z9 := Tryz.sizeOf9
  v9 := Tryz.zeroValue9
  t20 := Tryz.underlying20
  a20 := Tryz.isAgg20
  z20 := Tryz.sizeOf20
  v20 := Tryz.zeroValue20
  t37 := Tryz.underlying44
  a37 := Tryz.isAgg44
  z37 := Tryz.sizeOf44
  v37 := Tryz.zeroValue44
  t46 := Tryz.underlying83
  a46 := Tryz.isAgg83
  z46 := Tryz.sizeOf83
  v46 := Tryz.zeroValue83
  t51 := Tryz.underlying97
  a51 := Tryz.isAgg97
  z51 := Tryz.sizeOf97
  v51 := Tryz.zeroValue97
  t53 := Tryz.underlying100
  a53 := Tryz.isAgg100
  z53 := Tryz.sizeOf100
  v53 := Tryz.zeroValue100
  t171 := Tryz.underlying131
  a171 := Tryz.isAgg131
  z171 := Tryz.sizeOf131
  v171 := Tryz.zeroValue131
  t173 := Tryz.underlying134
  a173 := Tryz.isAgg134
  z173 := Tryz.sizeOf134
  v173 := Tryz.zeroValue134
  t212 := Tryz.underlying142
  a212 := Tryz.isAgg142
  z212 := Tryz.sizeOf142
  v212 := Tryz.zeroValue142
  t213 := Tryz.underlying143
  a213 := Tryz.isAgg143
  z213 := Tryz.sizeOf143
  t232 := Tryz.underlying147
  a232 := Tryz.isAgg147
  z232 := Tryz.sizeOf147
  v232 := Tryz.zeroValue147
  t233 := Tryz.underlying148
  a233 := Tryz.isAgg148
  z233 := Tryz.sizeOf148
  v233 := Tryz.zeroValue148
  g17 := by kernel_rfl
  g18 := by kernel_rfl
  g19 := by kernel_rfl
  i0 := by kernel_rfl
  i2 := by kernel_rfl
  i3 := by kernel_rfl
  i4 := by kernel_rfl
  i5 := by kernel_rfl
  i9 := by kernel_rfl
  i20 := by kernel_rfl
  i37 := by kernel_rfl
  i46 := by kernel_rfl
  i51 := by kernel_rfl
  i53 := by kernel_rfl
  i171 := by kernel_rfl
  i173 := by kernel_rfl
  i212 := by kernel_rfl
  i232 := by kernel_rfl
  i233 := by kernel_rfl
  m17 := by kernel_rfl
  m18 := by kernel_rfl
  m19 := by kernel_rfl }
end Go.Proofs.YtheiijnpggabkaaGreatDoor

/- What is written of an expression, plain; the writer and expressions in memory. -/
namespace Go.Proofs.YtheiijnpggabkaaGreatDoor
open Go.RowKit Go.Shelf

/-- What is written of many, with commas. -/
def wL (f : Ex → Option (List UInt8)) : Bool → List Ex → Option (List UInt8)
  | _, [] => some []
  | first, x :: r => match f x with
    | none => none
    | some a => match wL f false r with
      | none => none
      | some b => some ((bif first then a else 44 :: 32 :: a) ++ b)
/-- What is written of an expression: of a few kinds alone it is told. -/
def wE : Nat → Ex → Option (List UInt8)
  | 0, _ => none
  | n + 1, x => bif x.kind == 4 && decide (x.num ≤ 1000000) then some (Lib.decDigits x.num)
    else bif x.kind == 7 && decide (x.kids.length ≤ 1000000) then match wL (wE n) true x.kids with
      | none => none
      | some a => some (91 :: a ++ [93])
    else bif x.kind == 11 then match x.kids with
      | [a, b] => bif decide (a.kind < 12) then match wE n a with
          | none => none
          | some u => match wE n b with
            | none => none
            | some v => some (u ++ 91 :: v ++ [93])
        else none
      | _ => none
    else none
/-- What a writer's step leaves. -/
def WpO (B b : Nat) (n : Int) (l : List UInt8) (w : World) (e : Ending) (w' : World) : Prop := e = .returned (.tuple #[]) ∧ WrIs B b n (Lib.byteCells l) w' ∧ Kp B b w w' ∧ B ≤ w'.heap.size
theorem Kp.al {B : Nat} (b : Nat) {w : World} (hB : B ≤ w.heap.size) (o : Obj) : Kp B b w (w.alloc o) := ⟨(Below.refl B w).alloc hB o, (Lib.OthersKept.refl _ _ _).alloc o⟩
theorem WrAt.up {B b : Nat} {n : Int} {p : Value} {bs : List Value} {w w' : World} (h : WrAt B b n p bs w) (hb : ∀ g, g < w.heap.size → w'.heap[g]? = w.heap[g]?) : WrAt B b n p bs w' := by
  obtain ⟨hB, v, h1, h2, h3⟩ := h
  exact ⟨hB, v, (hb b (Array.getElem?_eq_some_iff.1 h1).1).trans h1, rowKeep h2 (fun g hg => hb g (h2.lt g hg).2), h3⟩
theorem WrIs.up {B b : Nat} {n : Int} {bs : List Value} {w w' : World} (h : WrIs B b n bs w) (hb : ∀ g, g < w.heap.size → w'.heap[g]? = w.heap[g]?) : WrIs B b n bs w' := h.imp (·.up hb) (·.up hb)
theorem WrIs.al {B b : Nat} {n : Int} {bs : List Value} {w : World} (h : WrIs B b n bs w) (o : Obj) : WrIs B b n bs (w.alloc o) := h.up fun g hg => heap_al w o g hg
theorem WrIs.lt {B b : Nat} {n : Int} {bs : List Value} {w : World} (h : WrIs B b n bs w) : b < w.heap.size := by
  rcases h with ⟨_, v, h1, _⟩ | ⟨_, v, h1, _⟩ <;> exact (Array.getElem?_eq_some_iff.1 h1).1
theorem Kp.other {B b : Nat} {w w' : World} (h : Kp B b w w') {g : Nat} {cur : Array Value} {e : TypeId} {fz : Nat × Nat} (hg : w.heap[g]? = some (.cells cur e fz)) (hb : g ≠ b) (he : e ≠ 5) : w'.heap[g]? = some (.cells cur e fz) := h.2 g _ hg (fun h => hb (by injection h)) (fun c fz h => by injection h with _ h2; exact he h2)
theorem Kp.row {B b : Nat} {w w' : World} (h : Kp B b w w') {base n sz : Nat} {e : TypeId} {v : Value} {xs : List Value} (hr : w.ownsRow base e sz v n xs) (hb : ∀ g, v.ownBlock = some g → g ≠ b) (he : e ≠ 5) : w'.ownsRow base e sz v n xs := by
  refine ⟨hr.1, ?_⟩
  rcases hr.2 with h2 | ⟨g, cap, cur, hv, h1, hg, r⟩
  · exact .inl h2
  · exact .inr ⟨g, cap, cur, hv, h1, h.other hg (hb g (by rw [hv]; rfl)) he, r⟩
theorem ExV.kpw {B b : Nat} {w w' : World} (hk : Kp B b w w') {S : Nat → Prop} (hS : ∀ g, S g → g ≠ b) : ∀ {n : Nat} {x : Ex} {c : List Value}, ExV w S n x c → ExV w' S n x c
  | _ + 1, _, _, ⟨kv, nv, vs, e, h1, h2, h3, h4, h5⟩ => ⟨kv, nv, vs, e, hk.row h1 (fun g hg => hS g (h3 g hg)) (by decide), hk.row h2 (fun g hg => hS g (h4 g hg)) (by decide), h3, h4, h5.mono fun _ _ f => ExV.kpw hk hS f⟩
theorem ExA.kpw {B b : Nat} {w w' : World} (hk : Kp B b w w') {S : Nat → Prop} (hS : ∀ g, S g → g ≠ b) {x : Ex} {c : List Value} (h : ExA w S x c) : ExA w' S x c := ⟨h.choose, h.choose_spec.kpw hk hS⟩
theorem bc_app (a b : List UInt8) : Lib.byteCells (a ++ b) = Lib.byteCells a ++ Lib.byteCells b := by simp [Lib.byteCells]
theorem bc_str (l : List UInt8) : Lib.strCells ⟨l.toArray⟩ = Lib.byteCells l := by simp [Lib.strCells, Lib.byteCells]
theorem bc_len (l : List UInt8) : (Lib.byteCells l).length = l.length := by simp [Lib.byteCells]
/-- A text is written. -/
theorem ws_any {B b : Nat} {n : Int} {l : List UInt8} {w : World} (h : WrIs B b n (Lib.byteCells l) w) (hB : B ≤ w.heap.size) (s : List UInt8) (hlen : l.length + s.length ≤ 1000000000) :
    Calls Tryz.prog 18 #[pt b, .string ⟨s.toArray⟩] w fun e w' => e = .returned (.tuple #[.int .i64 s.length, .nilIface]) ∧ WrIs B b n (Lib.byteCells (l ++ s)) w' ∧ Kp B b w w' ∧ B ≤ w'.heap.size := by
  have hsz : (⟨s.toArray⟩ : ByteArray).size = s.length := by show s.toArray.size = _; simp
  refine (wsW_any B b n _ ⟨s.toArray⟩ w h (by rw [bc_len, hsz]; omega) hB).mono ?_
  rintro e w' ⟨rfl, h1, h2⟩
  refine ⟨by rw [hsz], ?_, h2, Nat.le_trans hB h2.size⟩
  rw [bc_app, ← bc_str s]
  exact .inr h1
theorem wb_any {B b : Nat} {n : Int} {l : List UInt8} {w : World} (h : WrIs B b n (Lib.byteCells l) w) (hB : B ≤ w.heap.size) (c : UInt8) (hlen : l.length + 1 ≤ 1000000000) :
    Calls Tryz.prog 17 #[pt b, .int .u8 c.toNat] w fun e w' => e = .returned .nilIface ∧ WrIs B b n (Lib.byteCells (l ++ [c])) w' ∧ Kp B b w w' ∧ B ≤ w'.heap.size := by
  refine (wbW_any B b n _ c.toNat w h (by rw [bc_len]; omega) hB).mono ?_
  rintro e w' ⟨rfl, h1, h2⟩
  refine ⟨rfl, ?_, h2, Nat.le_trans hB h2.size⟩
  rw [bc_app]
  exact .inr h1
end Go.Proofs.YtheiijnpggabkaaGreatDoor

/- The writer: before, part. -/
namespace Go.Proofs.YtheiijnpggabkaaGreatDoor
open Go.RowKit Go.Shelf

def TabW (w : World) : Prop := Lib.TabIs Tryz.prog w "internal/strconv.uint64pow10" .u64 Lib.pow10Tab
theorem TabW.of_block {w w' : World} (h : TabW w) (hb : w'.heap[3]? = w.heap[3]?) : TabW w' := by
  have hg : Tryz.prog.globalNamed "internal/strconv.uint64pow10" = some 3 := by kernel_rfl
  unfold TabW Lib.TabIs World.var? at *
  rw [hg] at h ⊢
  simp only [Option.bind_some] at h ⊢
  rw [hb]
  exact h
theorem TabW.lt {w : World} (h : TabW w) : 3 < w.heap.size := by
  have hg : Tryz.prog.globalNamed "internal/strconv.uint64pow10" = some 3 := by kernel_rfl
  unfold TabW Lib.TabIs World.var? at h
  rw [hg] at h
  simp only [Option.bind_some] at h
  rcases Nat.lt_or_ge 3 w.heap.size with h1 | h1
  · exact h1
  · rw [Array.getElem?_eq_none h1] at h; cases h
theorem TabW.kp {B b : Nat} {w w' : World} (h : TabW w) (hk : Kp B b w w') (hB : 3 < B) : TabW w' := h.of_block (hk.1.block _ hB)
/-- What writes an expression of which it is told what is written. -/
def ExC (Y m : Nat) : Prop := ∀ (B b : Nat) (n : Int) (x : Ex) (out l : List UInt8) (w : World) (S : Nat → Prop) (c : List Value), wE m x = some out → WrIs B b n (Lib.byteCells l) w → B ≤ w.heap.size → 3 < B → TabW w → ExA w S x c → (∀ g, S g → g ≠ b) → l.length + out.length ≤ 1000000000 → Calls Tryz.prog Y #[pt b, .agg c.toArray] w (WpO B b n (l ++ out) w)
theorem five_of {w : World} {R : Nat} {v0 v1 v2 v3 v4 : Value} {t : TypeId} (h : w.heap[R]? = some (.cells #[v0, v1, v2, v3, v4] t (0, 0))) : w.cell? ⟨R, 0, none⟩ = some v0 ∧ w.cell? ⟨R, 1, none⟩ = some v1 ∧ w.cell? ⟨R, 2, none⟩ = some v2 ∧ w.cell? ⟨R, 3, none⟩ = some v3 ∧ w.cell? ⟨R, 4, none⟩ = some v4 := by
  refine ⟨?_, ?_, ?_, ?_, ?_⟩ <;> (rw [Lib.cell_of_heap h]; rfl)
theorem ExA.al {w : World} {S : Nat → Prop} {x : Ex} {c : List Value} (h : ExA w S x c) (o : Obj) : ExA (w.alloc o) S x c := h.keep (fun g _ hg => heap_al w o g hg) (fun _ hg _ => hg)

set_option maxHeartbeats 4000000 in
set_option maxRecDepth 100000 in
theorem before_any {m B b : Nat} {n : Int} {x : Ex} {out l : List UInt8} {w : World} {S : Nat → Prop} {c : List Value} (hE : ExC 54 m) (hx : wE m x = some out) (h : WrIs B b n (Lib.byteCells l) w) (hB : B ≤ w.heap.size) (hg : 3 < B) (ht : TabW w) (he : ExA w S x c) (hS : ∀ g, S g → g ≠ b) (ah : List UInt8) (hlen : l.length + ah.length + out.length ≤ 1000000000) :
    Calls Tryz.prog 34 #[pt b, .agg c.toArray, .string ⟨ah.toArray⟩] w (WpO B b n (l ++ ah ++ out) w) := by
  obtain ⟨a1, c1, a2, c2, hc⟩ := he.form
  subst hc
  have hbl := h.lt
  have hk0 : Kp B b w (w.alloc (.cells #[.int .i64 x.kind, .int .i64 x.num, .string (mkB x.text), .slice a1 x.kids.length c1, .slice a2 x.names.length c2] 41)) := Kp.al b hB _
  have hs0 : (w.alloc (.cells #[.int .i64 x.kind, .int .i64 x.num, .string (mkB x.text), .slice a1 x.kids.length c1, .slice a2 x.names.length c2] 41)).heap.size = w.heap.size + 1 := World.size_alloc _ _
  have HS := ws_any (h.al (.cells #[.int .i64 x.kind, .int .i64 x.num, .string (mkB x.text), .slice a1 x.kids.length c1, .slice a2 x.names.length c2] 41)) (by omega) ah (by omega)
  have HQ : Hid (Kp B b w (w.alloc (.cells #[.int .i64 x.kind, .int .i64 x.num, .string (mkB x.text), .slice a1 x.kids.length c1, .slice a2 x.names.length c2] 41)) ∧ (w.alloc (.cells #[.int .i64 x.kind, .int .i64 x.num, .string (mkB x.text), .slice a1 x.kids.length c1, .slice a2 x.names.length c2] 41)).heap[w.heap.size]? = some (.cells #[.int .i64 x.kind, .int .i64 x.num, .string (mkB x.text), .slice a1 x.kids.length c1, .slice a2 x.names.length c2] 41 (0, 0)) ∧ ExA (w.alloc (.cells #[.int .i64 x.kind, .int .i64 x.num, .string (mkB x.text), .slice a1 x.kids.length c1, .slice a2 x.names.length c2] 41)) S x [.int .i64 x.kind, .int .i64 x.num, .string (mkB x.text), .slice a1 x.kids.length c1, .slice a2 x.names.length c2] ∧ TabW (w.alloc (.cells #[.int .i64 x.kind, .int .i64 x.num, .string (mkB x.text), .slice a1 x.kids.length c1, .slice a2 x.names.length c2] 41))) := ⟨hk0, heap_alloc_new w _, he.al _, ht.kp hk0 hg⟩
  clear h hk0 ht he hs0
  go_enter Tryz.func34, Tryz.ntmps34
  go_wp2_with (go_at_call 18; refine HS.mono ?_; rintro e w1 ⟨rfl, h1, hk1, hB1⟩; obtain ⟨u0, u1, u2, u3, u4⟩ := five_of (hk1.other HQ.out.2.1 (by omega) (by decide)); have HE := hE B b n x out (l ++ ah) w1 S [.int .i64 x.kind, .int .i64 x.num, .string (mkB x.text), .slice a1 x.kids.length c1, .slice a2 x.names.length c2] hx h1 hB1 hg (HQ.out.2.2.2.kp hk1 hg) (HQ.out.2.2.1.kpw hk1 hS) hS (by rw [List.length_append]; omega); have HK := hk1; clear h1 hk1)
  refine HE.mono ?_
  rintro e w2 ⟨rfl, h2, hk2, hB2⟩
  go_wp2
  go_end0
  exact ⟨rfl, h2, (HQ.out.1.trans HK).trans hk2, hB2⟩

set_option maxHeartbeats 4000000 in
set_option maxRecDepth 100000 in
theorem part_any {m B b : Nat} {n : Int} {x : Ex} {out l : List UInt8} {w : World} {S : Nat → Prop} {c : List Value} (hE : ExC 54 m) (hx : wE m x = some out) (hk : x.kind < 12) (h : WrIs B b n (Lib.byteCells l) w) (hB : B ≤ w.heap.size) (hg : 3 < B) (ht : TabW w) (he : ExA w S x c) (hS : ∀ g, S g → g ≠ b) (hlen : l.length + out.length ≤ 1000000000) :
    Calls Tryz.prog 117 #[pt b, .agg c.toArray] w (WpO B b n (l ++ out) w) := by
  obtain ⟨a1, c1, a2, c2, hc⟩ := he.form
  subst hc
  have hbl := h.lt
  have hk0 : Kp B b w (w.alloc (.cells #[.int .i64 x.kind, .int .i64 x.num, .string (mkB x.text), .slice a1 x.kids.length c1, .slice a2 x.names.length c2] 41)) := Kp.al b hB _
  have hs0 : (w.alloc (.cells #[.int .i64 x.kind, .int .i64 x.num, .string (mkB x.text), .slice a1 x.kids.length c1, .slice a2 x.names.length c2] 41)).heap.size = w.heap.size + 1 := World.size_alloc _ _
  have HE := hE B b n x out l (w.alloc (.cells #[.int .i64 x.kind, .int .i64 x.num, .string (mkB x.text), .slice a1 x.kids.length c1, .slice a2 x.names.length c2] 41)) S [.int .i64 x.kind, .int .i64 x.num, .string (mkB x.text), .slice a1 x.kids.length c1, .slice a2 x.names.length c2] hx (h.al _) (by omega) hg (ht.kp hk0 hg) (he.al _) hS hlen
  have q1 : (((x.kind : Nat) : Int) == (12 : Int)) = false := by rw [beq_eq_false_iff_ne]; omega
  have q2 : (((x.kind : Nat) : Int) == (13 : Int)) = false := by rw [beq_eq_false_iff_ne]; omega
  have q3 : (((x.kind : Nat) : Int) == (14 : Int)) = false := by rw [beq_eq_false_iff_ne]; omega
  have HK : Hid (Kp B b w (w.alloc (.cells #[.int .i64 x.kind, .int .i64 x.num, .string (mkB x.text), .slice a1 x.kids.length c1, .slice a2 x.names.length c2] 41))) := hk0
  clear h hk0 ht he hs0 hE hx hk
  go_enter Tryz.func117, Tryz.ntmps117
  go_wp2_with fail
  refine HE.mono ?_
  rintro e w2 ⟨rfl, h2, hk2, hB2⟩
  go_wp2
  go_end0
  exact ⟨rfl, h2, HK.out.trans hk2, hB2⟩
end Go.Proofs.YtheiijnpggabkaaGreatDoor

/- The writer: lists. -/
namespace Go.Proofs.YtheiijnpggabkaaGreatDoor
open Go.RowKit Go.Shelf

theorem flat5 : ∀ (vs : List (List Value)) (_ : ∀ c ∈ vs, c.length = 5) (k : Nat) (c : List Value) (_ : vs[k]? = some c) (i : Nat) (_ : i < 5), vs.flatten[k * 5 + i]? = c[i]?
  | v :: vs, h, 0, c, hk, i, hi => by
    cases hk
    rw [Nat.zero_mul, Nat.zero_add, List.flatten_cons, List.getElem?_append_left (by rw [h v (by simp)]; exact hi)]
  | v :: vs, h, k + 1, c, hk, i, hi => by
    have hv := h v (by simp)
    rw [List.flatten_cons, List.getElem?_append_right (by rw [hv]; omega), hv, show (k + 1) * 5 + i - 5 = k * 5 + i from by omega]
    exact flat5 vs (fun c hc => h c (by simp [hc])) k c (by simpa using hk) i hi
theorem Fa.mem {α β : Type} {R : α → β → Prop} {P : β → Prop} (h : ∀ a b, R a b → P b) : ∀ {l : List α} {m : List β}, Fa R l m → ∀ b ∈ m, P b
  | [], [], _, _, hb => by cases hb
  | a :: l, b :: m, f, c, hc => by
    rcases List.mem_cons.1 hc with rfl | hc
    · exact h _ _ f.1
    · exact Fa.mem h f.2 c hc
theorem row_form {w : World} {B : Nat} {e : TypeId} {sz : Nat} {v : Value} {n : Nat} {xs : List Value} (h : w.ownsRow B e sz v n xs) (hn : 0 < n) : ∃ g cap, v = .slice (some ⟨g, 0, none⟩) n cap ∧ n ≤ cap ∧ ∀ j, j < n * sz → w.cell? ⟨g, j, none⟩ = xs[j]? := by
  rcases h.2 with ⟨_, e0⟩ | ⟨g, cap, cur, hv, h2, h3, h4, h5, h6, h7⟩
  · omega
  · exact ⟨g, cap, hv, h4, fun j hj => by rw [Lib.cell_of_heap h3, ← h7, List.getElem?_take_of_lt hj]; simp⟩
/-- A kid, where it lies. -/
theorem ExA.kid {w : World} {S : Nat → Prop} {x : Ex} {a1 a2 : Option Addr} {c1 c2 : Nat} (h : ExA w S x [.int .i64 x.kind, .int .i64 x.num, .string (mkB x.text), .slice a1 x.kids.length c1, .slice a2 x.names.length c2]) (k : Nat) (hk : k < x.kids.length) : ∃ g, a1 = some ⟨g, 0, none⟩ ∧ ∃ c, ExA w S x.kids[k] c ∧ ∀ i, i < 5 → w.cell? ⟨g, k * 5 + i, none⟩ = c[i]? := by
  obtain ⟨kv, nv, vs, e, h1, h2, h3, h4, h5⟩ := h.open
  injection e with _ e
  injection e with _ e
  injection e with _ e
  injection e with e1 e
  subst e1
  obtain ⟨g, cap, hv, _, hc⟩ := row_form h1 (by omega)
  cases hv
  have hvl := h5.len
  refine ⟨g, rfl, vs[k]'(by omega), Fa.get h5 k hk (by omega), fun i hi => ?_⟩
  rw [hc (k * 5 + i) (by have : k + 1 ≤ x.kids.length := hk; omega)]
  exact flat5 vs (Fa.mem (fun _ _ f => f.len) h5) k _ (List.getElem?_eq_getElem (by omega)) i hi

set_option maxHeartbeats 8000000 in
set_option maxRecDepth 100000 in
theorem wlisted_any {B b : Nat} {n : Int} {f : Ex → Option (List UInt8)} {kids : List Ex} {outs l : List UInt8} {w : World} (F : Nat) (p1 p2 : Value) (hent : ∀ args w, (callFunc F args).run Tryz.prog w = .ok (.enter F args) w) (hx : wL f true kids = some outs) (h : WrIs B b n (Lib.byteCells l) w) (hB : B ≤ w.heap.size) (op cl : List UInt8) (hn : kids.length ≤ 1000000) (hlen : l.length + op.length + outs.length + cl.length ≤ 1000000000)
    (hc : ∀ k (hk : k < kids.length) W l' out, Kp B b w W → WrIs B b n (Lib.byteCells l') W → B ≤ W.heap.size → f kids[k] = some out → l'.length + out.length ≤ 1000000000 → Calls Tryz.prog F #[.int .i64 k, p1, p2] W (WpO B b n (l' ++ out) W)) :
    Calls Tryz.prog 92 #[pt b, .string ⟨op.toArray⟩, .int .i64 kids.length, .string ⟨cl.toArray⟩, .func (.func F) #[] #[p1, p2]] w (WpO B b n (l ++ op ++ outs ++ cl) w) := by
  have HS := ws_any h hB op (by omega)
  have HC : Hid (∀ k (hk : k < kids.length) W l' out, Kp B b w W → WrIs B b n (Lib.byteCells l') W → B ≤ W.heap.size → f kids[k] = some out → l'.length + out.length ≤ 1000000000 → Calls Tryz.prog F #[.int .i64 k, p1, p2] W (WpO B b n (l' ++ out) W)) := hc
  have HX : Hid (wL f true kids = some outs) := hx
  have hni : (kids.length : Int) ≤ 1000000 := by omega
  clear h hc hx
  go_enter Tryz.func92, Tryz.ntmps92
  go_wp2_with (go_at_call 18; refine HS.mono ?_; rintro e w1 ⟨rfl, h1, hk1, hB1⟩; have HI : Hid (∃ l' rest, WrIs B b n (Lib.byteCells l') w1 ∧ Kp B b w w1 ∧ B ≤ w1.heap.size ∧ wL f true kids = some rest ∧ l' ++ rest = l ++ op ++ outs) := ⟨_, _, h1, hk1, hB1, HX.out, rfl⟩; clear h1 hk1 hB1 HX)
  go_loopw [17] (fun u wr => ∃ k : Nat, k ≤ kids.length ∧ u = .int .i64 (k : Int) ∧ Hid (∃ l' rest, WrIs B b n (Lib.byteCells l') wr ∧ Kp B b w wr ∧ B ≤ wr.heap.size ∧ wL f (decide (k = 0)) (kids.drop k) = some rest ∧ l' ++ rest = l ++ op ++ outs)) (fun u _ => kids.length - (intOf u).toNat)
  case atStart => exact ⟨0, Nat.zero_le _, rfl, HI⟩
  case round =>
    obtain ⟨k, hk, rfl, hrel⟩ := hrel
    obtain ⟨l', rest, hw, hkp, hBw, hr, hll⟩ := hrel.out
    have hll2 := congrArg List.length hll
    simp only [List.length_append] at hll2
    clear hrel HI HS
    by_cases hlt : k < kids.length
    · have hki : (k : Int) < (kids.length : Int) := by omega
      rw [List.drop_eq_getElem_cons hlt] at hr
      unfold wL at hr
      cases ha : f kids[k] with
      | none => rw [ha] at hr; cases hr
      | some a =>
      cases hb : wL f false (kids.drop (k + 1)) with
      | none => rw [ha, hb] at hr; cases hr
      | some bs =>
      rw [ha, hb] at hr
      replace hr : (bif decide (k = 0) then a else 44 :: 32 :: a) ++ bs = rest := by simpa using hr
      by_cases hk0 : k = 0
      · subst hk0
        have HE := HC.out 0 hlt wr l' a hkp hw hBw ha (by rw [← hr] at hll2; simp at hll2; omega)
        go_wp2_with fail
        refine HE.mono ?_
        rintro e w2 ⟨rfl, h2, hk2, hB2⟩
        have HI : Hid (∃ l'' rest, WrIs B b n (Lib.byteCells l'') w2 ∧ Kp B b w w2 ∧ B ≤ w2.heap.size ∧ wL f false (kids.drop 1) = some rest ∧ l'' ++ rest = l ++ op ++ outs) := ⟨l' ++ a, bs, h2, hkp.trans hk2, hB2, hb, by rw [← hll, ← hr]; simp⟩
        clear h2 hk2 hB2 HE hw hkp hBw
        go_wp2
        exact ⟨⟨1, by omega, by go_num, HI⟩, by simp [intOf]; omega⟩
      · have hkp0 : (0 : Int) < (k : Int) := by omega
        have hr2 : 44 :: 32 :: a ++ bs = rest := by simpa [hk0] using hr
        have HS := ws_any hw hBw [44, 32] (by rw [← hr2] at hll2; simp at hll2 ⊢; omega)
        go_wp2_with fail
        refine HS.mono ?_
        rintro e w2 ⟨rfl, h2, hk2, hB2⟩
        have HE := HC.out k hlt w2 (l' ++ [44, 32]) a (hkp.trans hk2) h2 hB2 ha (by rw [← hr2] at hll2; simp at hll2 ⊢; omega)
        go_wp2_with fail
        refine HE.mono ?_
        rintro e w3 ⟨rfl, h3, hk3, hB3⟩
        have HI : Hid (∃ l'' rest, WrIs B b n (Lib.byteCells l'') w3 ∧ Kp B b w w3 ∧ B ≤ w3.heap.size ∧ wL f (decide (k + 1 = 0)) (kids.drop (k + 1)) = some rest ∧ l'' ++ rest = l ++ op ++ outs) := ⟨l' ++ [44, 32] ++ a, bs, h3, (hkp.trans hk2).trans hk3, hB3, hb, by rw [← hll, ← hr2]; simp⟩
        clear h2 hk2 hB2 HE HS hw hkp hBw h3 hk3 hB3
        go_wp2
        exact ⟨⟨k + 1, by omega, by go_num, HI⟩, by simp [intOf]; omega⟩
    · obtain rfl : k = kids.length := by omega
      rw [List.drop_length] at hr
      have hr2 : rest = [] := by simpa [wL] using hr.symm
      subst hr2
      rw [List.append_nil] at hll
      subst hll
      have HS := ws_any hw hBw cl (by simp; omega)
      go_wp2_with (go_at_call 18; refine HS.mono ?_; rintro e w2 ⟨rfl, h2, hk2, hB2⟩)
      go_end0
      exact ⟨rfl, h2, hkp.trans hk2, hB2⟩

set_option maxHeartbeats 8000000 in
set_option maxRecDepth 100000 in
theorem madeE_any {m B b wb eb : Nat} {n : Int} {x : Ex} {a1 a2 : Option Addr} {c1 c2 : Nat} {W : World} {S : Nat → Prop} (hE : ExC 54 m) (hw : W.cell? ⟨wb, 0, none⟩ = some (pt b)) (he : W.heap[eb]? = some (.cells #[.int .i64 x.kind, .int .i64 x.num, .string (mkB x.text), .slice a1 x.kids.length c1, .slice a2 x.names.length c2] 41 (0, 0))) (hx : ExA W S x [.int .i64 x.kind, .int .i64 x.num, .string (mkB x.text), .slice a1 x.kids.length c1, .slice a2 x.names.length c2]) (hS : ∀ g, S g → g ≠ b) (hg : 3 < B) (ht : TabW W) (k : Nat) (hk : k < x.kids.length) {out l : List UInt8} (h : WrIs B b n (Lib.byteCells l) W) (hB : B ≤ W.heap.size) (ho : wE m x.kids[k] = some out) (hlen : l.length + out.length ≤ 1000000000) :
    Calls Tryz.prog 114 #[.int .i64 k, pt wb, pt eb] W (WpO B b n (l ++ out) W) := by
  obtain ⟨g, rfl, c, hxk, hcell⟩ := hx.kid k hk
  obtain ⟨_, _, _, u3, _⟩ := five_of he
  generalize hy : x.kids[k] = y at *
  obtain ⟨b1, d1, b2, d2, hc⟩ := hxk.form
  subst hc
  have v0 := hcell 0 (by decide)
  have v1 := hcell 1 (by decide)
  have v2 := hcell 2 (by decide)
  have v3 := hcell 3 (by decide)
  have v4 := hcell 4 (by decide)
  simp only [List.getElem?_cons_zero, List.getElem?_cons_succ, Nat.add_zero] at v0 v1 v2 v3 v4
  have hki : (k : Int) < (x.kids.length : Int) := by omega
  have HE : Hid (Calls Tryz.prog 54 #[pt b, .agg #[.int .i64 y.kind, .int .i64 y.num, .string (mkB y.text), .slice b1 y.kids.length d1, .slice b2 y.names.length d2]] W.drew (WpO B b n (l ++ out) W)) := (hE B b n y out l W.drew S [.int .i64 y.kind, .int .i64 y.num, .string (mkB y.text), .slice b1 y.kids.length d1, .slice b2 y.names.length d2] ho h hB hg (ht.of_block rfl) (hxk.keep (fun _ _ _ => rfl) (fun _ hg _ => hg)) hS hlen).mono fun e w' ⟨q1, q2, q3, q4⟩ => ⟨q1, q2, ⟨⟨q3.1.os, q3.1.tape, q3.1.output, q3.1.size, q3.1.block⟩, q3.2⟩, q4⟩
  clear hcell hxk hx he hE h hB ht hy
  go_enter Tryz.func114, Tryz.ntmps114
  go_wp2_with fail
  go_region_with (first
    | (go_at_call 54; refine HE.out.mono ?_; rintro e w2 ⟨rfl, h2, hk2, hB2⟩)
    | fail)
  all_goals
    go_wp2
    go_end0
    exact ⟨rfl, h2, hk2, hB2⟩
end Go.Proofs.YtheiijnpggabkaaGreatDoor

/- The writer: expressions. -/
namespace Go.Proofs.YtheiijnpggabkaaGreatDoor
open Go.RowKit Go.Shelf Go.Sort

theorem mk_func2 (fn : Fn) (first cap : Array Value) (w : World) : (Instr.makeFunc fn first cap).run Tryz.prog w = .ok (.func fn first cap) w := rfl
attribute [local go_sem] mk_func2
def mdW (b : Nat) (k : Array Value) (w : World) : World := (w.alloc (.cells #[pt b] 54)).alloc (.cells k 41)
theorem md_facts {B b : Nat} {n : Int} {bs : List Value} {w : World} (k : Array Value) (h : WrIs B b n bs w) (hB : B ≤ w.heap.size) : WrIs B b n bs (mdW b k w) ∧ Kp B b w (mdW b k w) ∧ (mdW b k w).heap[w.heap.size]? = some (.cells #[pt b] 54 (0, 0)) ∧ (mdW b k w).heap[w.heap.size + 1]? = some (.cells k 41 (0, 0)) ∧ B ≤ (mdW b k w).heap.size := by
  have s0 : (w.alloc (.cells #[pt b] 54)).heap.size = w.heap.size + 1 := World.size_alloc _ _
  have hk1 : Kp B b w (w.alloc (.cells #[pt b] 54)) := Kp.al b hB _
  refine ⟨(h.al _).al _, hk1.trans (Kp.al b (by omega) _), (heap_al _ _ _ (by omega)).trans (heap_alloc_new w _), ?_, by unfold mdW; rw [World.size_alloc, s0]; omega⟩
  have := heap_alloc_new (w.alloc (.cells #[pt b] 54)) (.cells k 41)
  rwa [s0] at this
theorem box_of {w : World} {R : Nat} {v : Value} {t : TypeId} (h : w.heap[R]? = some (.cells #[v] t (0, 0))) : w.cell? ⟨R, 0, none⟩ = some v := by rw [Lib.cell_of_heap h]; rfl

set_option maxHeartbeats 8000000 in
set_option maxRecDepth 100000 in
theorem madeL_any {m B b : Nat} {n : Int} {x : Ex} {outs l : List UInt8} {w : World} {S : Nat → Prop} {c : List Value} (hE : ExC 54 m) (hkd : x.kind = 7) (hx : wL (wE m) true x.kids = some outs) (h : WrIs B b n (Lib.byteCells l) w) (hB : B ≤ w.heap.size) (hg : 3 < B) (ht : TabW w) (he : ExA w S x c) (hS : ∀ g, S g → g ≠ b) (hn : x.kids.length ≤ 1000000) (hlen : l.length + outs.length + 2 ≤ 1000000000) :
    Calls Tryz.prog 91 #[pt b, .agg c.toArray] w (WpO B b n (l ++ (91 :: outs ++ [93])) w) := by
  obtain ⟨a1, c1, a2, c2, hc⟩ := he.form
  subst hc
  have hbl := h.lt
  obtain ⟨h0, hk0, hw0, he0, hB0⟩ := md_facts #[.int .i64 x.kind, .int .i64 x.num, .string (mkB x.text), .slice a1 x.kids.length c1, .slice a2 x.names.length c2] h hB
  have cw := box_of hw0
  have HL : Calls Tryz.prog 92 #[pt b, .string ⟨#[91]⟩, .int .i64 x.kids.length, .string ⟨#[93]⟩, .func (.func 114) #[] #[pt w.heap.size, pt (w.heap.size + 1)]] (mdW b #[.int .i64 x.kind, .int .i64 x.num, .string (mkB x.text), .slice a1 x.kids.length c1, .slice a2 x.names.length c2] w) (WpO B b n (l ++ [91] ++ outs ++ [93]) (mdW b #[.int .i64 x.kind, .int .i64 x.num, .string (mkB x.text), .slice a1 x.kids.length c1, .slice a2 x.names.length c2] w)) :=
    wlisted_any 114 (pt w.heap.size) (pt (w.heap.size + 1)) (enters_of Tryz.func114 (by kernel_rfl) rfl) hx h0 hB0 [91] [93] hn (by simp; omega) fun k hk W l' out hkW hW hBW ho hl2 =>
      madeE_any hE (box_of (hkW.other hw0 (by omega) (by decide))) (hkW.other he0 (by omega) (by decide)) ((ExA.kpw hk0 hS he).kpw hkW hS) hS hg ((ht.kp hk0 hg).kp hkW hg) k hk hW hBW ho hl2
  obtain ⟨u0, u1, u2, u3, u4⟩ := five_of he0
  have HK : Hid (Kp B b w (mdW b #[.int .i64 x.kind, .int .i64 x.num, .string (mkB x.text), .slice a1 x.kids.length c1, .slice a2 x.names.length c2] w)) := hk0
  have hq : (((x.kind : Nat) : Int) == (7 : Int)) = true := by rw [hkd]; rfl
  clear h h0 hk0 hw0 he0 he ht hx hE hB0 hkd
  unfold mdW at *
  go_enter Tryz.func91, Tryz.ntmps91
  go_wp2_with fail
  refine HL.mono ?_
  rintro e w2 ⟨rfl, h2, hk2, hB2⟩
  go_wp2
  go_end0
  exact ⟨rfl, by simpa using h2, HK.out.trans hk2, hB2⟩
theorem Kp.un {B b : Nat} {w w' : World} (h : Kp B b w.drew w') : Kp B b w w' := ⟨⟨h.1.os, h.1.tape, h.1.output, h.1.size, h.1.block⟩, h.2⟩

set_option maxHeartbeats 8000000 in
set_option maxRecDepth 100000 in
theorem madeI_any {m B b : Nat} {n : Int} {x y z : Ex} {o1 o2 l : List UInt8} {w : World} {S : Nat → Prop} {c : List Value} (hE : ExC 54 m) (hkd : x.kind = 11) (hks : x.kids = [y, z]) (hyk : y.kind < 12) (hy : wE m y = some o1) (hz : wE m z = some o2) (h : WrIs B b n (Lib.byteCells l) w) (hB : B ≤ w.heap.size) (hg : 3 < B) (ht : TabW w) (he : ExA w S x c) (hS : ∀ g, S g → g ≠ b) (hlen : l.length + o1.length + o2.length + 2 ≤ 1000000000) :
    Calls Tryz.prog 91 #[pt b, .agg c.toArray] w (WpO B b n (l ++ (o1 ++ 91 :: o2 ++ [93])) w) := by
  obtain ⟨a1, c1, a2, c2, hc⟩ := he.form
  subst hc
  have hbl := h.lt
  obtain ⟨h0, hk0, hw0, he0, hB0⟩ := md_facts #[.int .i64 x.kind, .int .i64 x.num, .string (mkB x.text), .slice a1 x.kids.length c1, .slice a2 x.names.length c2] h hB
  have cw := box_of hw0
  obtain ⟨u0, u1, u2, u3, u4⟩ := five_of he0
  have hxW := ExA.kpw hk0 hS he
  have hl2 : x.kids.length = 2 := by rw [hks]; rfl
  obtain ⟨g, rfl, cy, hxy, hcy⟩ := hxW.kid 0 (by omega)
  obtain ⟨g2, hg2, cz, hxz, hcz⟩ := hxW.kid 1 (by omega)
  cases hg2
  have ey : x.kids[0]'(by omega) = y := by simp [hks]
  have ezz : x.kids[1]'(by omega) = z := by simp [hks]
  rw [ey] at hxy
  rw [ezz] at hxz
  obtain ⟨b1, d1, b2, d2, e1⟩ := hxy.form
  subst e1
  obtain ⟨f1, g1, f2, g2, e2⟩ := hxz.form
  subst e2
  have v0 := hcy 0 (by decide)
  have v1 := hcy 1 (by decide)
  have v2 := hcy 2 (by decide)
  have v3 := hcy 3 (by decide)
  have v4 := hcy 4 (by decide)
  simp only [List.getElem?_cons_zero, List.getElem?_cons_succ, Nat.add_zero, Nat.zero_mul, Nat.zero_add] at v0 v1 v2 v3 v4
  have hgb : ∀ (V : World), Kp B b (mdW b #[.int .i64 x.kind, .int .i64 x.num, .string (mkB x.text), .slice (some ⟨g, 0, none⟩) x.kids.length c1, .slice a2 x.names.length c2] w) V → V.heap[g]? = (mdW b #[.int .i64 x.kind, .int .i64 x.num, .string (mkB x.text), .slice (some ⟨g, 0, none⟩) x.kids.length c1, .slice a2 x.names.length c2] w).heap[g]? := fun V hV => by
    obtain ⟨kv, nv, vs, e, q1, q2, q3, q4, q5⟩ := hxW.open
    injection e with _ e
    injection e with _ e
    injection e with _ e
    injection e with e1 e
    subst e1
    rcases q1.2 with ⟨hv, _⟩ | ⟨g', cap, cur, hv, _, hgg, _⟩
    · cases hv
    · cases hv
      rw [hgg]
      exact hV.other hgg (hS _ (q3 _ rfl)) (by decide)
  have HP : Hid (Calls Tryz.prog 117 #[pt b, .agg #[.int .i64 y.kind, .int .i64 y.num, .string (mkB y.text), .slice b1 y.kids.length d1, .slice b2 y.names.length d2]] (mdW b #[.int .i64 x.kind, .int .i64 x.num, .string (mkB x.text), .slice (some ⟨g, 0, none⟩) x.kids.length c1, .slice a2 x.names.length c2] w).drew (WpO B b n (l ++ o1) (mdW b #[.int .i64 x.kind, .int .i64 x.num, .string (mkB x.text), .slice (some ⟨g, 0, none⟩) x.kids.length c1, .slice a2 x.names.length c2] w).drew)) := part_any (w := (mdW b #[.int .i64 x.kind, .int .i64 x.num, .string (mkB x.text), .slice (some ⟨g, 0, none⟩) x.kids.length c1, .slice a2 x.names.length c2] w).drew) hE hy hyk h0 hB0 hg ((ht.kp hk0 hg).of_block rfl) (hxy.keep (fun _ _ _ => rfl) (fun _ q _ => q)) hS (by omega)
  have HF : Hid (∀ V, Kp B b (mdW b #[.int .i64 x.kind, .int .i64 x.num, .string (mkB x.text), .slice (some ⟨g, 0, none⟩) x.kids.length c1, .slice a2 x.names.length c2] w) V → (V.cell? ⟨w.heap.size, 0, none⟩ = some (pt b) ∧ V.cell? ⟨w.heap.size + 1, 3, none⟩ = some (.slice (some ⟨g, 0, none⟩) x.kids.length c1)) ∧ (V.cell? ⟨g, 5, none⟩ = some (.int .i64 z.kind) ∧ V.cell? ⟨g, 6, none⟩ = some (.int .i64 z.num) ∧ V.cell? ⟨g, 7, none⟩ = some (.string (mkB z.text)) ∧ V.cell? ⟨g, 8, none⟩ = some (.slice f1 z.kids.length g1) ∧ V.cell? ⟨g, 9, none⟩ = some (.slice f2 z.names.length g2)) ∧ ExA V S z [.int .i64 z.kind, .int .i64 z.num, .string (mkB z.text), .slice f1 z.kids.length g1, .slice f2 z.names.length g2] ∧ TabW V) := fun V hV => by
    have hcell : ∀ o, V.cell? ⟨g, o, none⟩ = (mdW b #[.int .i64 x.kind, .int .i64 x.num, .string (mkB x.text), .slice (some ⟨g, 0, none⟩) x.kids.length c1, .slice a2 x.names.length c2] w).cell? ⟨g, o, none⟩ := fun o => World.cell?_of_block (hgb V hV)
    refine ⟨⟨box_of (hV.other hw0 (by omega) (by decide)), (five_of (hV.other he0 (by omega) (by decide))).2.2.2.1⟩, ⟨?_, ?_, ?_, ?_, ?_⟩, hxz.kpw hV hS, (ht.kp hk0 hg).kp hV hg⟩
    · rw [hcell]; exact hcz 0 (by decide)
    · rw [hcell]; exact hcz 1 (by decide)
    · rw [hcell]; exact hcz 2 (by decide)
    · rw [hcell]; exact hcz 3 (by decide)
    · rw [hcell]; exact hcz 4 (by decide)
  have HK : Hid (Kp B b w (mdW b #[.int .i64 x.kind, .int .i64 x.num, .string (mkB x.text), .slice (some ⟨g, 0, none⟩) x.kids.length c1, .slice a2 x.names.length c2] w)) := hk0
  have hq7 : (((x.kind : Nat) : Int) == (7 : Int)) = false := by rw [hkd]; rfl
  have hq8 : (((x.kind : Nat) : Int) == (8 : Int)) = false := by rw [hkd]; rfl
  have hq9 : (((x.kind : Nat) : Int) == (9 : Int)) = false := by rw [hkd]; rfl
  have hq10 : (((x.kind : Nat) : Int) == (10 : Int)) = false := by rw [hkd]; rfl
  have hq11 : (((x.kind : Nat) : Int) == (11 : Int)) = true := by rw [hkd]; rfl
  clear h h0 hk0 hw0 he0 he ht hB0 hkd hxW hxy hxz hcy hcz hgb hy hyk ey ezz hks
  rw [hl2] at *
  unfold mdW at *
  go_enter Tryz.func91, Tryz.ntmps91
  go_wp2_with fail
  go_region_with (first
    | (go_at_call 117; refine HP.out.mono ?_; rintro e w1 ⟨rfl, h1, hk1, hB1⟩; obtain ⟨⟨p0, p1⟩, ⟨z0, z1, z2, z3, z4⟩, hz1, ht1⟩ := HF.out w1 hk1.un)
    | fail)
  all_goals
    have HBf : Hid (Calls Tryz.prog 34 #[pt b, .agg #[.int .i64 z.kind, .int .i64 z.num, .string (mkB z.text), .slice f1 z.kids.length g1, .slice f2 z.names.length g2], .string ⟨#[91]⟩] w1.drew (WpO B b n (l ++ o1 ++ [91] ++ o2) w1.drew)) := before_any (w := w1.drew) hE hz h1 hB1 hg (ht1.of_block rfl) (hz1.keep (fun _ _ _ => rfl) (fun _ q _ => q)) hS [91] (by simp; omega)
    have HK1 : Hid (Kp B b w w1) := HK.out.trans hk1.un
    have HF1 : Hid (∀ V, Kp B b w1 V → V.cell? ⟨w.heap.size, 0, none⟩ = some (pt b)) := fun V hV => (HF.out V (hk1.un.trans hV)).1.1
    clear h1 hk1 hB1 hz1 ht1 HF HP
    go_wp2_with fail
    go_region_with (first
      | (go_at_call 34; refine HBf.out.mono ?_; rintro e w3 ⟨rfl, h3, hk3, hB3⟩; have p3 := HF1.out w3 hk3.un)
      | fail)
    all_goals
      have HWb := wb_any h3 hB3 93 (by simp; omega)
      go_wp2_with (go_at_call 17; refine HWb.mono ?_; rintro e w4 ⟨rfl, h4, hk4, hB4⟩)
      go_end0
      exact ⟨rfl, by simpa using h4, (HK1.out.trans hk3.un).trans hk4, hB4⟩

theorem itoaS (k : Nat) (hk : k ≤ 1000000) (w : World) (h : TabW w) :
    Calls Tryz.prog 90 #[.int .i64 (k : Int)] w fun e w' => e = .returned (.string ⟨(Lib.decDigits k).toArray⟩) ∧ Below w.heap.size w w' := by
  refine (Any.strconv_Itoa laysI (k : Int) (by omega) (by omega) w h).mono ?_
  rintro e w' ⟨rfl, j, os, rfl⟩
  refine ⟨?_, ⟨rfl, rfl, rfl, ?_, ?_⟩⟩
  · have e : Lib.itoa (k : Int) = Lib.decDigits k := by
      unfold Lib.itoa
      rw [if_neg (by omega)]
      rfl
    rw [e]
    all_goals rfl
  · simp [grow]
  · intro g hg
    rw [heap_grow_old _ _ (by simpa using hg)]
    rfl

set_option maxHeartbeats 8000000 in
set_option maxRecDepth 100000 in
theorem exprI_any {B b : Nat} {n : Int} {x : Ex} {l : List UInt8} {w : World} {S : Nat → Prop} {c : List Value} (hkd : x.kind = 4) (hn : x.num ≤ 1000000) (h : WrIs B b n (Lib.byteCells l) w) (hB : B ≤ w.heap.size) (hg : 3 < B) (ht : TabW w) (he : ExA w S x c) (hlen : l.length + (Lib.decDigits x.num).length ≤ 1000000000) :
    Calls Tryz.prog 54 #[pt b, .agg c.toArray] w (WpO B b n (l ++ Lib.decDigits x.num) w) := by
  obtain ⟨a1, c1, a2, c2, hc⟩ := he.form
  subst hc
  have hk0 : Kp B b w (w.alloc (.cells #[.int .i64 x.kind, .int .i64 x.num, .string (mkB x.text), .slice a1 x.kids.length c1, .slice a2 x.names.length c2] 41)) := Kp.al b hB _
  have s0 : (w.alloc (.cells #[.int .i64 x.kind, .int .i64 x.num, .string (mkB x.text), .slice a1 x.kids.length c1, .slice a2 x.names.length c2] 41)).heap.size = w.heap.size + 1 := World.size_alloc _ _
  have HI : Hid (Calls Tryz.prog 90 #[.int .i64 (x.num : Int)] (w.alloc (.cells #[.int .i64 x.kind, .int .i64 x.num, .string (mkB x.text), .slice a1 x.kids.length c1, .slice a2 x.names.length c2] 41)).drew fun e w' => e = .returned (.string ⟨(Lib.decDigits x.num).toArray⟩) ∧ WrIs B b n (Lib.byteCells l) w' ∧ Kp B b w w' ∧ B ≤ w'.heap.size) := (itoaS x.num hn (w.alloc (.cells #[.int .i64 x.kind, .int .i64 x.num, .string (mkB x.text), .slice a1 x.kids.length c1, .slice a2 x.names.length c2] 41)).drew ((ht.kp hk0 hg).of_block rfl)).mono fun e w' ⟨q1, q2⟩ => by
    have q3 : ∀ g, g < (w.alloc (.cells #[.int .i64 x.kind, .int .i64 x.num, .string (mkB x.text), .slice a1 x.kids.length c1, .slice a2 x.names.length c2] 41)).heap.size → w'.heap[g]? = (w.alloc (.cells #[.int .i64 x.kind, .int .i64 x.num, .string (mkB x.text), .slice a1 x.kids.length c1, .slice a2 x.names.length c2] 41)).heap[g]? := q2.block
    have q4 : (w.alloc (.cells #[.int .i64 x.kind, .int .i64 x.num, .string (mkB x.text), .slice a1 x.kids.length c1, .slice a2 x.names.length c2] 41)).heap.size ≤ w'.heap.size := q2.size
    exact ⟨q1, (h.al _).up q3, hk0.trans ⟨⟨q2.os, q2.tape, q2.output, q4, fun g hg => q3 g (by omega)⟩, fun k o hk _ _ => (q3 k (Array.getElem?_eq_some_iff.1 hk).1).trans hk⟩, by omega⟩
  have q1 : (((x.kind : Nat) : Int) == (1 : Int)) = false := by rw [hkd]; rfl
  have q2 : (((x.kind : Nat) : Int) == (2 : Int)) = false := by rw [hkd]; rfl
  have q3 : (((x.kind : Nat) : Int) == (3 : Int)) = false := by rw [hkd]; rfl
  have q4 : (((x.kind : Nat) : Int) == (4 : Int)) = true := by rw [hkd]; rfl
  clear hk0 ht he h hkd s0
  go_enter Tryz.func54, Tryz.ntmps54
  go_wp2_with fail
  go_region_with (first
    | (go_at_call 90; refine HI.out.mono ?_; rintro e w1 ⟨rfl, h1, hk1, hB1⟩; have HW := ws_any h1 hB1 (Lib.decDigits x.num) hlen; clear h1 hB1)
    | (go_at_call 18; refine HW.mono ?_; rintro e w2 ⟨rfl, h2, hk2, hB2⟩)
    | fail)
  all_goals
    go_wp2
    go_end0
    exact ⟨rfl, h2, hk1.trans hk2, hB2⟩

set_option maxHeartbeats 8000000 in
set_option maxRecDepth 100000 in
theorem exprM_any {B b : Nat} {n : Int} {x : Ex} {out l : List UInt8} {w : World} {S : Nat → Prop} {c : List Value} (hkd : 7 ≤ x.kind) (h : WrIs B b n (Lib.byteCells l) w) (hB : B ≤ w.heap.size) (hg : 3 < B) (ht : TabW w) (he : ExA w S x c)
    (hM : ∀ V, WrIs B b n (Lib.byteCells l) V → B ≤ V.heap.size → TabW V → ExA V S x c → Calls Tryz.prog 91 #[pt b, .agg c.toArray] V (WpO B b n (l ++ out) V)) :
    Calls Tryz.prog 54 #[pt b, .agg c.toArray] w (WpO B b n (l ++ out) w) := by
  obtain ⟨a1, c1, a2, c2, hc⟩ := he.form
  subst hc
  have hk0 : Kp B b w (w.alloc (.cells #[.int .i64 x.kind, .int .i64 x.num, .string (mkB x.text), .slice a1 x.kids.length c1, .slice a2 x.names.length c2] 41)) := Kp.al b hB _
  have s0 : (w.alloc (.cells #[.int .i64 x.kind, .int .i64 x.num, .string (mkB x.text), .slice a1 x.kids.length c1, .slice a2 x.names.length c2] 41)).heap.size = w.heap.size + 1 := World.size_alloc _ _
  have HE := hM (w.alloc (.cells #[.int .i64 x.kind, .int .i64 x.num, .string (mkB x.text), .slice a1 x.kids.length c1, .slice a2 x.names.length c2] 41)) (h.al _) (by omega) (ht.kp hk0 hg) (he.al _)
  have q1 : (((x.kind : Nat) : Int) == (1 : Int)) = false := by rw [beq_eq_false_iff_ne]; omega
  have q2 : (((x.kind : Nat) : Int) == (2 : Int)) = false := by rw [beq_eq_false_iff_ne]; omega
  have q3 : (((x.kind : Nat) : Int) == (3 : Int)) = false := by rw [beq_eq_false_iff_ne]; omega
  have q4 : (((x.kind : Nat) : Int) == (4 : Int)) = false := by rw [beq_eq_false_iff_ne]; omega
  have q5 : (((x.kind : Nat) : Int) == (5 : Int)) = false := by rw [beq_eq_false_iff_ne]; omega
  have q6 : (((x.kind : Nat) : Int) == (6 : Int)) = false := by rw [beq_eq_false_iff_ne]; omega
  have HK : Hid (Kp B b w (w.alloc (.cells #[.int .i64 x.kind, .int .i64 x.num, .string (mkB x.text), .slice a1 x.kids.length c1, .slice a2 x.names.length c2] 41))) := hk0
  clear hk0 ht he h hkd s0 hM
  go_enter Tryz.func54, Tryz.ntmps54
  go_wp2_with fail
  refine HE.mono ?_
  rintro e w2 ⟨rfl, h2, hk2, hB2⟩
  go_wp2
  go_end0
  exact ⟨rfl, h2, HK.out.trans hk2, hB2⟩
end Go.Proofs.YtheiijnpggabkaaGreatDoor

/- Statements of tokens, plain: settings alone are told. -/
namespace Go.Proofs.YtheiijnpggabkaaGreatDoor

def smlF (E : Ps → Px Ex) (p : Ps) : Px Sm :=
  bif p.sees [[112, 97, 115, 115]] then none
  else bif p.sees [[114, 101, 116, 117, 114, 110]] then none
  else bif p.sees [[108, 111, 97, 100]] then none
  else bif sSet p then setS E p else none
def stmF (E : Ps → Px Ex) (p : Ps) : Px Sm :=
  bif p.sees [[105, 102]] then none
  else bif p.sees [[102, 111, 114]] then none
  else bif p.sees [[100, 101, 102]] then none
  else bnd (smlF E p) fun s q => bnd (tkK 6 q) fun _ q => ok s q
def srcL (E : Ps → Px Ex) : Nat → List Sm → Ps → Px (List Sm)
  | 0, _, _ => none
  | f + 1, l, p => bif decide (p.toks.length = 0) then ok l p else iff (decide (l.length < 1000000)) (bnd (stmF E p) fun s q => iff (less q p) (srcL E f (l ++ [s]) q))
def srcF (E : Ps → Px Ex) (p : Ps) : Px (List Sm) := srcL E (p.toks.length + 1) [] p
end Go.Proofs.YtheiijnpggabkaaGreatDoor

/- What stands with some signs between. -/
namespace Go.Proofs.YtheiijnpggabkaaGreatDoor
open Go.RowKit Go.Shelf
attribute [local go_sem ↓] fld0 fld1 fld2 fld3

/-- How many tokens are left. -/
def tkLen (P : Nat) (w : World) : Nat := match w.cell? ⟨P, 0, none⟩ with
  | some (.slice _ n _) => n
  | _ => 0
theorem PsA.tk {P T : Nat} {w : World} {p : Ps} (h : PsA P T w p) : tkLen P w = p.toks.length := by
  obtain ⟨_, _, c0, _⟩ := h.cells
  unfold tkLen
  rw [c0]
theorem poE_fin2 {P T : Nat} {w w1 : World} {R : Nat} (hR : w.heap.size ≤ R) {S : Nat → Prop} {x : Ex} {c : List Value} (hx : ExA w1 S x c) (hS : ∀ g, S g → w.heap.size ≤ g ∧ g ≠ R) {q : Ps} (hps : PsA P T w1 q) (hk : KP P w w1) (hP : P < w.heap.size) (hT : T < w.heap.size) :
    PoA P T (VE w.heap.size) w (.ok (x, q)) (.returned (.agg c.toArray)) (w1.setCells R 0 c) :=
  ⟨_, rfl, ⟨c, rfl, hx.keep (fun g hg _ => heap_sets R c 0 w1 g (hS g hg).2) (fun g hg _ => (hS g hg).1)⟩, hps.sets (by omega) (by omega) _, hk.sets hR _⟩
theorem cells_of_range {w : World} {b : Nat} {c : List Value} {c0 : Array Value} {ty : TypeId} (h : w.heap[b]? = some (.cells c0 ty (0, 0))) (hl : c.length = c0.size) : (w.setCells b 0 c).rangeAt b 0 c := World.rangeAt_setCells_same _ _ _ _ (by rw [hl]; exact there_of h)
/-- A variable of an expression's type. -/
def EV (w : World) (L : Nat) (c : List Value) : Prop := (∃ c0, w.heap[L]? = some (.cells c0 41 (0, 0)) ∧ c0.size = 5) ∧ w.rangeAt L 0 c
theorem EV.lt {w : World} {L : Nat} {c : List Value} (h : EV w L c) : L < w.heap.size := by
  obtain ⟨⟨c0, h, _⟩, _⟩ := h
  exact (Array.getElem?_eq_some_iff.1 h).1
theorem EV.keep {w w' : World} {L : Nat} {c : List Value} (h : EV w L c) (hk : w'.heap[L]? = w.heap[L]?) : EV w' L c := by
  obtain ⟨⟨c0, h1, h2⟩, h3⟩ := h
  refine ⟨⟨c0, hk.trans h1, h2⟩, fun j v hv => ?_⟩
  rw [← h3 j v hv]
  simp [World.cell?, hk]
theorem heap_set_same (b : Nat) {c0 : Array Value} {ty : TypeId} : ∀ (vs : List Value) (o : Nat) (w : World), w.heap[b]? = some (.cells c0 ty (0, 0)) → ∃ c1 : Array Value, (w.setCells b o vs).heap[b]? = some (.cells c1 ty (0, 0)) ∧ c1.size = c0.size
  | [], _, _, h => ⟨c0, h, rfl⟩
  | v :: vs, o, w, h => by
    have h2 : (w.setCell ⟨b, o, none⟩ v).heap[b]? = some (.cells (c0.setIfInBounds o v) ty (0, 0)) := Go.Joins.block_setCell h v
    obtain ⟨c1, h3, h4⟩ := heap_set_same b vs (o + 1) _ h2
    exact ⟨c1, h3, by rw [h4]; simp⟩
theorem EV.put {w : World} {L : Nat} {c : List Value} (h : EV w L c) {c' : List Value} (hl : c'.length = 5) : EV (w.setCells L 0 c') L c' := by
  obtain ⟨⟨c0, h1, h2⟩, _⟩ := h
  obtain ⟨c1, h3, h4⟩ := heap_set_same L c' 0 w h1
  exact ⟨⟨c1, h3, by rw [h4, h2]⟩, cells_of_range h1 (by rw [hl, h2])⟩
theorem EV.new {w1 : World} {c : List Value} (hl : c.length = 5) : EV ((w1.alloc ez).setCells w1.heap.size 0 c) w1.heap.size c := by
  have hr : (w1.alloc ez).heap[w1.heap.size]? = some ez := heap_alloc_new w1 _
  obtain ⟨c1, h3, h4⟩ := heap_set_same w1.heap.size c 0 _ hr
  exact ⟨⟨c1, h3, h4⟩, cells_of_range hr hl⟩
theorem EV.there {w : World} {L : Nat} {c : List Value} (h : EV w L c) {c' : List Value} (hl : c'.length = 5) : w.there L 0 c'.toArray.size := by
  obtain ⟨⟨c0, h1, h2⟩, _⟩ := h
  have : c'.toArray.size = c0.size := hl.trans h2.symm
  rw [this]
  exact there_of h1
/-- Where joined stands. -/
def JoI (P T n L : Nat) (w : World) (m : Ps → Px Ex) (l : List (List UInt8)) (z : Except Ft (Ex × Ps)) (wr : World) : Prop := ∃ e p f c, jnL m l f e p = some z ∧ PsA P T wr p ∧ KP P w wr ∧ EV wr L c ∧ ExA wr (fun g => n + 1 ≤ g ∧ g ≠ L) e c ∧ wr.heap[n]? = some ez

set_option maxHeartbeats 8000000 in
set_option maxRecDepth 100000 in
theorem joined_any {P T F : Nat} {caps : Array Value} {w : World} {p : Ps} {m : Ps → Px Ex} (h : PsA P T w p) (hm : PartC P T F caps w m) {sgv : Value} {l : List (List UInt8)} (hsg : SgA P w sgv l) {z : Except Ft (Ex × Ps)} (hz : jn m l p = some z) :
    Calls Tryz.prog 106 #[pt P, .func (.func F) #[] caps, sgv] w (PoA P T (VE w.heap.size) w z) := by
  have hPl := h.lt
  have hTl := h.ltT
  have hent := hm.1
  have HM : Hid (PartC P T F caps w m) := hm
  have HSG : Hid (SgA P w sgv l) := hsg
  have hk0 : KP P w (w.alloc ez) := KP.of_below (alB w ez)
  have hr0 : (w.alloc ez).heap[w.heap.size]? = some ez := heap_alloc_new w ez
  have HC : Hid (∀ z', m p = some z' → Calls Tryz.prog F caps (w.alloc ez) (PoA P T (VE (w.heap.size + 1)) (w.alloc ez) z')) := fun z' hz' => by
    have := hm.2 _ p z' hk0 (h.up (alB w ez)) hz'
    rwa [World.size_alloc] at this
  have HV : Hid (KP P w (w.alloc ez) ∧ (w.alloc ez).heap[w.heap.size]? = some ez) := ⟨hk0, hr0⟩
  clear hm hk0 hr0 h hsg
  rcases bnd_some hz with ⟨x, hx, rfl⟩ | ⟨x, q, hx, hq⟩
  · have HC1 := HC.out _ hx
    clear HC
    go_enter Tryz.func106, Tryz.ntmps106
    go_wp2_with fail
    refine HC1.mono ?_
    rintro e w1 hpo
    obtain ⟨rfl, hk⟩ := bad_panic hpo HV.out.1
    exact ⟨rfl, rfl, hk⟩
  · have HC1 := HC.out _ hx
    clear HC
    go_enter Tryz.func106, Tryz.ntmps106
    go_wp2_with fail
    refine HC1.mono ?_
    rintro e w1 ⟨v, rfl, ⟨c, rfl, hx1⟩, hp1, hk1⟩
    have hr1 : w1.heap[w.heap.size]? = some ez := (hk1.blk _ (Array.getElem?_eq_some_iff.1 HV.out.2).1 (by omega)).trans HV.out.2
    have hs1 : w.heap.size < w1.heap.size := (Array.getElem?_eq_some_iff.1 hr1).1
    have hkw := HV.out.1.trans hk1
    obtain ⟨t1, r1, x1, g1⟩ := var5 hx1
    obtain ⟨-, i1, o1, -, j1⟩ := fin5 hr1 rfl hx1
    have HF : Hid ((w1.alloc ez).there w1.heap.size 0 c.toArray.size ∧ (Tryz.prog.info? 41).map (·.size) = some c.toArray.size ∧ c.toArray.all (·.oneCell') = true) := ⟨t1, i1, o1⟩
    have HJ : Hid (JoI P T w.heap.size w1.heap.size w m l z ((w1.alloc ez).setCells w1.heap.size 0 c)) := ⟨x, q, _, c, hq, hp1.keep (g1 P (by omega)) (g1 T (by omega)), (hkw.trans (KP.of_below (alB w1 ez))).sets (by omega) c, EV.new hx1.len, x1.mono (fun g hg _ => ⟨hg.1, by omega⟩), (g1 _ hs1).trans hr1⟩
    clear t1 r1 x1 g1 i1 o1 j1 hkw hr1 hk1 hp1 hx1 HC1 HV hq hx hz
    go_wp2_with (first
      | (refine wpList_store_mid rfl 41 (Operand.tmp 7) (Operand.tmp 9) rfl w1.heap.size 0 c.toArray rfl rfl HF.out.1 HF.out.2.1 HF.out.2.2 ?_)
      | fail)
    simp only [Act.put]
    go_loopw [] (fun wr => Hid (JoI P T w.heap.size w1.heap.size w m l z wr)) (fun wr => tkLen P wr)
    case atStart => exact HJ
    case round =>
      obtain ⟨e, p', f, c', hj, hps, hk, hev, hxe, hrr⟩ := hrel.out
      clear hrel HJ HF
      cases f with
      | zero => cases hj
      | succ f =>
      have HS := seesSign_any hps (HSG.out.keep hk)
      unfold jnL at hj
      cases hb : p'.sees l with
      | false =>
        rw [hb] at hj HS
        cases hj
        go_wp2_with fail
        refine HS.mono ?_
        rintro e2 w2 ⟨rfl, hb2⟩
        have hxe2 : ExA w2 (fun g => w.heap.size + 1 ≤ g ∧ g ≠ w1.heap.size) e c' := hxe.keep (fun g _ hg => hb2.block g hg) (fun g hg _ => hg)
        have hev2 := hev.keep (hb2.block _ hev.lt)
        have hrr2 := (hb2.block _ (Array.getElem?_eq_some_iff.1 hrr).1).trans hrr
        obtain ⟨t2, i2, o2, l2, j2⟩ := fin5 hrr2 rfl hxe2
        have HE : Hid (PoA P T (VE w.heap.size) w (.ok (e, p')) (.returned (.agg c'.toArray)) (w2.setCells w.heap.size 0 c')) := poE_fin2 (Nat.le_refl _) hxe2 (fun g hg => ⟨by omega, by omega⟩) (hps.up hb2) (hk.trans (KP.of_below hb2)) hPl hTl
        have HF : Hid (w2.rangeAt w1.heap.size 0 c' ∧ (Tryz.prog.info? 41).map (·.size) = some c'.length ∧ w2.there w.heap.size 0 c'.toArray.size ∧ (Tryz.prog.info? 41).map (·.size) = some c'.toArray.size ∧ c'.toArray.all (·.oneCell') = true ∧ (loadVar 41 ⟨w.heap.size, 0, none⟩).run Tryz.prog (w2.setCells w.heap.size 0 c') = .ok (.agg c'.toArray) (w2.setCells w.heap.size 0 c')) := ⟨hev2.2, j2, t2, i2, o2, l2⟩
        clear hxe2 hev2 hrr2 t2 i2 o2 l2 j2 hb2 HS hxe hev hrr hps hk
        go_wp2_with (first
          | (refine wpList_load_mid rfl 41 (Operand.tmp 7) rfl w1.heap.size 0 rfl c' _ HF.out.1 Tryz.underlying41 rfl HF.out.2.1 ?_)
          | (refine wpList_store_mid rfl 41 (Operand.tmp 6) (Operand.tmp 17) rfl w.heap.size 0 c'.toArray rfl rfl HF.out.2.2.1 HF.out.2.2.2.1 HF.out.2.2.2.2.1 ?_)
          | fail)
        refine bodyPost_ret (v := .agg c'.toArray) (res_one Tryz.results106 _ _ rfl HF.out.2.2.2.2.2) rfl HE.out
      | true =>
        rw [hb] at hj HS
        replace hj : (bnd (m p'.adv) fun x q => iff (less q p') (jnL m l f ⟨14, 0, p'.nx.text, [e, x], []⟩ q)) = some z := hj
        go_wp2_with fail
        refine HS.mono ?_
        rintro e2 w2 ⟨rfl, hb2⟩
        have hxe2 : ExA w2 (fun g => w.heap.size + 1 ≤ g ∧ g ≠ w1.heap.size) e c' := hxe.keep (fun g _ hg => hb2.block g hg) (fun g hg _ => hg)
        have hev2 := hev.keep (hb2.block _ hev.lt)
        have hrr2 := (hb2.block _ (Array.getElem?_eq_some_iff.1 hrr).1).trans hrr
        have hk2 := hk.trans (KP.of_below (P := P) hb2)
        have hps2 := hps.up hb2
        have htk := hps.tk
        obtain ⟨-, -, -, -, j2⟩ := fin5 hrr2 rfl hxe2
        rcases bnd_some hj with ⟨y, hy, rfl⟩ | ⟨y, q2, hy, hq2⟩
        · have HP := pair_any hps2 (HM.out.keep hk2) hb hxe2 (fun g hg => by omega) (z := .error y) (by rw [hy]; rfl)
          have HF : Hid (w2.rangeAt w1.heap.size 0 c' ∧ (Tryz.prog.info? 41).map (·.size) = some c'.length) := ⟨hev2.2, j2⟩
          clear hxe2 hev2 hrr2 j2 hb2 HS hxe hev hrr hps hk hj hps2 hy
          go_wp2_with (first
            | (refine wpList_load_mid rfl 41 (Operand.tmp 7) rfl w1.heap.size 0 rfl c' _ HF.out.1 Tryz.underlying41 rfl HF.out.2 ?_)
            | fail)
          refine HP.mono ?_
          rintro e3 w3 hpo
          obtain ⟨rfl, hk3⟩ := bad_panic hpo hk2
          exact ⟨rfl, rfl, hk3⟩
        · obtain ⟨hle, hj2⟩ := iff_some hq2
          have hle2 : q2.toks.length < p'.toks.length := of_decide_eq_true hle
          have HP := pair_any hps2 (HM.out.keep hk2) hb hxe2 (fun g hg => by omega) (z := .ok (_, q2)) (by rw [hy]; rfl)
          have HF : Hid (w2.rangeAt w1.heap.size 0 c' ∧ (Tryz.prog.info? 41).map (·.size) = some c'.length) := ⟨hev2.2, j2⟩
          have HH : Hid (EV w2 w1.heap.size c' ∧ w2.heap[w.heap.size]? = some ez ∧ w1.heap.size < w2.heap.size) := ⟨hev2, hrr2, hev2.lt⟩
          clear hxe2 hev2 hrr2 j2 hb2 HS hxe hev hrr hps hk hj hps2 hy hq2 hle
          go_wp2_with (first
            | (refine wpList_load_mid rfl 41 (Operand.tmp 7) rfl w1.heap.size 0 rfl c' _ HF.out.1 Tryz.underlying41 rfl HF.out.2 ?_)
            | fail)
          refine HP.mono ?_
          rintro e3 w3 ⟨v3, rfl, ⟨c3, rfl, hx3⟩, hp3, hk3⟩
          have hr3 := (hk3.blk _ (Array.getElem?_eq_some_iff.1 HH.out.2.1).1 (by omega)).trans HH.out.2.1
          have hl3 : EV w3 w1.heap.size c' := HH.out.1.keep (hk3.blk _ HH.out.2.2 (by omega))
          obtain ⟨-, i3, o3, -, j3⟩ := fin5 hr3 rfl hx3
          have HG : Hid (w3.there w1.heap.size 0 c3.toArray.size ∧ (Tryz.prog.info? 41).map (·.size) = some c3.toArray.size ∧ c3.toArray.all (·.oneCell') = true) := ⟨hl3.there hx3.len, i3, o3⟩
          have hK3 : KP P w (w3.setCells w1.heap.size 0 c3) := (hk2.trans hk3).sets (by omega) _
          have hP3 : PsA P T (w3.setCells w1.heap.size 0 c3) q2 := hp3.sets (by omega) (by omega) _
          have HJ : Hid (JoI P T w.heap.size w1.heap.size w m l z (w3.setCells w1.heap.size 0 c3)) := ⟨_, q2, f, c3, hj2, hP3, hK3, hl3.put hx3.len, hx3.keep (fun g hg _ => heap_sets _ c3 0 w3 g (by rcases hg with hg | hg; (· exact hg.2); (· have := HH.out.2.2; omega))) (fun g hg _ => by rcases hg with hg | hg; (· exact hg); (· have := HH.out.2.2; omega)), (heap_sets _ c3 0 w3 _ (by omega)).trans hr3⟩
          have htk3 := hP3.tk
          clear hr3 hl3 i3 o3 j3 hK3 hP3 hx3 hp3 hk3 HP HH HF
          go_wp2_with (first
            | (refine wpList_store_mid rfl 41 (Operand.tmp 7) (Operand.tmp 16) rfl w1.heap.size 0 c3.toArray rfl rfl HG.out.1 HG.out.2.1 HG.out.2.2 ?_)
            | fail)
          refine ⟨⟨_, _, _, _, _, _, _, HJ, rfl⟩, ?_⟩
          show tkLen P _ < tkLen P _
          rw [htk3, htk]
          exact hle2
end Go.Proofs.YtheiijnpggabkaaGreatDoor
