/- The splitter adds a token; takes bytes. -/
import Derived.Deep.MidRow
import Derived.Test.YtcaeeackccgclaaGreatDoorTb1
namespace Go.Proofs.YtcaeeackccgclaaGreatDoor
open Go.RowKit Go.Shelf

theorem heap_al (w : World) (o : Obj) (g : Nat) (hg : g < w.heap.size) : (w.alloc o).heap[g]? = w.heap[g]? := ((Below.refl w.heap.size w).alloc (Nat.le_refl _) o).block g hg

set_option maxHeartbeats 4000000 in
set_option maxRecDepth 100000 in
theorem add_any {B P : Nat} {L : List UInt8} {tv iv : Value} {w : World} {p : Sp} (h : TS B P L tv iv w p) (k : Nat) (hk : p.toks.length ≤ 100000) :
    Calls Tryz.prog 66 #[.pointer (some ⟨P, 0, none⟩), .int .i64 k] w fun e w' => e = .returned (.tuple #[]) ∧ ∃ tv', TS B P L tv' iv w' (p.add k) ∧ Below B w w' := by
  obtain ⟨i0, hi, hz0, hz1, hz2⟩ := info_p infT
  have H : Hid (TS B P L tv iv w p) := h
  have c1 := h.c1
  have c2 := h.c2
  have hPl := h.lt
  have hBl : B ≤ w.heap.size := by have := h.hB; omega
  have hadd : p.add k = { p with toks := p.toks ++ [⟨k, [], 0, p.pos⟩] } := rfl
  rw [hadd]
  have HNW : Hid (∀ (j : Nat) (u : Value), (tc ⟨k, [], 0, p.pos⟩)[j]? = some u → ((w.alloc (.cells #[.int .i64 k, .string ⟨#[]⟩, .int .i64 0, .int .i64 p.pos] 84)).drew).cell? ((⟨w.heap.size, 0, none⟩ : Addr).add j) = some u) := new_tok w ⟨k, [], 0, p.pos⟩
  have hone := tc_one ⟨k, [], 0, p.pos⟩
  have hnl : (tc ⟨k, [], 0, p.pos⟩).length = 1 * 4 := rfl
  have q1 : p.toks.length + 1 ≤ maxLen := by unfold maxLen; omega
  have q2 : (p.toks.length + 1) * 40 ≤ 140737488355328 := by omega
  have HOW : Hid (((w.alloc (.cells #[.int .i64 k, .string ⟨#[]⟩, .int .i64 0, .int .i64 p.pos] 84)).drew).ownsRow B 84 4 tv p.toks.length (tcs p.toks)) := h.ot.alloc _
  have q3 : B ≤ ((w.alloc (.cells #[.int .i64 k, .string ⟨#[]⟩, .int .i64 0, .int .i64 p.pos] 84)).drew).heap.size := by show B ≤ (w.alloc _).heap.size; rw [World.size_alloc]; omega
  have q4 : ((w.alloc (.cells #[.int .i64 k, .string ⟨#[]⟩, .int .i64 0, .int .i64 p.pos] 84)).drew).heap.size = w.heap.size + 1 := by show (w.alloc _).heap.size = _; rw [World.size_alloc]
  have HPUT : Hid (∀ {w1 w' : World} {g1 cap1 : Nat}, w1.ownsRow B 84 4 (.slice (some ⟨g1, 0, none⟩) (p.toks.length + 1) cap1) (p.toks.length + 1) (tcs p.toks ++ tc ⟨k, [], 0, p.pos⟩) → ((w.alloc (.cells #[.int .i64 k, .string ⟨#[]⟩, .int .i64 0, .int .i64 p.pos] 84)).drew).grownBy w1 tv.ownBlock → (tv.ownBlock = some g1 ∨ g1 = w.heap.size + 1) → (∀ g : Nat, w'.heap[g]? = (w1.setCell ⟨P, 2, none⟩ (.slice (some ⟨g1, 0, none⟩) (p.toks.length + 1) cap1)).heap[g]?) → TS B P L (.slice (some ⟨g1, 0, none⟩) (p.toks.length + 1) cap1) iv w' { p with toks := p.toks ++ [⟨k, [], 0, p.pos⟩] }) := by
    intro w1 w' g1 cap1 a1 a2 a3 a4
    exact H.out.put ⟨k, [], 0, p.pos⟩ (W := (w.alloc _).drew) (fun g hg => heap_al w _ g hg) (by rw [q4]; omega) a1 a2 (by rw [q4]; exact a3) a4
  have HP1 : Hid (∀ {w1 : World}, ((w.alloc (.cells #[.int .i64 k, .string ⟨#[]⟩, .int .i64 0, .int .i64 p.pos] 84)).drew).grownBy w1 tv.ownBlock → w1.cell? ⟨P, 2, none⟩ = some tv ∧ w1.frozen? ⟨P, 2, none⟩ = false ∧ Below B w w1) := by
    intro w1 hg
    have e1 : w1.heap[P]? = w.heap[P]? := (hg.block P (by rw [q4]; omega) (fun e => H.out.nt e.symm)).trans (heap_al w _ P hPl)
    exact ⟨by rw [Lib.cell_of_heap (e1.trans H.out.blk)]; rfl, Lib.frozen_of_heap (e1.trans H.out.blk) 2, (((Below.refl B w).alloc hBl _).drew).grown hg q3 (fun j hj => (H.out.ot.lt j hj).1)⟩
  generalize tc ⟨k, [], 0, p.pos⟩ = news at *
  generalize tcs p.toks = ts at *
  generalize p.pos = x at *
  generalize p.toks.length = n at *
  clear h hadd hk
  go_enter Tryz.func66, Tryz.ntmps66
  go_wp2
  go_region_law (first
      | ((refine step_append_lies ((w.alloc (.cells #[.int .i64 k, .string ⟨#[]⟩, .int .i64 0, .int .i64 x] 84)).drew) (by rfl) (Operand.tmp 8) (Operand.tmp 15) 48 (by rfl) B 84 i0 (.agg #[.int .i64 0, .string ⟨#[]⟩, .int .i64 0, .int .i64 0]) 4 40 Tryz.underlying48 hi hz0 hz1 hz2 rfl (by decide) tv n ts (by rfl) HOW.out ⟨w.heap.size, 0, none⟩ 1 1 news (by rfl) hnl HNW.out hone (by decide) q1 q2 q3 (w.heap.size + 1) q4 ?_; intro g' cap' w1 hown1 hgrow hat hltg; obtain ⟨d2, f2, hb1⟩ := HP1.out hgrow))
      | fail)
  all_goals
    have HF : Hid (w1.ownsRow B 84 4 (.slice (some ⟨g', 0, none⟩) (n + 1) cap') (n + 1) (ts ++ news) ∧ ((w.alloc (.cells #[.int .i64 k, .string ⟨#[]⟩, .int .i64 0, .int .i64 x] 84)).drew).grownBy w1 tv.ownBlock ∧ (tv.ownBlock = some g' ∨ g' = w.heap.size + 1) ∧ Below B w w1) := ⟨hown1, hgrow, hat, hb1⟩
    clear hown1 hgrow hat hb1 hltg
    go_wp2
    go_end0
    exact ⟨rfl, _, HPUT.out HF.out.1 HF.out.2.1 HF.out.2.2.1 (fun g => rfl), HF.out.2.2.2.setCell (p := ⟨P, 2, none⟩) H.out.hB _⟩

/-- Nothing but answers of the tape has gone. -/
def Dr (w W : World) : Prop := ∃ n, W = w.drewN n
theorem Dr.refl (w : World) : Dr w w := ⟨0, rfl⟩
theorem Dr.drewN {w W : World} (h : Dr w W) (m : Nat) : Dr w (W.drewN m) := by
  obtain ⟨n, rfl⟩ := h
  exact ⟨n + m, by rw [World.drewN_drewN]⟩
theorem Dr.drew {w W : World} (h : Dr w W) : Dr w W.drew := h.drewN 1
theorem Dr.trans {w W V : World} (h : Dr w W) (h' : Dr W V) : Dr w V := by
  obtain ⟨m, rfl⟩ := h'
  exact h.drewN m

set_option maxHeartbeats 4000000 in
set_option maxRecDepth 100000 in
theorem take_any {B P : Nat} {L : List UInt8} {tv iv : Value} {w : World} {p : Sp} (h : TS B P L tv iv w p) (hL : L.length ≤ 6000) (hp : p.pos ≤ L.length) (F : Nat) (hh : UInt8 → Bool) (hF : ∀ W, Dr w W → Says F #[] W hh) :
    Calls Tryz.prog 88 #[.pointer (some ⟨P, 0, none⟩), .func (.func F) #[] #[]] w fun e w' => e = .returned (.string (mkB ((L.drop p.pos).take (rch hh (L.drop p.pos))))) ∧ TS B P L tv iv w' { p with pos := p.pos + rch hh (L.drop p.pos) } ∧ Below B w w' ∧ ∀ g : Nat, g ≠ P → w'.heap[g]? = w.heap[g]? := by
  have H : Hid (TS B P L tv iv w p) := h
  have HRe : Hid (∀ W, Dr w W → Calls Tryz.prog 92 #[.pointer (some ⟨P, 0, none⟩)] W fun e w' => e = .returned (.string (mkB (L.drop p.pos))) ∧ Dr w w') := fun W hW => by
    obtain ⟨n, rfl⟩ := hW
    refine (rest_any (h.drewN n) hp).mono ?_
    rintro e w' ⟨he, m, rfl⟩
    exact ⟨he, Dr.drewN ⟨n, rfl⟩ m⟩
  have HRc : Hid (∀ W, Dr w W → Calls Tryz.prog 116 #[.string (mkB (L.drop p.pos)), .func (.func F) #[] #[]] W fun e w' => e = .returned (.int .i64 (rch hh (L.drop p.pos))) ∧ w' = W) := fun W hW => by
    have := reach_any F hh (mkB (L.drop p.pos)) W (by rw [mk_size, List.length_drop]; omega) (hF W hW)
    rwa [mk_data] at this
  have c0 := h.c0
  have c1 := h.c1
  have f1 := h.fz 1
  have hsz := mk_size L
  have hle := rch_le hh (L.drop p.pos)
  rw [List.length_drop] at hle
  have HSP : Hid (∀ w' : World, (∀ g : Nat, w'.heap[g]? = (w.setCell ⟨P, 1, none⟩ (.int .i64 ((p.pos + rch hh (L.drop p.pos) : Nat) : Int))).heap[g]?) → TS B P L tv iv w' { p with pos := p.pos + rch hh (L.drop p.pos) }) := fun w' hw => h.setPos _ hw
  have hsl := sl_mid L p.pos (p.pos + rch hh (L.drop p.pos)) _ _ rfl rfl (by omega) (by omega)
  rw [Nat.add_sub_cancel_left] at hsl
  generalize mkB ((L.drop p.pos).take (rch hh (L.drop p.pos))) = out at *
  generalize mkB (L.drop p.pos) = rs at *
  generalize rch hh (L.drop p.pos) = k at *
  have hpi : (p.pos : Int) ≤ 6000 := by omega
  have hki : (k : Int) ≤ 6000 := by omega
  have hs1 : (p.pos : Int) + (k : Int) = ((p.pos + k : Nat) : Int) := by omega
  have hs2 : ((p.pos + k : Nat) : Int) ≤ (L.length : Int) := by omega
  have hs3 : (p.pos : Int) ≤ ((p.pos + k : Nat) : Int) := by omega
  obtain ⟨y, hy⟩ : ∃ y, y = p.pos + k := ⟨_, rfl⟩
  rw [← hy] at hsl hs1 hs2 hs3 HSP
  rw [← hy]
  have hw1 : IntKind.i64.wrap (y : Int) = (y : Int) := by rw [IntKind.wrap_i64]; omega
  generalize hx : p.pos = x at *
  clear h hF hle hy
  go_enter Tryz.func88, Tryz.ntmps88
  go_wp2
  go_region_with (first
    | (go_at_call 92; refine (HRe.out _ (Dr.drew (Dr.refl _))).mono ?_; rintro e w1 ⟨rfl, n1, rfl⟩)
    | (go_at_call 116; refine (HRc.out _ ⟨_, rfl⟩).mono ?_; rintro e w' ⟨rfl, rfl⟩)
    | fail)
  all_goals
    have HT : Hid (TS B P L tv iv ((w.drewN n1).setCell ⟨P, 1, none⟩ (.int .i64 (y : Int))) { p with pos := y }) := HSP.out _ (fun g => rfl)
    have HKP : Hid (∀ g : Nat, g ≠ P → ((w.drewN n1).setCell ⟨P, 1, none⟩ (.int .i64 (y : Int))).heap[g]? = w.heap[g]?) := fun g hg => Below.heap_setCell (w.drewN n1) ⟨P, 1, none⟩ _ g hg
    have HBL : Hid (Below B w ((w.drewN n1).setCell ⟨P, 1, none⟩ (.int .i64 (y : Int)))) := (below_drewN (Below.refl B w) n1).setCell (p := ⟨P, 1, none⟩) H.out.hB _
    have d0 := HT.out.c0
    have d1 := HT.out.c1
    generalize (w.drewN n1).setCell ⟨P, 1, none⟩ (.int .i64 (y : Int)) = w2 at *
    go_wp2
    go_quiet (fail)
    go_wp2
    go_ret
    exact ⟨rfl, HT.out.drewN nq, below_drewN HBL.out nq, HKP.out⟩

set_option maxHeartbeats 4000000 in
set_option maxRecDepth 100000 in
theorem take_cap {B P : Nat} {L : List UInt8} {tv iv : Value} {w : World} {p : Sp} (h : TS B P L tv iv w p) (hL : L.length ≤ 6000) (hp : p.pos ≤ L.length) (F : Nat) (u : Value) (hh : UInt8 → Bool) (hF : ∀ W, Dr w W → Says F #[u] W hh) :
    Calls Tryz.prog 88 #[.pointer (some ⟨P, 0, none⟩), .func (.func F) #[] #[u]] w fun e w' => e = .returned (.string (mkB ((L.drop p.pos).take (rch hh (L.drop p.pos))))) ∧ TS B P L tv iv w' { p with pos := p.pos + rch hh (L.drop p.pos) } ∧ Below B w w' ∧ ∀ g : Nat, g ≠ P → w'.heap[g]? = w.heap[g]? := by
  have H : Hid (TS B P L tv iv w p) := h
  have HRe : Hid (∀ W, Dr w W → Calls Tryz.prog 92 #[.pointer (some ⟨P, 0, none⟩)] W fun e w' => e = .returned (.string (mkB (L.drop p.pos))) ∧ Dr w w') := fun W hW => by
    obtain ⟨n, rfl⟩ := hW
    refine (rest_any (h.drewN n) hp).mono ?_
    rintro e w' ⟨he, m, rfl⟩
    exact ⟨he, Dr.drewN ⟨n, rfl⟩ m⟩
  have HRc : Hid (∀ W, Dr w W → Calls Tryz.prog 116 #[.string (mkB (L.drop p.pos)), .func (.func F) #[] #[u]] W fun e w' => e = .returned (.int .i64 (rch hh (L.drop p.pos))) ∧ w' = W) := fun W hW => by
    have := reach_cap F u hh (mkB (L.drop p.pos)) W (by rw [mk_size, List.length_drop]; omega) (hF W hW)
    rwa [mk_data] at this
  have c0 := h.c0
  have c1 := h.c1
  have f1 := h.fz 1
  have hsz := mk_size L
  have hle := rch_le hh (L.drop p.pos)
  rw [List.length_drop] at hle
  have HSP : Hid (∀ w' : World, (∀ g : Nat, w'.heap[g]? = (w.setCell ⟨P, 1, none⟩ (.int .i64 ((p.pos + rch hh (L.drop p.pos) : Nat) : Int))).heap[g]?) → TS B P L tv iv w' { p with pos := p.pos + rch hh (L.drop p.pos) }) := fun w' hw => h.setPos _ hw
  have hsl := sl_mid L p.pos (p.pos + rch hh (L.drop p.pos)) _ _ rfl rfl (by omega) (by omega)
  rw [Nat.add_sub_cancel_left] at hsl
  generalize mkB ((L.drop p.pos).take (rch hh (L.drop p.pos))) = out at *
  generalize mkB (L.drop p.pos) = rs at *
  generalize rch hh (L.drop p.pos) = k at *
  have hpi : (p.pos : Int) ≤ 6000 := by omega
  have hki : (k : Int) ≤ 6000 := by omega
  have hs1 : (p.pos : Int) + (k : Int) = ((p.pos + k : Nat) : Int) := by omega
  have hs2 : ((p.pos + k : Nat) : Int) ≤ (L.length : Int) := by omega
  have hs3 : (p.pos : Int) ≤ ((p.pos + k : Nat) : Int) := by omega
  obtain ⟨y, hy⟩ : ∃ y, y = p.pos + k := ⟨_, rfl⟩
  rw [← hy] at hsl hs1 hs2 hs3 HSP
  rw [← hy]
  have hw1 : IntKind.i64.wrap (y : Int) = (y : Int) := by rw [IntKind.wrap_i64]; omega
  generalize hx : p.pos = x at *
  clear h hF hle hy
  go_enter Tryz.func88, Tryz.ntmps88
  go_wp2
  go_region_with (first
    | (go_at_call 92; refine (HRe.out _ (Dr.drew (Dr.refl _))).mono ?_; rintro e w1 ⟨rfl, n1, rfl⟩)
    | (go_at_call 116; refine (HRc.out _ ⟨_, rfl⟩).mono ?_; rintro e w' ⟨rfl, rfl⟩)
    | fail)
  all_goals
    have HT : Hid (TS B P L tv iv ((w.drewN n1).setCell ⟨P, 1, none⟩ (.int .i64 (y : Int))) { p with pos := y }) := HSP.out _ (fun g => rfl)
    have HKP : Hid (∀ g : Nat, g ≠ P → ((w.drewN n1).setCell ⟨P, 1, none⟩ (.int .i64 (y : Int))).heap[g]? = w.heap[g]?) := fun g hg => Below.heap_setCell (w.drewN n1) ⟨P, 1, none⟩ _ g hg
    have HBL : Hid (Below B w ((w.drewN n1).setCell ⟨P, 1, none⟩ (.int .i64 (y : Int)))) := (below_drewN (Below.refl B w) n1).setCell (p := ⟨P, 1, none⟩) H.out.hB _
    have d0 := HT.out.c0
    have d1 := HT.out.c1
    generalize (w.drewN n1).setCell ⟨P, 1, none⟩ (.int .i64 (y : Int)) = w2 at *
    go_wp2
    go_quiet (fail)
    go_wp2
    go_ret
    exact ⟨rfl, HT.out.drewN nq, below_drewN HBL.out nq, HKP.out⟩
end Go.Proofs.YtcaeeackccgclaaGreatDoor

/- Expressions and the parser in memory. -/
namespace Go.Proofs.YtcaeeackccgclaaGreatDoor
open Go.RowKit Go.Shelf

def Fa {α β : Type} (R : α → β → Prop) : List α → List β → Prop
  | [], [] => True
  | a :: l, b :: m => R a b ∧ Fa R l m
  | [], _ :: _ => False
  | _ :: _, [] => False
theorem Fa.mono {α β : Type} {R Q : α → β → Prop} (h : ∀ a b, R a b → Q a b) : ∀ {l : List α} {m : List β}, Fa R l m → Fa Q l m
  | [], [], _ => trivial
  | _ :: _, _ :: _, f => ⟨h _ _ f.1, Fa.mono h f.2⟩
theorem Fa.len {α β : Type} {R : α → β → Prop} : ∀ {l : List α} {m : List β}, Fa R l m → l.length = m.length
  | [], [], _ => rfl
  | _ :: _, _ :: _, f => by simp [Fa.len f.2]
theorem Fa.snoc {α β : Type} {R : α → β → Prop} {a : α} {b : β} (h : R a b) : ∀ {l : List α} {m : List β}, Fa R l m → Fa R (l ++ [a]) (m ++ [b])
  | [], [], _ => ⟨h, trivial⟩
  | _ :: _, _ :: _, f => ⟨f.1, Fa.snoc h f.2⟩
theorem Fa.get {α β : Type} {R : α → β → Prop} : ∀ {l : List α} {m : List β} (_ : Fa R l m) (i : Nat) (hi : i < l.length) (hj : i < m.length), R l[i] m[i]
  | _ :: _, _ :: _, f, 0, _, _ => f.1
  | _ :: _, _ :: _, f, i + 1, hi, hj => Fa.get f.2 i (Nat.lt_of_succ_lt_succ hi) (Nat.lt_of_succ_lt_succ hj)
theorem Fa.with_len {α β : Type} {R : α → List β → Prop} {k : Nat} (h : ∀ a b, R a b → b.length = k) : ∀ {l : List α} {m : List (List β)}, Fa R l m → m.flatten.length = l.length * k
  | [], [], _ => by simp
  | a :: l, b :: m, f => by simp [h _ _ f.1, Fa.with_len h f.2, Nat.add_mul]; omega

def sv (x : List UInt8) : Value := .string (mkB x)
/-- An expression's five cells; rows in blocks of S. -/
def ExV (w : World) (S : Nat → Prop) : Nat → Ex → List Value → Prop
  | 0, _, _ => False
  | n + 1, x, c => ∃ kv nv vs, c = [.int .i64 x.kind, .int .i64 x.num, sv x.text, kv, nv] ∧ w.ownsRow 0 38 5 kv x.kids.length vs.flatten ∧ w.ownsRow 0 9 1 nv x.names.length (x.names.map sv) ∧ (∀ g, kv.ownBlock = some g → S g) ∧ (∀ g, nv.ownBlock = some g → S g) ∧ Fa (ExV w S n) x.kids vs
theorem ExV.len {w : World} {S : Nat → Prop} : ∀ {n : Nat} {x : Ex} {c : List Value}, ExV w S n x c → c.length = 5
  | _ + 1, _, _, ⟨_, _, _, e, _⟩ => by rw [e]; rfl
theorem ExV.keep {w w' : World} {S Q : Nat → Prop} (hk : ∀ g, S g → g < w.heap.size → w'.heap[g]? = w.heap[g]?) (hs : ∀ g, S g → g < w.heap.size → Q g) : ∀ {n : Nat} {x : Ex} {c : List Value}, ExV w S n x c → ExV w' Q n x c
  | _ + 1, _, _, ⟨kv, nv, vs, e, h1, h2, h3, h4, h5⟩ => ⟨kv, nv, vs, e, own_heap h1 fun g hg => hk g (h3 g hg) (h1.lt g hg).2, own_heap h2 fun g hg => hk g (h4 g hg) (h2.lt g hg).2, fun g hg => hs g (h3 g hg) (h1.lt g hg).2, fun g hg => hs g (h4 g hg) (h2.lt g hg).2, h5.mono fun _ _ f => ExV.keep hk hs f⟩
theorem ExV.up {w : World} {S : Nat → Prop} : ∀ {n : Nat} {x : Ex} {c : List Value}, ExV w S n x c → ExV w S (n + 1) x c
  | _ + 1, _, _, ⟨kv, nv, vs, e, h1, h2, h3, h4, h5⟩ => ⟨kv, nv, vs, e, h1, h2, h3, h4, h5.mono fun _ _ f => ExV.up f⟩
theorem ExV.le {w : World} {S : Nat → Prop} {n : Nat} {x : Ex} {c : List Value} (h : ExV w S n x c) : ∀ m, n ≤ m → ExV w S m x c
  | m, hm => by
    induction m with
    | zero => obtain rfl : n = 0 := by omega
              exact h
    | succ m ih =>
      rcases Nat.lt_or_ge m n with hl | hl
      · obtain rfl : n = m + 1 := by omega
        exact h
      · exact (ih hl).up
def ExA (w : World) (S : Nat → Prop) (x : Ex) (c : List Value) : Prop := ∃ n, ExV w S n x c
section
variable {w w' : World} {S Q : Nat → Prop} {x : Ex} {c : List Value}
theorem ExA.len (h : ExA w S x c) : c.length = 5 := h.choose_spec.len
theorem ExA.keep (h : ExA w S x c) (hk : ∀ g, S g → g < w.heap.size → w'.heap[g]? = w.heap[g]?) (hs : ∀ g, S g → g < w.heap.size → Q g) : ExA w' Q x c := ⟨h.choose, h.choose_spec.keep hk hs⟩
theorem ExA.mono (h : ExA w S x c) (hs : ∀ g, S g → g < w.heap.size → Q g) : ExA w Q x c := h.keep (fun _ _ _ => rfl) hs
theorem fa_all : ∀ {l : List Ex} {vs : List (List Value)}, Fa (ExA w S) l vs → ∃ n, Fa (ExV w S n) l vs
  | [], [], _ => ⟨0, trivial⟩
  | a :: l, b :: m, f => by
    obtain ⟨n1, h1⟩ := f.1
    obtain ⟨n2, h2⟩ := fa_all f.2
    exact ⟨max n1 n2, h1.le _ (Nat.le_max_left _ _), h2.mono fun _ _ h => h.le _ (Nat.le_max_right _ _)⟩
theorem ExA.make {kv nv : Value} {vs : List (List Value)} (h1 : w.ownsRow 0 38 5 kv x.kids.length vs.flatten) (h2 : w.ownsRow 0 9 1 nv x.names.length (x.names.map sv)) (h3 : ∀ g, kv.ownBlock = some g → S g) (h4 : ∀ g, nv.ownBlock = some g → S g) (h5 : Fa (ExA w S) x.kids vs) :
    ExA w S x [.int .i64 x.kind, .int .i64 x.num, sv x.text, kv, nv] := by
  obtain ⟨n, h6⟩ := fa_all h5
  exact ⟨n + 1, kv, nv, vs, rfl, h1, h2, h3, h4, h6⟩
theorem ExA.open (h : ExA w S x c) : ∃ kv nv vs, c = [.int .i64 x.kind, .int .i64 x.num, sv x.text, kv, nv] ∧ w.ownsRow 0 38 5 kv x.kids.length vs.flatten ∧ w.ownsRow 0 9 1 nv x.names.length (x.names.map sv) ∧ (∀ g, kv.ownBlock = some g → S g) ∧ (∀ g, nv.ownBlock = some g → S g) ∧ Fa (ExA w S) x.kids vs := by
  obtain ⟨n, hn⟩ := h
  match n, hn with
  | n + 1, ⟨kv, nv, vs, e, h1, h2, h3, h4, h5⟩ => exact ⟨kv, nv, vs, e, h1, h2, h3, h4, h5.mono fun _ _ f => ⟨n, f⟩⟩
theorem ExA.leaf (k n : Nat) (t : List UInt8) : ExA w S ⟨k, n, t, [], []⟩ [.int .i64 k, .int .i64 n, sv t, .slice none 0 0, .slice none 0 0] :=
  ExA.make (x := ⟨k, n, t, [], []⟩) (vs := []) (World.ownsRow_nil _ _ _ _) (World.ownsRow_nil _ _ _ _) (fun g h => by cases h) (fun g h => by cases h) trivial
end

/-- All blocks but P's stay. -/
structure KP (P : Nat) (w w' : World) : Prop where
  os : w'.os = w.os
  tape : w'.tape = w.tape
  output : w'.output = w.output
  size : w.heap.size ≤ w'.heap.size
  blk : ∀ g, g < w.heap.size → g ≠ P → w'.heap[g]? = w.heap[g]?
section
variable {P : Nat} {a b c : World}
theorem KP.refl (P : Nat) (w : World) : KP P w w := ⟨rfl, rfl, rfl, Nat.le_refl _, fun _ _ _ => rfl⟩
theorem KP.trans (h : KP P a b) (k : KP P b c) : KP P a c := ⟨k.os.trans h.os, k.tape.trans h.tape, k.output.trans h.output, Nat.le_trans h.size k.size, fun g hg hp => (k.blk g (Nat.lt_of_lt_of_le hg h.size) hp).trans (h.blk g hg hp)⟩
theorem KP.of_below (h : Below a.heap.size a b) : KP P a b := ⟨h.os, h.tape, h.output, h.size, fun g hg _ => h.block g hg⟩
theorem KP.below (h : KP P a b) {B : Nat} (hB : B ≤ P) (hl : B ≤ a.heap.size) : Below B a b := ⟨h.os, h.tape, h.output, h.size, fun g hg => h.blk g (by omega) (by omega)⟩
theorem KP.drewN (h : KP P a b) (n : Nat) : KP P a (b.drewN n) := ⟨h.os, h.tape, h.output, h.size, h.blk⟩
theorem KP.drew (h : KP P a b) : KP P a b.drew := ⟨h.os, h.tape, h.output, h.size, h.blk⟩
theorem KP.alloc (h : KP P a b) (o : Obj) : KP P a (b.alloc o) := by
  have := (Below.refl b.heap.size b).alloc (Nat.le_refl _) o
  exact h.trans (KP.of_below this)
theorem KP.setCell (h : KP P a b) (i : Nat) (v : Value) : KP P a (b.setCell ⟨P, i, none⟩ v) := by
  have hs : (b.setCell ⟨P, i, none⟩ v).heap.size = b.heap.size := by simp [World.setCell]
  refine h.trans ⟨rfl, rfl, rfl, by omega, fun g _ hp => Below.heap_setCell b ⟨P, i, none⟩ v g hp⟩
end

/-- The parser lies in block P, its tokens in block T. -/
def PsA (P T : Nat) (w : World) (p : Ps) : Prop := ∃ a c o, w.heap[P]? = some (.cells #[.slice a p.toks.length c, .int .i64 p.fin, .int .i64 p.blk, .bool p.inD, .int .i64 p.deep] 60 (0, 0)) ∧ p.toks.length ≤ c ∧ 0 ≤ c ∧ (0 < p.toks.length → a = some ⟨T, o, none⟩) ∧ (∀ j, j < p.toks.length * 4 → w.cell? ⟨T, o + j, none⟩ = (tcs p.toks)[j]?) ∧ T ≠ P ∧ T < w.heap.size ∧ p.deep ≤ 1000 ∧ p.blk ≤ 1000000
section
variable {P T : Nat} {w w' : World} {p : Ps}
theorem PsA.lt (h : PsA P T w p) : P < w.heap.size := by
  obtain ⟨a, c, o, h, _⟩ := h
  exact (Array.getElem?_eq_some_iff.1 h).1
theorem PsA.keep (h : PsA P T w p) (hP : w'.heap[P]? = w.heap[P]?) (hT : w'.heap[T]? = w.heap[T]?) : PsA P T w' p := by
  obtain ⟨a, c, o, h1, h2, h3, h4, h5, h6, h7, h8⟩ := h
  have hlt : T < w'.heap.size := by
    have : w.heap[T]? = some w.heap[T] := Array.getElem?_eq_getElem h7
    exact (Array.getElem?_eq_some_iff.1 (hT.trans this)).1
  refine ⟨a, c, o, hP.trans h1, h2, h3, h4, fun j hj => ?_, h6, hlt, h8⟩
  rw [← h5 j hj]
  simp [World.cell?, hT]
theorem PsA.up (h : PsA P T w p) (hb : Below w.heap.size w w') : PsA P T w' p := h.keep (hb.block _ h.lt) (hb.block _ (by obtain ⟨_, _, _, _, _, _, _, _, _, h7, _⟩ := h; exact h7))
theorem PsA.drewN (h : PsA P T w p) (n : Nat) : PsA P T (w.drewN n) p := h.keep rfl rfl
end
/-- What a call of the parser's comes to. -/
def PoA {α : Type} (P T : Nat) (V : World → α → Value → Prop) (w : World) (z : Except Ft (α × Ps)) (e : Ending) (w' : World) : Prop := match z with
  | .error (k, x) => e = PF k x ∧ KP P w w'
  | .ok (a, q) => ∃ v, e = .returned v ∧ V w' a v ∧ PsA P T w' q ∧ KP P w w'
end Go.Proofs.YtcaeeackccgclaaGreatDoor

/- Blanks, and what is left out, are skipped. -/
namespace Go.Proofs.YtcaeeackccgclaaGreatDoor
open Go.RowKit Go.Shelf

set_option maxHeartbeats 1000000 in
theorem skip1_any (c : UInt8) (Q P o : Nat) (W : World) (hq : W.cell? ⟨Q, 0, none⟩ = some (.pointer (some ⟨P, 0, none⟩))) (ho : W.cell? ⟨P, 4, none⟩ = some (.int .i64 o)) :
    Calls Tryz.prog 89 #[.int .u8 c.toNat, .pointer (some ⟨Q, 0, none⟩)] W fun e w' => e = .returned (.bool (isBl o c)) ∧ w' = W := by
  have q1 := c_eq c 32
  have q2 := c_eq c 10
  have q1' : ((c.toNat : Int) == 32) = decide (c.toNat = 32) := q1
  have q2' : ((c.toNat : Int) == 10) = decide (c.toNat = 10) := q2
  have e : isBl o c = (decide (c.toNat = 32) || (decide (c.toNat = 10) && decide (0 < o))) := rfl
  rw [e]
  generalize decide (c.toNat = 32) = b1 at *
  generalize decide (c.toNat = 10) = b2 at *
  clear q1 q2 e
  cases b1 with
  | true =>
    go_enter Tryz.func89, Tryz.ntmps89
    go_wp2
    go_ret
    exact ⟨rfl, rfl⟩
  | false =>
    cases b2 with
    | true =>
      go_enter Tryz.func89, Tryz.ntmps89
      go_wp2
      go_ret
      exact ⟨ret_b (by simp), rfl⟩
    | false =>
      go_enter Tryz.func89, Tryz.ntmps89
      go_wp2
      go_ret
      exact ⟨rfl, rfl⟩
theorem says_bl (Q P o : Nat) (W : World) (hq : W.cell? ⟨Q, 0, none⟩ = some (.pointer (some ⟨P, 0, none⟩))) (ho : W.cell? ⟨P, 4, none⟩ = some (.int .i64 o)) : Says 89 #[.pointer (some ⟨Q, 0, none⟩)] W (isBl o) :=
  ⟨enters_of Tryz.func89 (by kernel_rfl) rfl, fun c => skip1_any c Q P o W hq ho⟩

theorem skp_len (o : Nat) : ∀ (f : Nat) (r : List UInt8), skp o f r ≤ r.length := by
  intro f
  induction f with
  | zero => intro r; exact rch_le _ r
  | succ f ih =>
    intro r
    unfold skp
    have h1 := rch_le (isBl o) r
    cases decide (((r.drop (rch (isBl o) r)).getD 0 0).toNat = 35)
    · exact h1
    · have h2 := rch_le isNl (r.drop (rch (isBl o) r))
      have h3 := ih (r.drop (rch (isBl o) r + rch isNl (r.drop (rch (isBl o) r))))
      rw [List.length_drop] at h2 h3
      simp only [cond_true]
      omega
theorem nl_pos (r : List UInt8) (h : (r.getD 0 0).toNat = 35) : 0 < rch isNl r := by
  match r with
  | [] => simp at h
  | c :: r =>
    have hc : c.toNat = 35 := h
    unfold rch isNl
    rw [hc]
    simp
theorem skp_more (o : Nat) : ∀ (f g : Nat) (r : List UInt8), r.length ≤ f → r.length ≤ g → skp o f r = skp o g r := by
  intro f
  induction f with
  | zero =>
    intro g r h1 _
    have : r = [] := List.length_eq_zero_iff.1 (by omega)
    subst this
    cases g with
    | zero => rfl
    | succ g => rfl
  | succ f ih =>
    intro g r h1 h2
    cases g with
    | zero =>
      have : r = [] := List.length_eq_zero_iff.1 (by omega)
      subst this
      rfl
    | succ g =>
      unfold skp
      cases hd : decide (((r.drop (rch (isBl o) r)).getD 0 0).toNat = 35) with
      | false => rfl
      | true =>
        have hp := nl_pos _ (of_decide_eq_true hd)
        simp only [cond_true]
        rw [ih g _ (by rw [List.length_drop]; omega) (by rw [List.length_drop]; omega)]
theorem skp_stop (o f : Nat) (r : List UInt8) (h : ¬ ((r.drop (rch (isBl o) r)).getD 0 0).toNat = 35) : skp o f r = rch (isBl o) r := by
  cases f with
  | zero => rfl
  | succ f =>
    unfold skp
    rw [show decide (((r.drop (rch (isBl o) r)).getD 0 0).toNat = 35) = false from by simpa using h]
    rfl
theorem skp_go (o f : Nat) (r : List UInt8) (hf : r.length ≤ f) (h : ((r.drop (rch (isBl o) r)).getD 0 0).toNat = 35) : skp o f r = rch (isBl o) r + rch isNl (r.drop (rch (isBl o) r)) + skp o f (r.drop (rch (isBl o) r + rch isNl (r.drop (rch (isBl o) r)))) := by
  have h0 : r ≠ [] := by intro e; subst e; simp [rch] at h
  cases f with
  | zero => exact absurd (List.length_eq_zero_iff.1 (by omega)) h0
  | succ f =>
    have hp := nl_pos _ h
    have hl : 0 < r.length := List.length_pos_iff.2 h0
    conv => lhs; unfold skp
    rw [show decide (((r.drop (rch (isBl o) r)).getD 0 0).toNat = 35) = true from by simpa using h]
    simp only [cond_true]
    rw [skp_more o f (f + 1) _ (by rw [List.length_drop]; omega) (by rw [List.length_drop]; omega)]

/-- Where the splitter is, out of memory. -/
def posOf (P : Nat) (w : World) : Nat := match w.cell? ⟨P, 1, none⟩ with | some (.int _ n) => n.toNat | _ => 0
theorem TS.posOf {B P : Nat} {L : List UInt8} {tv iv : Value} {w : World} {p : Sp} (h : TS B P L tv iv w p) : posOf P w = p.pos := by
  unfold Go.Proofs.YtcaeeackccgclaaGreatDoor.posOf
  rw [h.c1]
  simp

set_option maxHeartbeats 4000000 in
set_option maxRecDepth 100000 in
theorem skip_any {B P : Nat} {L : List UInt8} {tv iv : Value} {w : World} {p : Sp} (h : TS B P L tv iv w p) (hL : L.length ≤ 6000) (hp : p.pos ≤ L.length) :
    Calls Tryz.prog 60 #[.pointer (some ⟨P, 0, none⟩)] w fun e w' => e = .returned (.tuple #[]) ∧ TS B P L tv iv w' (p.skip L) ∧ Below B w w' ∧ ∀ g : Nat, g < w.heap.size → g ≠ P → w'.heap[g]? = w.heap[g]? := by
  have hBl : B ≤ w.heap.size := by have := h.hB; have := h.lt; omega
  have H0 : Hid (TS B P L tv iv (w.alloc (.cells #[.pointer (some ⟨P, 0, none⟩)] 81)) p ∧ Below B w (w.alloc (.cells #[.pointer (some ⟨P, 0, none⟩)] 81)) ∧ (w.alloc (.cells #[.pointer (some ⟨P, 0, none⟩)] 81)).heap[w.heap.size]? = some (.cells #[.pointer (some ⟨P, 0, none⟩)] 81 (0, 0))) := ⟨h.up ((Below.refl _ _).alloc (Nat.le_refl _) _), (Below.refl _ _).alloc hBl _, heap_alloc_new w _⟩
  have hskip : p.skip L = { p with pos := p.pos + skp p.opn L.length (L.drop p.pos) } := rfl
  rw [hskip]
  have HQ : Hid (P < w.heap.size ∧ B ≤ P) := ⟨h.lt, h.hB⟩
  have HK0 : Hid (∀ g : Nat, g < w.heap.size → (w.alloc (.cells #[.pointer (some ⟨P, 0, none⟩)] 81)).heap[g]? = w.heap[g]?) := fun g hg => heap_al w _ g hg
  have hen : ∀ args w, (callFunc 89 args).run Tryz.prog w = .ok (.enter 89 args) w := enters_of Tryz.func89 (by kernel_rfl) rfl
  have hmf : ∀ (fn : Fn) (first cap : Array Value) (w : World), (Instr.makeFunc fn first cap).run Tryz.prog w = .ok (.func fn first cap) w := fun _ _ _ _ => rfl
  generalize hQ : w.heap.size = Q at *
  clear h hskip
  go_enter Tryz.func60, Tryz.ntmps60
  go_wp2
  go_loopw [2] (fun _ wr => ∃ x : Nat, x ≤ L.length ∧ Hid (p.pos + skp p.opn L.length (L.drop p.pos) = x + skp p.opn L.length (L.drop x)) ∧ Hid (TS B P L tv iv wr { p with pos := x } ∧ Below B w wr ∧ wr.heap[Q]? = some (.cells #[.pointer (some ⟨P, 0, none⟩)] 81 (0, 0)) ∧ ∀ g : Nat, g < Q → g ≠ P → wr.heap[g]? = w.heap[g]?)) (fun _ wr => L.length - posOf P wr)
  case atStart => exact ⟨p.pos, hp, rfl, H0.out.1, H0.out.2.1, H0.out.2.2, fun g hg _ => HK0.out g hg⟩
  case round =>
    obtain ⟨x, hx, HE, HT⟩ := hrel
    clear H0 HK0
    have q0 : wr.cell? ⟨Q, 0, none⟩ = some (.pointer (some ⟨P, 0, none⟩)) := by rw [Lib.cell_of_heap HT.out.2.2.1]; rfl
    have HPQ : Hid (Q ≠ P) := by have := HQ.out.1; show _ ≠ _; omega
    have HTk : Hid (Calls Tryz.prog 88 #[.pointer (some ⟨P, 0, none⟩), .func (.func 89) #[] #[.pointer (some ⟨Q, 0, none⟩)]] wr fun e w' => (∃ t, e = .returned (.string t)) ∧ TS B P L tv iv w' { p with pos := x + rch (isBl p.opn) (L.drop x) } ∧ Below B wr w' ∧ ∀ g : Nat, g ≠ P → w'.heap[g]? = wr.heap[g]?) :=
      (take_cap HT.out.1 hL hx 89 (.pointer (some ⟨Q, 0, none⟩)) (isBl p.opn) (fun W hW => by
        obtain ⟨n, rfl⟩ := hW
        exact says_bl Q P p.opn _ q0 HT.out.1.c4)).mono fun e w' ⟨a, b, c, d⟩ => ⟨⟨_, a⟩, b, c, d⟩
    have hle1 := rch_le (isBl p.opn) (L.drop x)
    rw [List.length_drop] at hle1
    have HST : Hid (¬ (L.getD (x + rch (isBl p.opn) (L.drop x)) 0).toNat = 35 → x + skp p.opn L.length (L.drop x) = x + rch (isBl p.opn) (L.drop x)) := fun hne => by
      rw [skp_stop p.opn L.length (L.drop x) (by rw [List.drop_drop, at_drop]; exact hne)]
    have HGO : Hid ((L.getD (x + rch (isBl p.opn) (L.drop x)) 0).toNat = 35 → x + skp p.opn L.length (L.drop x) = x + rch (isBl p.opn) (L.drop x) + rch isNl (L.drop (x + rch (isBl p.opn) (L.drop x))) + skp p.opn L.length (L.drop (x + rch (isBl p.opn) (L.drop x) + rch isNl (L.drop (x + rch (isBl p.opn) (L.drop x)))))) := fun he => by
      have := skp_go p.opn L.length (L.drop x) (by rw [List.length_drop]; omega) (by rw [List.drop_drop, at_drop]; exact he)
      rw [List.drop_drop, List.drop_drop, ← Nat.add_assoc] at this
      omega
    generalize rch (isBl p.opn) (L.drop x) = k at *
    obtain ⟨x1, hx1⟩ : ∃ x1, x1 = x + k := ⟨_, rfl⟩
    rw [← hx1] at HTk HST HGO
    have hx1l : x1 ≤ L.length := by omega
    go_wp2_with fail
    refine HTk.out.mono ?_
    rintro e w1 ⟨⟨t1, rfl⟩, hts1, hb1, hk1⟩
    have HT1 : Hid (TS B P L tv iv w1 { p with pos := x1 } ∧ Below B w w1 ∧ w1.heap[Q]? = some (.cells #[.pointer (some ⟨P, 0, none⟩)] 81 (0, 0)) ∧ ∀ g : Nat, g < Q → g ≠ P → w1.heap[g]? = w.heap[g]?) := ⟨hts1, HT.out.2.1.trans hb1, (hk1 Q HPQ.out).trans HT.out.2.2.1, fun g hg hp => (hk1 g hp).trans (HT.out.2.2.2 g hg hp)⟩
    have q1 : w1.cell? ⟨Q, 0, none⟩ = some (.pointer (some ⟨P, 0, none⟩)) := by rw [Lib.cell_of_heap HT1.out.2.2.1]; rfl
    have HSe : Hid (Calls Tryz.prog 61 #[.pointer (some ⟨P, 0, none⟩), .int .u8 (35 : Nat)] w1 fun e w' => e = .returned (.bool (decide ((L.getD x1 0).toNat = 35))) ∧ ∃ n, w' = w1.drewN n) := sees_any hts1 hx1l 35 (by decide)
    clear hts1 hb1 hk1 q0 HTk
    by_cases hsee : (L.getD x1 0).toNat = 35
    · rw [show decide ((L.getD x1 0).toNat = 35) = true from by simpa using hsee] at HSe
      have HGo := HGO.out hsee
      have hnp : 0 < rch isNl (L.drop x1) := nl_pos _ (by rw [at_drop]; exact hsee)
      have hle2 := rch_le isNl (L.drop x1)
      rw [List.length_drop] at hle2
      have HTk2 : Hid (∀ n, Calls Tryz.prog 88 #[.pointer (some ⟨P, 0, none⟩), .func (.func 90) #[] #[]] (w1.drewN n) fun e w' => (∃ t, e = .returned (.string t)) ∧ TS B P L tv iv w' { p with pos := x1 + rch isNl (L.drop x1) } ∧ Below B (w1.drewN n) w' ∧ ∀ g : Nat, g ≠ P → w'.heap[g]? = w1.heap[g]?) := fun n =>
        (take_any (HT1.out.1.drewN n) hL hx1l 90 isNl (fun W _ => says_nl W)).mono fun e w' ⟨a, b, c, d⟩ => ⟨⟨_, a⟩, b, c, d⟩
      have HGo' : Hid _ := HGo
      generalize rch isNl (L.drop x1) = m at *
      clear hsee HGO HST HGo
      go_wp2_with fail
      refine HSe.out.mono ?_
      rintro e w' ⟨rfl, n, rfl⟩
      go_wp2_with fail
      refine (HTk2.out n).mono ?_
      rintro e w2 ⟨⟨t2, rfl⟩, hts2, hb2, hk2⟩
      have HT2 : Hid (TS B P L tv iv w2 { p with pos := x1 + m } ∧ Below B w w2 ∧ w2.heap[Q]? = some (.cells #[.pointer (some ⟨P, 0, none⟩)] 81 (0, 0)) ∧ ∀ g : Nat, g < Q → g ≠ P → w2.heap[g]? = w.heap[g]?) := ⟨hts2, (below_drewN HT1.out.2.1 n).trans hb2, (hk2 Q HPQ.out).trans HT1.out.2.2.1, fun g hg hp => (hk2 g hp).trans (HT1.out.2.2.2 g hg hp)⟩
      clear hts2 hb2 hk2
      go_wp2
      refine ⟨⟨x1 + m, by omega, HE.out.trans HGo'.out, HT2⟩, ?_⟩
      rw [HT2.out.1.posOf, HT.out.1.posOf]
      show L.length - (x1 + m) < L.length - x
      omega
    · rw [show decide ((L.getD x1 0).toNat = 35) = false from by simpa using hsee] at HSe
      have HEnd : Hid (p.pos + skp p.opn L.length (L.drop p.pos) = x1) := HE.out.trans (HST.out hsee)
      clear hsee HGO HST
      go_wp2_with fail
      refine HSe.out.mono ?_
      rintro e w' ⟨rfl, n, rfl⟩
      go_wp2
      refine bodyPost_ret (results_none rfl _ _ _) rfl ?_
      refine ⟨rfl, ?_, below_drewN HT1.out.2.1 n, fun g hg hp => HT1.out.2.2.2 g hg hp⟩
      rw [HEnd.out]
      exact HT1.out.1.drewN n
end Go.Proofs.YtcaeeackccgclaaGreatDoor

/- What may not stand where a token is to begin. -/
namespace Go.Proofs.YtcaeeackccgclaaGreatDoor
open Go.RowKit Go.Shelf

theorem ics_get (l : List Nat) (j : Nat) (hj : j < l.length) : (ics l)[j]? = some (.int .i64 (l[j] : Nat)) := by simp [ics, hj]

def IdxP (b : Bool) (e : Ending) : Prop := ∃ z : Int, (b = false → z = -1) ∧ (b = true → 0 ≤ z) ∧ e = .returned (.int .i64 z)

set_option maxHeartbeats 2000000 in
set_option maxRecDepth 100000 in
theorem contains_any (g cap : Nat) (l : List Nat) (x : Nat) (W : World) (h0 : 0 < l.length) (hl : l.length ≤ 1000000) (hc : ∀ j (hj : j < l.length), W.cell? ⟨g, j, none⟩ = some (.int .i64 (l[j] : Nat))) (b : Bool) (hb : b = true ↔ x ∈ l) :
    Calls Tryz.prog 94 #[.slice (some ⟨g, 0, none⟩) l.length cap, .int .i64 x] W fun e w' => e = .returned (.bool b) ∧ w' = W := by
  have HC : Hid (∀ j (hj : j < l.length), W.cell? ⟨g, j, none⟩ = some (.int .i64 (l[j] : Nat))) := hc
  have HB : Hid (b = true ↔ x ∈ l) := hb
  have HI : Hid (Calls Tryz.prog 119 #[.slice (some ⟨g, 0, none⟩) l.length cap, .int .i64 x] W fun e w' => IdxP b e ∧ w' = W) := by
    clear hc hb
    go_enter Tryz.func119, Tryz.ntmps119
    go_wp2
    go_loop [8] (fun i => ∃ k : Nat, k ≤ l.length ∧ i = .int .i64 k ∧ Hid (x ∉ l.take k)) (fun i => l.length - (intOf i).toNat)
    case atStart => exact ⟨0, Nat.zero_le _, rfl, by show _ ∉ _; simp⟩
    case round =>
      obtain ⟨k, hk, rfl, HK⟩ := hrel
      by_cases hlt : k < l.length
      · have hki : (k : Int) < (l.length : Int) := by omega
        have ck := HC.out k hlt
        by_cases he : x = l[k]
        · have hq : ((x : Int) == (l[k] : Int)) = true := by simp [he]
          have HBT : Hid (b = true) := HB.out.2 (by rw [he]; exact List.getElem_mem hlt)
          generalize l[k] = y at *
          clear he
          go_wp2
          go_ret
          exact ⟨⟨(k : Int), fun h => (by rw [HBT.out] at h; cases h), fun _ => by omega, rfl⟩, rfl⟩
        · have hq : ((x : Int) == (l[k] : Int)) = false := beq_eq_false_iff_ne.2 (by omega)
          have HN : Hid (x ∉ l.take (k + 1)) := by
            show _ ∉ _
            rw [List.take_succ_eq_append_getElem hlt, List.mem_append]
            rintro (h | h)
            · exact HK.out h
            · simp at h; exact he h
          generalize l[k] = y at *
          clear he
          go_wp2
          refine ⟨⟨k + 1, by omega, by go_num, HN⟩, by simp [intOf]; omega⟩
      · obtain rfl : k = l.length := by omega
        have HBF : Hid (¬ b = true) := fun h => by
          have := HK.out
          rw [List.take_length] at this
          exact this (HB.out.1 h)
        go_wp2
        go_ret
        exact ⟨⟨-1, fun _ => rfl, fun h => absurd h HBF.out, rfl⟩, rfl⟩
  clear hc hb HC
  go_enter Tryz.func94, Tryz.ntmps94
  go_wp2_with fail
  refine HI.out.mono ?_
  rintro e w' ⟨⟨z, hz1, hz2, rfl⟩, rfl⟩
  cases b with
  | true =>
    have hz3 := hz2 rfl
    clear hz1 hz2
    go_wp2
    go_ret
    exact ⟨ret_b (by simp), rfl⟩
  | false =>
    have hz3 : z = -1 := hz1 rfl
    subst hz3
    clear hz1 hz2
    go_wp2
    go_ret
    exact ⟨rfl, rfl⟩

theorem rv0 {b1 b2 bm b3 b4 b5 : Bool} {oo i tp nn R : Nat} (H : (R = if b1 = false ∨ (b2 = true ∧ oo = 0) then 1 else if i < tp ∧ bm = false then 4 else if b3 = true ∧ b4 = true then 3 else if (b5 = true ∧ oo = 30) ∨ (tp < i ∧ 30 < nn) then 2 else 0)) (c1 : (!b1) = false) (c2 : ¬ b2 = true ∨ ((oo : Int) == 0) = false) (c3 : ¬ i < tp ∨ (!bm) = false) (c4 : ¬ b3 = true ∨ b4 = false) (c5 : ¬ b5 = true ∨ ((oo : Int) == 30) = false) (c6 : ¬ tp < i ∨ (nn : Int) ≤ 30) : R = 0 := by
  rw [H, if_neg (show ¬ (b1 = false ∨ (b2 = true ∧ oo = 0)) from by rintro (h | ⟨h, h'⟩); (· rw [h] at c1; cases c1); rcases c2 with c | c; (· exact c h); rw [h'] at c; cases c), if_neg (show ¬ (i < tp ∧ bm = false) from by rintro ⟨h, h'⟩; rcases c3 with c | c; (· exact c h); rw [h'] at c; cases c), if_neg (show ¬ (b3 = true ∧ b4 = true) from by rintro ⟨h, h'⟩; rcases c4 with c | c; (· exact c h); rw [h'] at c; cases c), if_neg (show ¬ ((b5 = true ∧ oo = 30) ∨ (tp < i ∧ 30 < nn)) from by rintro (⟨h, h'⟩ | ⟨h, h'⟩); (· rcases c5 with c | c; (· exact c h); rw [h'] at c; cases c); rcases c6 with c | c; (· exact c h); omega)]
theorem rv1a {b1 b2 bm b3 b4 b5 : Bool} {oo i tp nn R : Nat} (H : (R = if b1 = false ∨ (b2 = true ∧ oo = 0) then 1 else if i < tp ∧ bm = false then 4 else if b3 = true ∧ b4 = true then 3 else if (b5 = true ∧ oo = 30) ∨ (tp < i ∧ 30 < nn) then 2 else 0)) (h : (!b1) = true) : R = 1 := by
  rw [H, if_pos (Or.inl (by simpa using h))]
theorem rv1b {b1 b2 bm b3 b4 b5 : Bool} {oo i tp nn R : Nat} (H : (R = if b1 = false ∨ (b2 = true ∧ oo = 0) then 1 else if i < tp ∧ bm = false then 4 else if b3 = true ∧ b4 = true then 3 else if (b5 = true ∧ oo = 30) ∨ (tp < i ∧ 30 < nn) then 2 else 0)) (h : b2 = true) (h' : ((oo : Int) == 0) = true) : R = 1 := by
  rw [H, if_pos (Or.inr ⟨h, by simpa using h'⟩)]
theorem rv4 {b1 b2 bm b3 b4 b5 : Bool} {oo i tp nn R : Nat} (H : (R = if b1 = false ∨ (b2 = true ∧ oo = 0) then 1 else if i < tp ∧ bm = false then 4 else if b3 = true ∧ b4 = true then 3 else if (b5 = true ∧ oo = 30) ∨ (tp < i ∧ 30 < nn) then 2 else 0)) (c1 : (!b1) = false) (c2 : ¬ b2 = true ∨ ((oo : Int) == 0) = false) (h : i < tp) (h' : (!bm) = true) : R = 4 := by
  rw [H, if_neg (show ¬ (b1 = false ∨ (b2 = true ∧ oo = 0)) from by rintro (h | ⟨h, h'⟩); (· rw [h] at c1; cases c1); rcases c2 with c | c; (· exact c h); rw [h'] at c; cases c), if_pos ⟨h, by simpa using h'⟩]
theorem rv3 {b1 b2 bm b3 b4 b5 : Bool} {oo i tp nn R : Nat} (H : (R = if b1 = false ∨ (b2 = true ∧ oo = 0) then 1 else if i < tp ∧ bm = false then 4 else if b3 = true ∧ b4 = true then 3 else if (b5 = true ∧ oo = 30) ∨ (tp < i ∧ 30 < nn) then 2 else 0)) (c1 : (!b1) = false) (c2 : ¬ b2 = true ∨ ((oo : Int) == 0) = false) (c3 : ¬ i < tp ∨ (!bm) = false) (h : b3 = true) (h' : b4 = true) : R = 3 := by
  rw [H, if_neg (show ¬ (b1 = false ∨ (b2 = true ∧ oo = 0)) from by rintro (h | ⟨h, h'⟩); (· rw [h] at c1; cases c1); rcases c2 with c | c; (· exact c h); rw [h'] at c; cases c), if_neg (show ¬ (i < tp ∧ bm = false) from by rintro ⟨h, h'⟩; rcases c3 with c | c; (· exact c h); rw [h'] at c; cases c), if_pos ⟨h, h'⟩]
theorem rv2a {b1 b2 bm b3 b4 b5 : Bool} {oo i tp nn R : Nat} (H : (R = if b1 = false ∨ (b2 = true ∧ oo = 0) then 1 else if i < tp ∧ bm = false then 4 else if b3 = true ∧ b4 = true then 3 else if (b5 = true ∧ oo = 30) ∨ (tp < i ∧ 30 < nn) then 2 else 0)) (c1 : (!b1) = false) (c2 : ¬ b2 = true ∨ ((oo : Int) == 0) = false) (c3 : ¬ i < tp ∨ (!bm) = false) (c4 : ¬ b3 = true ∨ b4 = false) (h : b5 = true) (h' : ((oo : Int) == 30) = true) : R = 2 := by
  rw [H, if_neg (show ¬ (b1 = false ∨ (b2 = true ∧ oo = 0)) from by rintro (h | ⟨h, h'⟩); (· rw [h] at c1; cases c1); rcases c2 with c | c; (· exact c h); rw [h'] at c; cases c), if_neg (show ¬ (i < tp ∧ bm = false) from by rintro ⟨h, h'⟩; rcases c3 with c | c; (· exact c h); rw [h'] at c; cases c), if_neg (show ¬ (b3 = true ∧ b4 = true) from by rintro ⟨h, h'⟩; rcases c4 with c | c; (· exact c h); rw [h'] at c; cases c), if_pos (Or.inl ⟨h, by have h9 : (oo : Int) = 30 := (by simpa using h'); omega⟩)]
theorem rv2b {b1 b2 bm b3 b4 b5 : Bool} {oo i tp nn R : Nat} (H : (R = if b1 = false ∨ (b2 = true ∧ oo = 0) then 1 else if i < tp ∧ bm = false then 4 else if b3 = true ∧ b4 = true then 3 else if (b5 = true ∧ oo = 30) ∨ (tp < i ∧ 30 < nn) then 2 else 0)) (c1 : (!b1) = false) (c2 : ¬ b2 = true ∨ ((oo : Int) == 0) = false) (c3 : ¬ i < tp ∨ (!bm) = false) (c4 : ¬ b3 = true ∨ b4 = false) (h : tp < i) (h' : (30 : Int) < (nn : Int)) : R = 2 := by
  rw [H, if_neg (show ¬ (b1 = false ∨ (b2 = true ∧ oo = 0)) from by rintro (h | ⟨h, h'⟩); (· rw [h] at c1; cases c1); rcases c2 with c | c; (· exact c h); rw [h'] at c; cases c), if_neg (show ¬ (i < tp ∧ bm = false) from by rintro ⟨h, h'⟩; rcases c3 with c | c; (· exact c h); rw [h'] at c; cases c), if_neg (show ¬ (b3 = true ∧ b4 = true) from by rintro ⟨h, h'⟩; rcases c4 with c | c; (· exact c h); rw [h'] at c; cases c), if_pos (Or.inr ⟨h, by omega⟩)]

/-- What is left of a call that may be refused. -/
def RefP (r x : Nat) (e : Ending) : Prop := (r = 0 → e = .returned (.tuple #[])) ∧ (r ≠ 0 → e = PF r x)

set_option maxHeartbeats 8000000 in
set_option maxRecDepth 100000 in
theorem refuse_any {B P : Nat} {L : List UInt8} {tv iv : Value} {w : World} {p : Sp} (h : TS B P L tv iv w p) (hL : L.length ≤ 6000) (hp : p.pos < L.length) (i : Nat) (hn0 : 0 < p.ins.length) (hn : p.ins.length ≤ 1000) (hr : ErrR w) :
    Calls Tryz.prog 62 #[.pointer (some ⟨P, 0, none⟩), .int .i64 i] w fun e w' => RefP (refu L p i) p.pos e ∧ Below w.heap.size w w' := by
  have hrl : 0 < (L.drop p.pos).length := by rw [List.length_drop]; omega
  have hrl2 : (L.drop p.pos).length ≤ 1000000 := by rw [List.length_drop]; omega
  have HRe : Hid (∀ W, Below w.heap.size w W → Calls Tryz.prog 92 #[.pointer (some ⟨P, 0, none⟩)] W fun e w' => e = .returned (.string (mkB (L.drop p.pos))) ∧ Below w.heap.size w w') := fun W hW => (rest_any (h.up hW) (by omega)).mono fun e w' ⟨a, n, b⟩ => ⟨a, by rw [b]; exact below_drewN hW n⟩
  have HBe : Hid (∀ W, Calls Tryz.prog 91 #[.string (mkB (L.drop p.pos))] W fun e w' => e = .returned (.bool (beg (L.drop p.pos))) ∧ w' = W) := fun W => begins_any _ W hrl hrl2
  have HCl : Hid (∀ W, Calls Tryz.prog 93 #[.int .u8 (L.getD p.pos 0).toNat] W fun e w' => e = .returned (.bool (isCls (L.getD p.pos 0))) ∧ w' = W) := fun W => isClosing_any _ W
  have HOp : Hid (∀ W, Calls Tryz.prog 97 #[.int .u8 (L.getD p.pos 0).toNat] W fun e w' => e = .returned (.bool (isOpn (L.getD p.pos 0))) ∧ w' = W) := fun W => isOpening_any _ W
  have HDg : Hid (∀ W, Calls Tryz.prog 95 #[.int .u8 (L.getD p.pos 0).toNat] W fun e w' => e = .returned (.bool (isDg (L.getD p.pos 0))) ∧ w' = W) := fun W => isDigit_any _ W
  have HIn : Hid (∀ W, Below w.heap.size w W → Calls Tryz.prog 64 #[.pointer (some ⟨P, 0, none⟩)] W fun e w' => e = .returned (.int .i64 p.top) ∧ Below w.heap.size w w') := fun W hW => (in_any (h.up hW) hn0 (by omega)).mono fun e w' ⟨a, n, b⟩ => ⟨a, by rw [b]; exact below_drewN hW n⟩
  have HNI : Hid (isDg (L.getD p.pos 0) = true → ∀ W, Below w.heap.size w W → Calls Tryz.prog 96 #[.string (mkB (L.drop p.pos))] W fun e w' => e = .returned (.bool (noInt (L.drop p.pos))) ∧ Below w.heap.size w w') := fun hd W hW => (isNoInt_any _ W hrl hrl2 (by rw [at_drop]; exact hd) (hr.up hW)).mono fun e w' ⟨a, b⟩ => ⟨a, hW.trans (b.mono hW.size)⟩
  have HGu : Hid (∀ W, Below w.heap.size w W → ∀ k : Int, Calls Tryz.prog 65 #[.pointer (some ⟨P, 0, none⟩), .int .i64 k] W fun e w' => e = PF k p.pos ∧ w' = W) := fun W hW k => giveUp_any (h.up hW) k
  obtain ⟨g, cap, hv, hg1, hg2⟩ := h.oi.form hn0
  subst hv
  obtain ⟨bm, hbm⟩ : ∃ bm : Bool, (bm = true ↔ i ∈ p.ins) := ⟨decide (i ∈ p.ins), by simp⟩
  have HCo : Hid (∀ W, Below w.heap.size w W → Calls Tryz.prog 94 #[.slice (some ⟨g, 0, none⟩) p.ins.length cap, .int .i64 i] W fun e w' => e = .returned (.bool bm) ∧ w' = W) := fun W hW => by
    have := contains_any g cap p.ins.reverse i W (by simpa using hn0) (by simp; omega) (fun j hj => (((h.up hW).oi.cellAt j (by simpa using hj))).trans (ics_get _ j hj)) bm (by rw [hbm]; simp)
    simpa using this
  have HC : Hid (∀ W, Below w.heap.size w W → W.cell? ⟨P, 0, none⟩ = some (.string (mkB L)) ∧ W.cell? ⟨P, 1, none⟩ = some (.int .i64 p.pos) ∧ W.cell? ⟨P, 3, none⟩ = some (.slice (some ⟨g, 0, none⟩) p.ins.length cap) ∧ W.cell? ⟨P, 4, none⟩ = some (.int .i64 p.opn)) := fun W hW => ⟨(h.up hW).c0, (h.up hW).c1, (h.up hW).c3, (h.up hW).c4⟩
  have hru : refu L p i = if beg (L.drop p.pos) = false ∨ (isCls (L.getD p.pos 0) = true ∧ p.opn = 0) then 1 else if i < p.top ∧ bm = false then 4 else if isDg (L.getD p.pos 0) = true ∧ noInt (L.drop p.pos) = true then 3 else if (isOpn (L.getD p.pos 0) = true ∧ p.opn = 30) ∨ (p.top < i ∧ 30 < p.ins.length) then 2 else 0 := by
    unfold refu
    simp only [at_drop]
    have : (i ∉ p.ins) ↔ bm = false := by rw [← hbm]; simp
    simp only [this]
  obtain ⟨R, hR⟩ : ∃ R, R = refu L p i := ⟨_, rfl⟩
  rw [← hR]
  rw [← hR] at hru
  have hsz := mk_size L
  have hs0 : p.pos < (mkB L).size := by rw [hsz]; exact hp
  have hg := mk_get L p.pos hs0
  have hpi : (p.pos : Int) < (L.length : Int) := by omega
  have hk0 : Below w.heap.size w w := Below.refl _ _
  obtain ⟨d0, d1, d3, d4⟩ := HC.out _ hk0
  generalize mkB (L.drop p.pos) = rs at *
  generalize beg (L.drop p.pos) = b1 at *
  generalize noInt (L.drop p.pos) = b4 at *
  generalize isCls (L.getD p.pos 0) = b2 at *
  generalize isDg (L.getD p.pos 0) = b3 at *
  generalize isOpn (L.getD p.pos 0) = b5 at *
  generalize L.getD p.pos 0 = c0 at *
  generalize p.top = tp at *
  generalize p.ins.length = nn at *
  generalize p.opn = oo at *
  generalize p.pos = xx at *
  have HRU : Hid (R = if b1 = false ∨ (b2 = true ∧ oo = 0) then 1 else if i < tp ∧ bm = false then 4 else if b3 = true ∧ b4 = true then 3 else if (b5 = true ∧ oo = 30) ∨ (tp < i ∧ 30 < nn) then 2 else 0) := hru
  clear h hr hbm hru hrl hrl2 hg1 hg2 hR
  go_enter Tryz.func62, Tryz.ntmps62
  go_wp2
  go_quiet (fail)
  have hk1 : Below w.heap.size w (w.drewN nq) := below_drewN hk0 nq
  obtain ⟨e0, e1, e3, e4⟩ := HC.out _ hk1
  go_wp2_with (first
    | (go_at_call 92; refine (HRe.out _ (by assumption)).mono ?_; rintro e w1 ⟨rfl, hkr⟩; obtain ⟨r0, r1, r3, r4⟩ := HC.out _ hkr)
    | (go_at_call 91; refine (HBe.out _).mono ?_; rintro e w' ⟨rfl, rfl⟩)
    | (go_at_call 93; refine (HCl.out _).mono ?_; rintro e w' ⟨rfl, rfl⟩)
    | (go_at_call 97; refine (HOp.out _).mono ?_; rintro e w' ⟨rfl, rfl⟩)
    | (go_at_call 95; refine (HDg.out _).mono ?_; rintro e w' ⟨rfl, rfl⟩)
    | (go_at_call 64; refine (HIn.out _ (by assumption)).mono ?_; rintro e w2 ⟨rfl, hki⟩; obtain ⟨s0, s1, s3, s4⟩ := HC.out _ hki)
    | (go_at_call 94; refine (HCo.out _ (by assumption)).mono ?_; rintro e w' ⟨rfl, rfl⟩)
    | (go_at_call 96; refine (HNI.out (by assumption) _ (by assumption)).mono ?_; rintro e w3 ⟨rfl, hkn⟩; obtain ⟨t0, t1, t3, t4⟩ := HC.out _ hkn)
    | (go_at_call 65; refine (HGu.out _ (by assumption) _).mono ?_; rintro e w' ⟨rfl, rfl⟩)
    | fail)
  all_goals have HRV := HRU.out
  all_goals clear HRU
  all_goals first
    | (exfalso; have h1 : (!b1) = true := (by assumption); have h2 : (!b1) = false := (by assumption); rw [h1] at h2; cases h2)
    | (have hR : R = 0 := rv0 HRV (by assumption) (by first | exact Or.inl (by assumption) | exact Or.inr (by assumption)) (by first | exact Or.inl (by assumption) | exact Or.inr (by assumption)) (by first | exact Or.inl (by assumption) | exact Or.inr (by assumption)) (by first | exact Or.inl (by assumption) | exact Or.inr (by assumption)) (by first | exact Or.inl (by assumption) | exact Or.inr (by assumption)); subst hR; go_end0; exact ⟨⟨fun _ => rfl, fun h => absurd rfl h⟩, by assumption⟩)
    | (have hR : R = _ := rv1a HRV (by assumption); subst hR; exact ⟨rfl, ⟨fun h => (by cases h), fun _ => rfl⟩, by assumption⟩)
    | (have hR : R = _ := rv1b HRV (by assumption) (by assumption); subst hR; exact ⟨rfl, ⟨fun h => (by cases h), fun _ => rfl⟩, by assumption⟩)
    | (have hR : R = _ := rv4 HRV (by assumption) (by first | exact Or.inl (by assumption) | exact Or.inr (by assumption)) (by assumption) (by assumption); subst hR; exact ⟨rfl, ⟨fun h => (by cases h), fun _ => rfl⟩, by assumption⟩)
    | (have hR : R = _ := rv3 HRV (by assumption) (by first | exact Or.inl (by assumption) | exact Or.inr (by assumption)) (by first | exact Or.inl (by assumption) | exact Or.inr (by assumption)) (by assumption) (by assumption); subst hR; exact ⟨rfl, ⟨fun h => (by cases h), fun _ => rfl⟩, by assumption⟩)
    | (have hR : R = _ := rv2a HRV (by assumption) (by first | exact Or.inl (by assumption) | exact Or.inr (by assumption)) (by first | exact Or.inl (by assumption) | exact Or.inr (by assumption)) (by first | exact Or.inl (by assumption) | exact Or.inr (by assumption)) (by assumption) (by assumption); subst hR; exact ⟨rfl, ⟨fun h => (by cases h), fun _ => rfl⟩, by assumption⟩)
    | (have hR : R = _ := rv2b HRV (by assumption) (by first | exact Or.inl (by assumption) | exact Or.inr (by assumption)) (by first | exact Or.inl (by assumption) | exact Or.inr (by assumption)) (by first | exact Or.inl (by assumption) | exact Or.inr (by assumption)) (by assumption) (by assumption); subst hR; exact ⟨rfl, ⟨fun h => (by cases h), fun _ => rfl⟩, by assumption⟩)
end Go.Proofs.YtcaeeackccgclaaGreatDoor

/- The parser's small methods. -/
namespace Go.Proofs.YtcaeeackccgclaaGreatDoor
open Go.RowKit Go.Shelf

abbrev pt (b : Nat) : Value := .pointer (some ⟨b, 0, none⟩)
theorem tcs_at (t : Tk) (r : List Tk) : (tcs (t :: r))[0]? = some (.int .i64 t.kind) ∧ (tcs (t :: r))[1]? = some (.string (mkB t.text)) ∧ (tcs (t :: r))[2]? = some (.int .i64 t.num) ∧ (tcs (t :: r))[3]? = some (.int .i64 t.pos) := ⟨rfl, rfl, rfl, rfl⟩

theorem PsA.cells {P T : Nat} {w : World} {p : Ps} (h : PsA P T w p) : ∃ a c, w.cell? ⟨P, 0, none⟩ = some (.slice a p.toks.length c) ∧ w.cell? ⟨P, 1, none⟩ = some (.int .i64 p.fin) ∧ w.cell? ⟨P, 2, none⟩ = some (.int .i64 p.blk) ∧ w.cell? ⟨P, 3, none⟩ = some (.bool p.inD) ∧ w.cell? ⟨P, 4, none⟩ = some (.int .i64 p.deep) ∧
    ∀ t r, p.toks = t :: r → ∃ o, a = some ⟨T, o, none⟩ ∧ w.cell? ⟨T, o, none⟩ = some (.int .i64 t.kind) ∧ w.cell? ⟨T, o + 1, none⟩ = some (.string (mkB t.text)) ∧ w.cell? ⟨T, o + 2, none⟩ = some (.int .i64 t.num) ∧ w.cell? ⟨T, o + 3, none⟩ = some (.int .i64 t.pos) := by
  obtain ⟨a, c, o, h1, h2, h3, h4, h5, h6, h7, h8⟩ := h
  refine ⟨a, c, by rw [Lib.cell_of_heap h1]; rfl, by rw [Lib.cell_of_heap h1]; rfl, by rw [Lib.cell_of_heap h1]; rfl, by rw [Lib.cell_of_heap h1]; rfl, by rw [Lib.cell_of_heap h1]; rfl, fun t r hp => ?_⟩
  rw [hp] at h4 h5
  refine ⟨o, h4 (by simp), ?_, ?_, ?_, ?_⟩
  · have := h5 0 (by simp); rwa [(tcs_at t r).1] at this
  · have := h5 1 (by simp; omega); rwa [(tcs_at t r).2.1] at this
  · have := h5 2 (by simp; omega); rwa [(tcs_at t r).2.2.1] at this
  · have := h5 3 (by simp; omega); rwa [(tcs_at t r).2.2.2] at this
theorem fld0 (a b c d : Value) (w : World) : (Instr.field 84 (.agg #[a, b, c, d]) 0).run Tryz.prog w = .ok a w := by
  simp [Instr.field, asAgg, run_underlying Tryz.underlying84, go_sem, Result.andThen]
theorem fld1 (a b c d : Value) (w : World) : (Instr.field 84 (.agg #[a, b, c, d]) 1).run Tryz.prog w = .ok b w := by
  simp [Instr.field, asAgg, run_underlying Tryz.underlying84, go_sem, Result.andThen]
theorem fld2 (a b c d : Value) (w : World) : (Instr.field 84 (.agg #[a, b, c, d]) 2).run Tryz.prog w = .ok c w := by
  simp [Instr.field, asAgg, run_underlying Tryz.underlying84, go_sem, Result.andThen]
theorem fld3 (a b c d : Value) (w : World) : (Instr.field 84 (.agg #[a, b, c, d]) 3).run Tryz.prog w = .ok d w := by
  simp [Instr.field, asAgg, run_underlying Tryz.underlying84, go_sem, Result.andThen]
attribute [local go_sem ↓] fld0 fld1 fld2 fld3
theorem alB (w : World) (o : Obj) : Below w.heap.size w (w.alloc o) := (Below.refl _ w).alloc (Nat.le_refl _) _
abbrev tz : Obj := .cells #[.int .i64 0, .string ⟨#[]⟩, .int .i64 0, .int .i64 0] 84

set_option maxHeartbeats 2000000 in
set_option maxRecDepth 100000 in
theorem next_any {P T : Nat} {w : World} {p : Ps} (h : PsA P T w p) :
    Calls Tryz.prog 68 #[pt P] w fun e w' => e = .returned (.agg #[.int .i64 p.nx.kind, .string (mkB p.nx.text), .int .i64 p.nx.num, .int .i64 p.nx.pos]) ∧ Below w.heap.size w w' := by
  have hW := h.up (alB w tz)
  obtain ⟨a, c, c0, c1, _, _, _, hc⟩ := hW.cells
  clear hW
  cases hp : p.toks with
  | nil =>
    have hn : p.nx = ⟨0, [], 0, p.fin⟩ := by unfold Ps.nx; rw [hp]
    rw [hn]
    rw [hp] at c0
    clear hc h
    go_enter Tryz.func68, Tryz.ntmps68
    go_wp2
    refine bodyPost_ret (v := .agg #[.int .i64 (⟨0, [], 0, p.fin⟩ : Tk).kind, .string (mkB (⟨0, [], 0, p.fin⟩ : Tk).text), .int .i64 (⟨0, [], 0, p.fin⟩ : Tk).num, .int .i64 (⟨0, [], 0, p.fin⟩ : Tk).pos]) (by simp [results, Tryz.results68, go_sem, mkB]) rfl ⟨rfl, alB w _⟩
  | cons t r =>
    have hn : p.nx = t := by unfold Ps.nx; rw [hp]
    rw [hn]
    rw [hp] at c0
    obtain ⟨o, rfl, d0, d1, d2, d3⟩ := hc t r hp
    rw [List.length_cons] at c0
    clear hc h
    go_enter Tryz.func68, Tryz.ntmps68
    go_wp2
    refine bodyPost_ret (v := .agg #[.int .i64 t.kind, .string (mkB t.text), .int .i64 t.num, .int .i64 t.pos]) (by simp [results, Tryz.results68, go_sem, mkB]) rfl ⟨rfl, alB w _⟩
set_option maxHeartbeats 2000000 in
set_option maxRecDepth 100000 in
theorem pGiveUp_any {P T : Nat} {w : World} {p : Ps} (h : PsA P T w p) (k : Nat) :
    Calls Tryz.prog 112 #[pt P, .int .i64 k] w fun e w' => e = PF k p.nx.pos ∧ Below w.heap.size w w' := by
  have HN := next_any h
  clear h
  generalize p.nx = t at *
  go_enter Tryz.func112, Tryz.ntmps112
  go_wp2_with fail
  refine HN.mono ?_
  rintro e w1 ⟨rfl, hb⟩
  go_wp2
  exact ⟨rfl, rfl, hb⟩

set_option maxHeartbeats 2000000 in
set_option maxRecDepth 100000 in
theorem giveUpIf_any {P T : Nat} {w : World} {p : Ps} (h : PsA P T w p) (b : Bool) (k : Nat) :
    Calls Tryz.prog 73 #[pt P, .bool b, .int .i64 k] w fun e w' => (e = bif b then PF k p.nx.pos else .returned (.tuple #[])) ∧ Below w.heap.size w w' := by
  have HN := pGiveUp_any h k
  clear h
  generalize p.nx = t at *
  go_enter Tryz.func73, Tryz.ntmps73
  cases b with
  | true =>
    go_wp2_with fail
    refine HN.mono ?_
    rintro e w1 ⟨rfl, hb⟩
    exact ⟨rfl, rfl, hb⟩
  | false =>
    clear HN
    go_wp2
    go_end0
    exact ⟨rfl, Below.refl _ _⟩

set_option maxHeartbeats 2000000 in
set_option maxRecDepth 100000 in
theorem sees2_any {P T : Nat} {w : World} {p : Ps} (h : PsA P T w p) (k : Nat) :
    Calls Tryz.prog 80 #[pt P, .int .i64 k] w fun e w' => e = .returned (.bool (p.nx.kind == k)) ∧ Below w.heap.size w w' := by
  have HN := next_any h
  clear h
  generalize p.nx = t at *
  have hq : (((t.kind : Nat) : Int) == (k : Int)) = (t.kind == k) := by rw [Bool.eq_iff_iff]; simp; omega
  go_enter Tryz.func80, Tryz.ntmps80
  go_wp2_with fail
  refine HN.mono ?_
  rintro e w1 ⟨rfl, hb⟩
  go_wp2
  go_ret
  exact ⟨rfl, hb⟩

/-- Texts that are looked through: in a block that is not the parser's. -/
def SgA (P : Nat) (w : World) (v : Value) (l : List (List UInt8)) : Prop := ∃ ao c, v = .slice ao l.length c ∧ l.length ≤ 1000000 ∧ (0 < l.length → ∃ g, ao = some ⟨g, 0, none⟩ ∧ g < w.heap.size ∧ g ≠ P ∧ ∀ j (hj : j < l.length), w.cell? ⟨g, j, none⟩ = some (.string (mkB l[j])))
theorem SgA.keep {P : Nat} {w w' : World} {v : Value} {l : List (List UInt8)} (h : SgA P w v l) (hk : KP P w w') : SgA P w' v l := by
  obtain ⟨ao, c, hv, hl, hg⟩ := h
  refine ⟨ao, c, hv, hl, fun h0 => ?_⟩
  obtain ⟨g, h1, h2, h3, h4⟩ := hg h0
  refine ⟨g, h1, Nat.lt_of_lt_of_le h2 hk.size, h3, fun j hj => ?_⟩
  rw [← h4 j hj]
  simp [World.cell?, hk.blk g h2 h3]

set_option maxHeartbeats 2000000 in
set_option maxRecDepth 100000 in
theorem containsT_any {P : Nat} {w : World} {v : Value} {l : List (List UInt8)} (h : SgA P w v l) (x : List UInt8) :
    Calls Tryz.prog 104 #[v, .string (mkB x)] w fun e w' => e = .returned (.bool (l.contains x)) ∧ w' = w := by
  obtain ⟨ao, c, rfl, hn, hm⟩ := h
  have HM : Hid (0 < l.length → ∃ g, ao = some ⟨g, 0, none⟩ ∧ g < w.heap.size ∧ g ≠ P ∧ ∀ j (hj : j < l.length), w.cell? ⟨g, j, none⟩ = some (.string (mkB l[j]))) := hm
  have hn1 : (l.length : Int) ≤ 1000000 := by omega
  obtain ⟨b, hb⟩ : ∃ b, b = l.contains x := ⟨_, rfl⟩
  have HB : Hid (b = true ↔ x ∈ l) := by show _ ↔ _; rw [hb]; simp
  rw [← hb]
  have HI : Hid (Calls Tryz.prog 124 #[.slice ao l.length c, .string (mkB x)] w fun e w' => IdxP b e ∧ w' = w) := by
    clear hm hn hb
    go_enter Tryz.func124, Tryz.ntmps124
    go_wp2
    go_loop [8] (fun i => ∃ k : Nat, k ≤ l.length ∧ i = .int .i64 k ∧ Hid (x ∉ l.take k)) (fun i => l.length - (intOf i).toNat)
    case atStart => exact ⟨0, Nat.zero_le _, rfl, by show _ ∉ _; simp⟩
    case round =>
      obtain ⟨k, hk, rfl, HK⟩ := hrel
      by_cases hlt : k < l.length
      · have hki : (k : Int) < (l.length : Int) := by omega
        obtain ⟨g, rfl, _, _, hcc⟩ := HM.out (by omega)
        have ck := hcc k hlt
        by_cases he : x = l[k]
        · have hq : ((mkB x).toList == (mkB l[k]).toList) = true := by rw [he]; simp
          have HBT : Hid (b = true) := HB.out.2 (by rw [he]; exact List.getElem_mem hlt)
          generalize l[k] = y at ck hq
          clear he hcc
          go_wp2
          go_ret
          exact ⟨⟨(k : Int), fun h => (by rw [HBT.out] at h; cases h), fun _ => by omega, rfl⟩, rfl⟩
        · have hq : ((mkB x).toList == (mkB l[k]).toList) = false := by rw [mk_toList, mk_toList, beq_eq_false_iff_ne]; exact he
          have HN : Hid (x ∉ l.take (k + 1)) := by
            show _ ∉ _
            rw [List.take_succ_eq_append_getElem hlt, List.mem_append]
            rintro (h | h)
            · exact HK.out h
            · simp at h; exact he h
          generalize l[k] = y at ck hq
          clear he hcc
          go_wp2
          refine ⟨⟨k + 1, by omega, by go_num, HN⟩, by simp [intOf]; omega⟩
      · obtain rfl : k = l.length := by omega
        have HBF : Hid (¬ b = true) := fun h => by
          have := HK.out
          rw [List.take_length] at this
          exact this (HB.out.1 h)
        go_wp2
        go_ret
        exact ⟨⟨-1, fun _ => rfl, fun h => absurd h HBF.out, rfl⟩, rfl⟩
  clear hm hb HB HM
  go_enter Tryz.func104, Tryz.ntmps104
  go_wp2_with fail
  refine HI.out.mono ?_
  rintro e w' ⟨⟨z, hz1, hz2, rfl⟩, rfl⟩
  cases b with
  | true =>
    have hz3 := hz2 rfl
    clear hz1 hz2
    go_wp2
    go_ret
    exact ⟨ret_b (by simp), rfl⟩
  | false =>
    have hz3 : z = -1 := hz1 rfl
    subst hz3
    clear hz1 hz2
    go_wp2
    go_ret
    exact ⟨rfl, rfl⟩
end Go.Proofs.YtcaeeackccgclaaGreatDoor

/- The parser sees signs, and takes tokens. -/
namespace Go.Proofs.YtcaeeackccgclaaGreatDoor
open Go.RowKit Go.Shelf
attribute [local go_sem ↓] fld0 fld1 fld2 fld3

set_option maxHeartbeats 4000000 in
set_option maxRecDepth 100000 in
theorem isSign_any {P : Nat} {w : World} (t : Tk) {v : Value} {l : List (List UInt8)} (h : SgA P w v l) :
    Calls Tryz.prog 67 #[.agg #[.int .i64 t.kind, .string (mkB t.text), .int .i64 t.num, .int .i64 t.pos], v] w fun e w' => e = .returned (.bool (isS t l)) ∧ Below w.heap.size w w' := by
  have HC : Hid (Calls Tryz.prog 104 #[v, .string (mkB t.text)] (w.alloc (.cells #[.int .i64 t.kind, .string (mkB t.text), .int .i64 t.num, .int .i64 t.pos] 84)) fun e w' => e = .returned (.bool (l.contains t.text)) ∧ w' = w.alloc (.cells #[.int .i64 t.kind, .string (mkB t.text), .int .i64 t.num, .int .i64 t.pos] 84)) := containsT_any (h.keep (KP.of_below (alB w _))) _
  have HB : Hid (Below w.heap.size w (w.alloc (.cells #[.int .i64 t.kind, .string (mkB t.text), .int .i64 t.num, .int .i64 t.pos] 84))) := alB w _
  have hq4 : (((t.kind : Nat) : Int) == (4 : Int)) = (t.kind == 4) := by rw [Bool.eq_iff_iff]; simp; omega
  have hq5 : (((t.kind : Nat) : Int) == (5 : Int)) = (t.kind == 5) := by rw [Bool.eq_iff_iff]; simp; omega
  unfold isS
  clear h
  generalize (t.kind == 4) = b4 at *
  generalize (t.kind == 5) = b5 at *
  generalize l.contains t.text = bc at *
  cases b4 <;> cases b5
  all_goals
    go_enter Tryz.func67, Tryz.ntmps67
    go_wp2_with (go_at_call 104; refine HC.out.mono ?_; rintro e w1 ⟨rfl, rfl⟩)
    go_ret
    exact ⟨rfl, HB.out⟩

set_option maxHeartbeats 2000000 in
set_option maxRecDepth 100000 in
theorem seesSign_any {P T : Nat} {w : World} {p : Ps} (h : PsA P T w p) {v : Value} {l : List (List UInt8)} (hs : SgA P w v l) :
    Calls Tryz.prog 44 #[pt P, v] w fun e w' => e = .returned (.bool (p.sees l)) ∧ Below w.heap.size w w' := by
  have HN := next_any h
  have HI : Hid (∀ W, Below w.heap.size w W → Calls Tryz.prog 67 #[.agg #[.int .i64 p.nx.kind, .string (mkB p.nx.text), .int .i64 p.nx.num, .int .i64 p.nx.pos], v] W fun e w' => e = .returned (.bool (p.sees l)) ∧ Below w.heap.size w w') := fun W hW => (isSign_any p.nx (hs.keep (KP.of_below hW))).mono fun e w' ⟨a, b⟩ => ⟨a, hW.trans (b.mono hW.size)⟩
  clear h hs
  generalize p.nx = t at *
  generalize p.sees l = b at *
  go_enter Tryz.func44, Tryz.ntmps44
  go_wp2_with fail
  refine HN.mono ?_
  rintro e w1 ⟨rfl, hb⟩
  go_wp2_with fail
  refine (HI.out _ hb).mono ?_
  rintro e w2 ⟨rfl, hb2⟩
  go_wp2
  go_ret
  exact ⟨rfl, hb2⟩

theorem there_of {w : World} {b : Nat} {cs : Array Value} {ty : TypeId} (h : w.heap[b]? = some (.cells cs ty (0, 0))) : w.there b 0 cs.size := fun j hj => by
  rw [Nat.zero_add]
  refine ⟨?_, Lib.frozen_of_heap h j⟩
  rw [Lib.cell_of_heap h]
  simp [hj]
/-- A whole value goes into a variable, and comes back. -/
theorem stN {w : World} {R : Nat} {cs0 : Array Value} {ty : TypeId} (hr : w.heap[R]? = some (.cells cs0 ty (0, 0))) {c : List Value} (hc : c.length = cs0.size) (hi : (Tryz.prog.info? ty).map (·.size) = some c.length) (h1 : ∀ v ∈ c, v.oneCell' = true) {d : TypeDesc} (hu : Tryz.prog.underlying ty = some d) (hd : d.isRow = true) :
    (Instr.storeAt ty (.pointer (some ⟨R, 0, none⟩)) (.agg c.toArray)).run Tryz.prog w = .ok () (w.setCells R 0 c) ∧ (loadVar ty ⟨R, 0, none⟩).run Tryz.prog (w.setCells R 0 c) = .ok (.agg c.toArray) (w.setCells R 0 c) := by
  have ht : w.there R 0 c.length := by rw [hc]; exact there_of hr
  exact ⟨run_storeAt_mid w R 0 ty c.toArray (by simpa using ht) (by simpa using hi) (all_oneCell_toArray h1), run_loadVar_mid _ R 0 ty c d (World.rangeAt_setCells_same _ _ _ _ ht) hu hd hi⟩
theorem res_one {fn : Func} {p : Tmp} {ty : TypeId} {P : Program} {b : Nat} {v : Value} (h : fn.results = #[.cell p ty]) (tmps : Array Value) (w : World) (hp : tmps.getD p undef = .pointer (some ⟨b, 0, none⟩)) (hl : (loadVar ty ⟨b, 0, none⟩).run P w = .ok v w) : (results fn tmps).run P w = .ok v w := by
  have hp2 : tmps[p]?.getD undef = .pointer (some ⟨b, 0, none⟩) := by simpa using hp
  simp [results, h, hp2, hl, asAddr]
theorem size_sets (b : Nat) : ∀ (vs : List Value) (o : Nat) (w : World), (w.setCells b o vs).heap.size = w.heap.size
  | [], _, _ => rfl
  | v :: vs, o, w => by
    show ((w.setCell ⟨b, o, none⟩ v).setCells b (o + 1) vs).heap.size = _
    rw [size_sets b vs]
    simp [World.setCell]
theorem heap_sets (b : Nat) : ∀ (vs : List Value) (o : Nat) (w : World) (g : Nat), g ≠ b → (w.setCells b o vs).heap[g]? = w.heap[g]?
  | [], _, _, _, _ => rfl
  | v :: vs, o, w, g, hg => by
    show ((w.setCell ⟨b, o, none⟩ v).setCells b (o + 1) vs).heap[g]? = _
    rw [heap_sets b vs _ _ g hg]
    exact Below.heap_setCell w ⟨b, o, none⟩ v g hg
theorem bel_sets {B b : Nat} (hb : B ≤ b) : ∀ (vs : List Value) (o : Nat) {w w' : World}, Below B w w' → Below B w (w'.setCells b o vs)
  | [], _, _, _, h => h
  | v :: vs, o, _, _, h => bel_sets hb vs (o + 1) (h.setCell (p := ⟨b, o, none⟩) hb v)
/-- What is new to w may be written. -/
theorem KP.sets {P : Nat} {w w1 : World} (h : KP P w w1) {R : Nat} (hR : w.heap.size ≤ R) (c : List Value) : KP P w (w1.setCells R 0 c) := by
  have hb : Below w.heap.size w1 (w1.setCells R 0 c) := bel_sets hR c 0 (Below.refl _ _)
  exact ⟨hb.os.trans h.os, hb.tape.trans h.tape, hb.output.trans h.output, by rw [size_sets]; exact h.size, fun g hg hp => (hb.block g hg).trans (h.blk g hg hp)⟩
theorem PsA.sets {P T : Nat} {w : World} {p : Ps} (h : PsA P T w p) {R : Nat} (h1 : P < R) (h2 : T < R) (c : List Value) : PsA P T (w.setCells R 0 c) p := h.keep (heap_sets R c 0 w P (by omega)) (heap_sets R c 0 w T (by omega))

/-- Signs that are written there. -/
theorem SgA.new (P : Nat) (w : World) (l : List (List UInt8)) (hl : l.length ≤ 1000000) (hP : P < w.heap.size) : SgA P (w.alloc (.cells (l.map fun x => .string (mkB x)).toArray 9)) (.slice (some ⟨w.heap.size, 0, none⟩) l.length l.length) l := by
  refine ⟨_, _, rfl, hl, fun _ => ⟨w.heap.size, rfl, by rw [World.size_alloc]; omega, by omega, fun j hj => ?_⟩⟩
  rw [Lib.cell_of_heap (heap_alloc_new w _)]
  simp [hj]

theorem tl_slice (T o n c : Nat) (h : n + 1 ≤ c) : ∃ a', (∀ W, (Instr.slice 48 (.slice (some ⟨T, o, none⟩) (n + 1) c) (some (.int .i64 1)) none none).run Tryz.prog W = .ok (.slice a' n (c - 1)) W) ∧ (0 < n → a' = some ⟨T, o + 4, none⟩) := by
  obtain ⟨i0, hi, hz0, hz1, hz2⟩ := info_p infT
  by_cases hc : c = 1
  · subst hc
    obtain rfl : n = 0 := by omega
    exact ⟨some ⟨T, o, none⟩, fun W => by simp [Instr.slice, run_underlying Tryz.underlying48, go_sem, sizeOf, typeInfo, hi, hz1], fun h => by omega⟩
  · exact ⟨some ⟨T, o + 4, none⟩, fun W => by
      have h9 : (1 : Int) ≤ (n : Int) + 1 := by omega
      simp [Instr.slice, run_underlying Tryz.underlying48, go_sem, sizeOf, typeInfo, hi, hz1, h9, hc], fun _ => rfl⟩
theorem PsA.take {P T : Nat} {w : World} {p : Ps} (h : PsA P T w p) {t : Tk} {r : List Tk} (hp : p.toks = t :: r) : ∃ o c a', w.cell? ⟨P, 0, none⟩ = some (.slice (some ⟨T, o, none⟩) (r.length + 1) c) ∧ w.frozen? ⟨P, 0, none⟩ = false ∧
    (∀ W, (Instr.slice 48 (.slice (some ⟨T, o, none⟩) (r.length + 1) c) (some (.int .i64 1)) none none).run Tryz.prog W = .ok (.slice a' r.length (c - 1)) W) ∧ PsA P T (w.setCell ⟨P, 0, none⟩ (.slice a' r.length (c - 1))) p.adv := by
  obtain ⟨a, c, o, h1, h2, h3, h4, h5, h6, h7, h8⟩ := h
  rw [hp] at h1 h2 h4 h5
  obtain rfl := h4 (by simp)
  obtain ⟨a', q1, q2⟩ := tl_slice T o r.length c h2
  refine ⟨o, c, a', by rw [Lib.cell_of_heap h1]; rfl, Lib.frozen_of_heap h1 0, q1, a', c - 1, o + 4, ?_⟩
  have e : p.adv.toks = r := by unfold Ps.adv; rw [hp]; rfl
  rw [e]
  rw [List.length_cons] at h2 h5
  refine ⟨?_, by omega, by omega, q2, fun j hj => ?_, h6, by simp [World.setCell]; exact h7, h8⟩
  · rw [Go.Joins.block_setCell h1]; rfl
  · have := h5 (j + 4) (by omega)
    rw [show (tcs (t :: r))[j + 4]? = (tcs r)[j]? from rfl] at this
    rw [← this]
    have e2 := Below.heap_setCell w ⟨P, 0, none⟩ (.slice a' r.length (c - 1)) T h6
    simp [World.cell?, e2, Nat.add_comm, Nat.add_left_comm]
theorem PsA.ltT {P T : Nat} {w : World} {p : Ps} (h : PsA P T w p) : T < w.heap.size := by obtain ⟨_, _, _, _, _, _, _, _, _, h7, _⟩ := h; exact h7
theorem sees_cons {p : Ps} {l : List (List UInt8)} (h : p.sees l = true) : ∃ t r, p.toks = t :: r := by
  cases hp : p.toks with
  | nil => unfold Ps.sees Ps.nx isS at h; rw [hp] at h; simp at h
  | cons t r => exact ⟨t, r, rfl⟩
theorem adv_of {p : Ps} {t : Tk} {r : List Tk} (hp : p.toks = t :: r) : p.nx = t := by unfold Ps.nx; rw [hp]

set_option maxHeartbeats 4000000 in
set_option maxRecDepth 100000 in
theorem passSign_any {P T : Nat} {w : World} {p : Ps} (h : PsA P T w p) (x : List UInt8) :
    Calls Tryz.prog 72 #[pt P, .string (mkB x)] w fun e w' => e = .returned (.bool (p.sees [x])) ∧ KP P w w' ∧ PsA P T w' (bif p.sees [x] then p.adv else p) := by
  have hPl := h.lt
  have hTl := h.ltT
  have hW := h.up (alB w (.cells #[.string (mkB x)] 9))
  have HS : Hid (Calls Tryz.prog 44 #[pt P, .slice (some ⟨w.heap.size, 0, none⟩) 1 1] (w.alloc (.cells #[.string (mkB x)] 9)) fun e w' => e = .returned (.bool (p.sees [x])) ∧ PsA P T w' p ∧ KP P w w') := by
    refine (seesSign_any hW (SgA.new P w [x] (by simp) hPl)).mono ?_
    rintro e w' ⟨a, b⟩
    exact ⟨a, hW.up b, (KP.of_below (alB w _)).trans (KP.of_below b)⟩
  clear h hW
  cases hb : p.sees [x] with
  | false =>
    rw [hb] at HS
    go_enter Tryz.func72, Tryz.ntmps72
    go_wp2_with (go_at_call 44; refine HS.out.mono ?_; rintro e w1 ⟨rfl, hb1⟩)
    go_ret
    exact ⟨rfl, hb1.2, hb1.1⟩
  | true =>
    rw [hb] at HS
    obtain ⟨t, r, hp⟩ := sees_cons hb
    go_enter Tryz.func72, Tryz.ntmps72
    go_wp2_with fail
    refine HS.out.mono ?_
    rintro e w1 ⟨rfl, h1, hk⟩
    obtain ⟨o, c, a', c0, f0, hsl, hT⟩ := h1.take hp
    have HT : Hid (PsA P T (w1.setCell ⟨P, 0, none⟩ (.slice a' r.length (c - 1))) p.adv) := hT
    have HK : Hid (KP P w w1) := hk
    clear hT h1 hk hp HS
    go_wp2
    go_ret
    exact ⟨rfl, HK.out.setCell 0 _, HT.out⟩

set_option maxHeartbeats 4000000 in
set_option maxRecDepth 100000 in
theorem takeSign_any {P T : Nat} {w : World} {p : Ps} (h : PsA P T w p) (x : List UInt8) {z : Except Ft (Unit × Ps)} (hz : tkS x p = some z) :
    Calls Tryz.prog 69 #[pt P, .string (mkB x)] w (PoA P T (fun _ _ v => v = .tuple #[]) w z) := by
  have HS := passSign_any h x
  clear h
  unfold tkS at hz
  cases hb : p.sees [x] with
  | false =>
    rw [hb] at HS hz
    cases hz
    go_enter Tryz.func69, Tryz.ntmps69
    go_wp2_with fail
    refine HS.mono ?_
    rintro e w1 ⟨rfl, hk, h1⟩
    have HG := giveUpIf_any h1 true 1
    go_wp2_with fail
    refine HG.mono ?_
    rintro e w2 ⟨rfl, hb2⟩
    exact ⟨rfl, rfl, hk.trans (KP.of_below hb2)⟩
  | true =>
    rw [hb] at HS hz
    cases hz
    go_enter Tryz.func69, Tryz.ntmps69
    go_wp2_with fail
    refine HS.mono ?_
    rintro e w1 ⟨rfl, hk, h1⟩
    have HG := giveUpIf_any h1 false 1
    go_wp2_with fail
    refine HG.mono ?_
    rintro e w2 ⟨rfl, hb2⟩
    go_wp2
    go_end0
    exact ⟨_, rfl, rfl, h1.up hb2, hk.trans (KP.of_below hb2)⟩

set_option maxHeartbeats 4000000 in
set_option maxRecDepth 100000 in
theorem take2_any {P T : Nat} {w : World} {p : Ps} (h : PsA P T w p) (k : Nat) (hk0 : k ≠ 0) {z : Except Ft (Tk × Ps)} (hz : tkK k p = some z) :
    Calls Tryz.prog 49 #[pt P, .int .i64 k] w (PoA P T (fun _ t v => v = .agg #[.int .i64 t.kind, .string (mkB t.text), .int .i64 t.num, .int .i64 t.pos]) w z) := by
  have hPl := h.lt
  have hTl := h.ltT
  have hW := h.up (alB w tz)
  have HS : Hid (Calls Tryz.prog 80 #[pt P, .int .i64 k] (w.alloc tz) fun e w' => e = .returned (.bool (p.nx.kind == k)) ∧ PsA P T w' p ∧ KP P w w' ∧ w'.heap[w.heap.size]? = some tz) := by
    refine (sees2_any hW k).mono ?_
    rintro e w' ⟨a, b⟩
    exact ⟨a, hW.up b, (KP.of_below (alB w _)).trans (KP.of_below b), (b.block _ (by rw [World.size_alloc]; omega)).trans (heap_alloc_new w _)⟩
  clear h hW
  unfold tkK at hz
  cases hb : p.nx.kind == k with
  | false =>
    rw [hb] at HS hz
    cases hz
    go_enter Tryz.func49, Tryz.ntmps49
    go_wp2_with fail
    refine HS.out.mono ?_
    rintro e w1 ⟨rfl, h1, hk, _⟩
    have HG := giveUpIf_any h1 true 1
    go_wp2_with fail
    refine HG.mono ?_
    rintro e w2 ⟨rfl, hb2⟩
    exact ⟨rfl, rfl, hk.trans (KP.of_below hb2)⟩
  | true =>
    rw [hb] at HS hz
    cases hz
    have hne : ∃ t r, p.toks = t :: r := by
      cases hp : p.toks with
      | nil => unfold Ps.nx at hb; rw [hp] at hb; simp at hb; omega
      | cons t r => exact ⟨t, r, rfl⟩
    obtain ⟨t, r, hp⟩ := hne
    rw [adv_of hp] at *
    go_enter Tryz.func49, Tryz.ntmps49
    go_wp2_with fail
    refine HS.out.mono ?_
    rintro e w1 ⟨rfl, h1, hk, hr⟩
    have HG := giveUpIf_any h1 false 1
    go_wp2_with fail
    refine HG.mono ?_
    rintro e w2 ⟨rfl, hb2⟩
    have h2 := h1.up hb2
    have HN := next_any h2
    have hk2 := hk.trans (KP.of_below hb2)
    have hr2 := (hb2.block _ (Array.getElem?_eq_some_iff.1 hr).1).trans hr
    rw [adv_of hp] at HN
    clear h1 hk hr hb2 HS
    go_wp2_with fail
    refine HN.mono ?_
    rintro e w3 ⟨rfl, hb3⟩
    have h3 := (h2.up hb3).up (alB w3 (.cells #[.int .i64 t.kind, .string (mkB t.text), .int .i64 t.num, .int .i64 t.pos] 84))
    have HK3 : Hid (KP P w (w3.alloc (.cells #[.int .i64 t.kind, .string (mkB t.text), .int .i64 t.num, .int .i64 t.pos] 84))) := (hk2.trans (KP.of_below hb3)).trans (KP.of_below (alB w3 _))
    have hr3 := (hb3.block _ (Array.getElem?_eq_some_iff.1 hr2).1).trans hr2
    have hs3 : w.heap.size < w3.heap.size := (Array.getElem?_eq_some_iff.1 hr3).1
    obtain ⟨o, c, a', c0, f0, hsl, hT⟩ := h3.take hp
    have hr5 : ((w3.alloc (.cells #[.int .i64 t.kind, .string (mkB t.text), .int .i64 t.num, .int .i64 t.pos] 84)).setCell ⟨P, 0, none⟩ (.slice a' r.length (c - 1))).heap[w.heap.size]? = some tz := (Below.heap_setCell _ ⟨P, 0, none⟩ _ _ (by show ¬ w.heap.size = P; omega)).trans ((heap_al w3 _ _ hs3).trans hr3)
    have hx : ((w3.alloc (.cells #[.int .i64 t.kind, .string (mkB t.text), .int .i64 t.num, .int .i64 t.pos] 84)).setCell ⟨P, 0, none⟩ (.slice a' r.length (c - 1))).heap[w3.heap.size]? = some (.cells #[.int .i64 t.kind, .string (mkB t.text), .int .i64 t.num, .int .i64 t.pos] 84 (0, 0)) := (Below.heap_setCell _ ⟨P, 0, none⟩ _ _ (by show ¬ w3.heap.size = P; omega)).trans (heap_alloc_new w3 _)
    obtain ⟨q, hq⟩ : ∃ q, q = tc t := ⟨_, rfl⟩
    have hql : q.length = 4 := by rw [hq]; rfl
    have hqa : q.toArray.size = 4 := hql
    have hq1 : ∀ v ∈ q, v.oneCell' = true := by rw [hq]; exact tc_one t
    have hrg : ((w3.alloc (.cells #[.int .i64 t.kind, .string (mkB t.text), .int .i64 t.num, .int .i64 t.pos] 84)).setCell ⟨P, 0, none⟩ (.slice a' r.length (c - 1))).rangeAt w3.heap.size 0 q := fun j v hv => by
      rw [Nat.zero_add, Lib.cell_of_heap hx, ← hv, hq]
      simp [tc]
    have hi4 : (Tryz.prog.info? 84).map (·.size) = some 4 := by kernel_rfl
    obtain ⟨-, hld⟩ := stN hr5 (c := q) (by rw [hql]; rfl) (by rw [hql]; exact hi4) hq1 Tryz.underlying84 rfl
    have HZ : Hid (PsA P T (((w3.alloc (.cells #[.int .i64 t.kind, .string (mkB t.text), .int .i64 t.num, .int .i64 t.pos] 84)).setCell ⟨P, 0, none⟩ (.slice a' r.length (c - 1))).setCells w.heap.size 0 q) p.adv ∧ KP P w (((w3.alloc (.cells #[.int .i64 t.kind, .string (mkB t.text), .int .i64 t.num, .int .i64 t.pos] 84)).setCell ⟨P, 0, none⟩ (.slice a' r.length (c - 1))).setCells w.heap.size 0 q)) := ⟨hT.sets hPl hTl _, (HK3.out.setCell 0 _).sets (Nat.le_refl _) _⟩
    have HL : Hid _ := hld
    have HX : Hid (_ ∧ (∀ v ∈ q, v.oneCell' = true) ∧ q.length = 4) := ⟨hrg, hq1, hql⟩
    have HTH : Hid (((w3.alloc (.cells #[.int .i64 t.kind, .string (mkB t.text), .int .i64 t.num, .int .i64 t.pos] 84)).setCell ⟨P, 0, none⟩ (.slice a' r.length (c - 1))).there w.heap.size 0 q.toArray.size) := by rw [hqa]; exact there_of hr5
    have HI : Hid ((Tryz.prog.info? 84).map (·.size) = some q.length ∧ (Tryz.prog.info? 84).map (·.size) = some q.toArray.size) := ⟨by rw [hql]; exact hi4, by rw [hqa]; exact hi4⟩
    have HQ : Hid (q = tc t) := hq
    clear hT h3 h2 hk2 hr2 hb3 HN hld HK3 hr5 hx hrg hq1 hql hi4 hq hqa
    go_wp2_with (first
      | (refine wpList_load_mid rfl 84 (Operand.tmp 5) rfl w3.heap.size 0 rfl q _ HX.out.1 Tryz.underlying84 rfl HI.out.1 ?_)
      | (refine wpList_store_mid rfl 84 (Operand.tmp 4) (Operand.tmp 22) rfl w.heap.size 0 q.toArray rfl rfl HTH.out HI.out.2 (all_oneCell_toArray HX.out.2.1) ?_)
      | fail)
    refine bodyPost_ret (v := .agg q.toArray) (res_one Tryz.results49 _ _ rfl HL.out) rfl ⟨_, rfl, by rw [HQ.out]; rfl, HZ.out.1, HZ.out.2⟩
end Go.Proofs.YtcaeeackccgclaaGreatDoor

/- The splitter comes so far in, or out to there. -/
namespace Go.Proofs.YtcaeeackccgclaaGreatDoor
open Go.RowKit Go.Shelf

theorem icut (g n cap k : Nat) (hk : k ≤ n) (hc : n ≤ cap) (W : World) : (Instr.slice 70 (.slice (some ⟨g, 0, none⟩) n cap) none (some (.int .i64 (k : Int))) none).run Tryz.prog W = .ok (.slice (some ⟨g, 0, none⟩) k cap) W := by
  have hkc : k ≤ cap := Nat.le_trans hk hc
  simp [Instr.slice, Instr.sliceBounds, Instr.sliceBound, run_underlying Tryz.underlying70, asIntOf, hkc]
  intro _
  simp [Addr.add]
theorem own_pop {w : World} {B g cap m : Nat} {e : TypeId} {xs : List Value} (h : w.ownsRow B e 1 (.slice (some ⟨g, 0, none⟩) (m + 1) cap) (m + 1) xs) : w.ownsRow B e 1 (.slice (some ⟨g, 0, none⟩) m cap) m (xs.take m) := by
  rcases h.2 with ⟨hv, _⟩ | ⟨g', cap', cur, hv, hb, hg, hc, hm, hz, ht⟩
  · cases hv
  · injection hv with e1 _ e3
    injection e1 with e1
    injection e1 with e1
    subst e1
    subst e3
    have hx := h.1
    refine ⟨by rw [List.length_take]; omega, .inr ⟨g, cap, cur, rfl, hb, hg, by omega, hm, hz, ?_⟩⟩
    rw [← ht, List.take_take]
    congr 1
    omega
theorem own_cap {w : World} {B g cap n : Nat} {e : TypeId} {xs : List Value} (h : w.ownsRow B e 1 (.slice (some ⟨g, 0, none⟩) n cap) n xs) : n ≤ cap := by
  rcases h.2 with ⟨hv, _⟩ | ⟨g', cap', cur, hv, hb, hg, hc, _⟩
  · cases hv
  · injection hv with e1 _ e3
    subst e3
    exact hc
theorem new_int (W : World) (x : Nat) : ∀ (j : Nat) (u : Value), [Value.int .i64 (x : Int)][j]? = some u → (W.alloc (.cells #[.int .i64 (x : Int)] 3)).cell? ((⟨W.heap.size, 0, none⟩ : Addr).add j) = some u := by
  intro j u hj
  match j, hj with
  | 0, hj =>
    simp at hj
    subst hj
    rw [add0]
    exact al_at W _ _ _ 0 _ rfl rfl
/-- Behind an append to how far in one is. -/
theorem TS.push {B P : Nat} {L : List UInt8} {tv iv : Value} {w : World} {p : Sp} (h : TS B P L tv iv w p) (x : Nat) {W w1 w' : World} (hW : ∀ g : Nat, g < w.heap.size → W.heap[g]? = w.heap[g]?) (hWs : w.heap.size < W.heap.size) {g1 cap1 : Nat}
    (hown : w1.ownsRow B 3 1 (.slice (some ⟨g1, 0, none⟩) (p.ins.length + 1) cap1) (p.ins.length + 1) (ics p.ins.reverse ++ [.int .i64 x])) (hgrow : W.grownBy w1 iv.ownBlock) (hat : iv.ownBlock = some g1 ∨ g1 = W.heap.size)
    (hw : ∀ g : Nat, w'.heap[g]? = (w1.setCell ⟨P, 3, none⟩ (.slice (some ⟨g1, 0, none⟩) (p.ins.length + 1) cap1)).heap[g]?) : TS B P L tv (.slice (some ⟨g1, 0, none⟩) (p.ins.length + 1) cap1) w' { p with ins := x :: p.ins } := by
  have hP := h.lt
  have hgP : g1 ≠ P := by
    rcases hat with e | e
    · exact fun e2 => h.ni (by rw [e, e2])
    · omega
  have hgt : tv.ownBlock ≠ some g1 := by
    rcases hat with e | e
    · exact fun e2 => h.nn g1 e2 e
    · intro e2
      have := (h.ot.lt g1 e2).2
      omega
  have hb : w1.heap[P]? = w.heap[P]? := (hgrow.block P (by omega) (fun e => h.ni e.symm)).trans (hW P hP)
  have hot : w1.ownsRow B 84 4 tv p.toks.length (tcs p.toks) := own_heap h.ot fun g hg => (hgrow.block g (by have := (h.ot.lt g hg).2; omega) (fun e => h.nn g hg e.symm)).trans (hW g (h.ot.lt g hg).2)
  have k : ∀ g : Nat, g ≠ P → w'.heap[g]? = w1.heap[g]? := fun g hg => (hw g).trans (Below.heap_setCell w1 ⟨P, 3, none⟩ _ g hg)
  refine ⟨h.hB, ?_, own_heap hot fun g hg => k g fun e => h.nt (by rw [hg, e]), ?_, h.nt, ?_, ?_⟩
  · rw [hw P, Go.Joins.block_setCell (hb.trans h.blk)]
    rfl
  · show w'.ownsRow _ _ _ _ (x :: p.ins).length (ics (x :: p.ins).reverse)
    rw [List.length_cons, List.reverse_cons, ics_snoc]
    exact own_heap hown fun g hg => k g (by simp [Value.ownBlock] at hg; subst hg; exact hgP)
  · simp [Value.ownBlock]
    exact hgP
  · intro a ha hb'
    simp [Value.ownBlock] at hb'
    subst hb'
    exact hgt ha

/-- How far in one is, plain: something always, nought at the bottom. -/
structure InOk (p : Sp) : Prop where
  ne : p.ins ≠ []
  bot : p.ins.getLast? = some 0
theorem InOk.two {p : Sp} (h : InOk p) (i : Nat) (hi : i < p.top) : 2 ≤ p.ins.length := by
  match hp : p.ins with
  | [] => exact absurd hp h.ne
  | [a] =>
    have := h.bot
    rw [hp] at this
    simp at this
    unfold Sp.top at hi
    rw [hp, this] at hi
    simp at hi
  | a :: b :: r => simp
theorem InOk.pop {p : Sp} (h : InOk p) (h2 : 2 ≤ p.ins.length) (q : Sp) (hq : q.ins = p.ins.drop 1) : InOk q := by
  match hp : p.ins, h2 with
  | a :: b :: r, _ =>
    have hb := h.bot
    rw [hp] at hb hq
    exact ⟨by rw [hq]; simp, by rw [hq]; simpa using hb⟩
theorem InOk.push {p : Sp} (h : InOk p) (x : Nat) (q : Sp) (hq : q.ins = x :: p.ins) : InOk q := by
  match hp : p.ins with
  | [] => exact absurd hp h.ne
  | a :: r =>
    have hb := h.bot
    rw [hp] at hb hq
    exact ⟨by rw [hq]; simp, by rw [hq]; simpa using hb⟩
def lenAt (P : Nat) (w : World) : Nat := match w.cell? ⟨P, 3, none⟩ with | some (.slice _ n _) => n | _ => 0
theorem TS.lenAt {B P : Nat} {L : List UInt8} {tv iv : Value} {w : World} {p : Sp} (h : TS B P L tv iv w p) (h0 : 0 < p.ins.length) : lenAt P w = p.ins.length := by
  obtain ⟨g, cap, hv, _, _⟩ := h.oi.form h0
  subst hv
  unfold Go.Proofs.YtcaeeackccgclaaGreatDoor.lenAt
  rw [h.c3]
theorem outF_step (i f : Nat) (q : Sp) (h : i < q.top) : outF i (f + 1) q = outF i f ({ q with ins := q.ins.drop 1 }.add 8) := by
  show (if i < q.top then _ else _) = _
  rw [if_pos h]
theorem outF_stop (i f : Nat) (q : Sp) (h : ¬ i < q.top) : outF i f q = q := by
  cases f with
  | zero => rfl
  | succ f =>
    show (if i < q.top then _ else _) = _
    rw [if_neg h]

set_option maxHeartbeats 4000000 in
set_option maxRecDepth 100000 in
/-- Out to there: the loop. -/
theorem come_any {B P : Nat} {L : List UInt8} {tv iv : Value} {w : World} {p : Sp} (h : TS B P L tv iv w p) (hk : InOk p) (i : Nat) (hn : p.ins.length + p.toks.length ≤ 90000) :
    Calls Tryz.prog 43 #[.pointer (some ⟨P, 0, none⟩), .int .i64 i] w fun e w' => e = .returned (.tuple #[]) ∧ ∃ tv' iv', TS B P L tv' iv' w' (p.come i) ∧ Below B w w' := by
  have h0 : 0 < p.ins.length := List.length_pos_iff.2 hk.ne
  have HIn : Hid (Calls Tryz.prog 64 #[.pointer (some ⟨P, 0, none⟩)] w fun e w' => e = .returned (.int .i64 p.top) ∧ ∃ n, w' = w.drewN n) := in_any h h0 (by omega)
  by_cases htop : p.top < i
  · obtain ⟨i0, hi0, hz0, hz1, hz2⟩ := info_p infI
    have hcome : p.come i = outF i (({ p with ins := i :: p.ins } : Sp).add 7).ins.length (({ p with ins := i :: p.ins } : Sp).add 7) := by
      unfold Sp.come
      simp only [if_pos htop]
    have hti : (p.top : Int) < (i : Int) := by omega
    have HH : Hid (TS B P L tv iv w p) := h
    have HIK0 : Hid (InOk (({ p with ins := i :: p.ins } : Sp).add 7)) := hk.push i _ rfl
    have c3 := h.c3
    have hPl := h.lt
    have hBl : B ≤ w.heap.size := by have := h.hB; omega
    have HOW : Hid (∀ n, ((w.drewN n).alloc (.cells #[.int .i64 (i : Int)] 3)).ownsRow B 3 1 iv p.ins.length (ics p.ins.reverse)) := fun n => (h.drewN n).oi.alloc _
    have q4 : ∀ n, ((w.drewN n).alloc (.cells #[.int .i64 (i : Int)] 3)).heap.size = w.heap.size + 1 := fun n => by rw [World.size_alloc]; rfl
    have HPUT : Hid (∀ {n : Nat} {w1 w' : World} {g1 cap1 : Nat}, w1.ownsRow B 3 1 (.slice (some ⟨g1, 0, none⟩) (p.ins.length + 1) cap1) (p.ins.length + 1) (ics p.ins.reverse ++ [.int .i64 i]) → ((w.drewN n).alloc (.cells #[.int .i64 (i : Int)] 3)).grownBy w1 iv.ownBlock → (iv.ownBlock = some g1 ∨ g1 = w.heap.size + 1) → (∀ g : Nat, w'.heap[g]? = (w1.setCell ⟨P, 3, none⟩ (.slice (some ⟨g1, 0, none⟩) (p.ins.length + 1) cap1)).heap[g]?) → TS B P L tv (.slice (some ⟨g1, 0, none⟩) (p.ins.length + 1) cap1) w' { p with ins := i :: p.ins }) := by
      intro n w1 w' g1 cap1 a1 a2 a3 a4
      exact HH.out.push i (W := (w.drewN n).alloc (.cells #[.int .i64 (i : Int)] 3)) (fun g hg => heap_al (w.drewN n) _ g hg) (by rw [q4]; omega) a1 a2 (by rw [q4]; exact a3) a4
    have HP1 : Hid (∀ {n : Nat} {w1 : World}, ((w.drewN n).alloc (.cells #[.int .i64 (i : Int)] 3)).grownBy w1 iv.ownBlock → w1.cell? ⟨P, 3, none⟩ = some iv ∧ w1.frozen? ⟨P, 3, none⟩ = false ∧ Below B w w1) := by
      intro n w1 hg
      have e1 : w1.heap[P]? = w.heap[P]? := (hg.block P (by rw [q4]; omega) (fun e => HH.out.ni e.symm)).trans (heap_al (w.drewN n) _ P hPl)
      exact ⟨by rw [Lib.cell_of_heap (e1.trans HH.out.blk)]; rfl, Lib.frozen_of_heap (e1.trans HH.out.blk) 3, ((below_drewN (Below.refl B w) n).alloc hBl _).grown hg (by rw [q4]; omega) (fun j hj => (HH.out.oi.lt j hj).1)⟩
    have q1 : p.ins.length + 1 ≤ maxLen := by unfold maxLen; omega
    have q2 : (p.ins.length + 1) * 8 ≤ 140737488355328 := by omega
    have HBd0 : Hid ((({ p with ins := i :: p.ins } : Sp).add 7).ins.length + (({ p with ins := i :: p.ins } : Sp).add 7).toks.length ≤ 90002 ∧ p.toks.length ≤ 90000) := by
      refine ⟨?_, by omega⟩
      show (i :: p.ins).length + (p.toks ++ [_]).length ≤ 90002
      rw [List.length_cons, List.length_append]
      simp only [List.length_cons, List.length_nil]
      omega
    have HCM : Hid (p.come i = outF i (({ p with ins := i :: p.ins } : Sp).add 7).ins.length (({ p with ins := i :: p.ins } : Sp).add 7)) := hcome
    generalize p.top = tp at *
    clear h htop hcome
    go_enter Tryz.func43, Tryz.ntmps43
    go_wp2_with fail
    refine HIn.out.mono ?_
    rintro e w1 ⟨rfl, n1, rfl⟩
    go_wp2_with (at_builtin; refine wpList_append_lies _ rfl _ _ 70 rfl B 3 i0 (.int .i64 0) 1 8 Tryz.underlying70 hi0 hz0 hz1 hz2 rfl (by decide) iv p.ins.length (ics p.ins.reverse) rfl (HOW.out n1) ⟨_, 0, none⟩ 1 1 [.int .i64 (i : Int)] rfl rfl ?c1 ?c2 (by decide) q1 q2 ?c5 (w.heap.size + 1) ?c6 ?_)
    case c1 => exact new_int (w.drewN n1) i
    case c2 => intro u hu; simp at hu; subst hu; rfl
    case c5 => rw [q4]; omega
    case c6 => exact q4 n1
    intro g1 cap1 w2 hown2 hgrow2 hat2 hlt2
    obtain ⟨d3, f3, hb2⟩ := HP1.out hgrow2
    have HT2 : Hid (TS B P L tv (.slice (some ⟨g1, 0, none⟩) (p.ins.length + 1) cap1) (w2.setCell ⟨P, 3, none⟩ (.slice (some ⟨g1, 0, none⟩) (p.ins.length + 1) cap1)) { p with ins := i :: p.ins } ∧ Below B w (w2.setCell ⟨P, 3, none⟩ (.slice (some ⟨g1, 0, none⟩) (p.ins.length + 1) cap1))) := ⟨HPUT.out hown2 hgrow2 hat2 (fun g => rfl), hb2.setCell (p := ⟨P, 3, none⟩) HH.out.hB _⟩
    clear hown2 hgrow2 hat2 hlt2 hb2
    go_wp2_with fail
    refine (add_any HT2.out.1 7 (by show p.toks.length ≤ 100000; have := HBd0.out.2; omega)).mono ?_
    rintro e w3 ⟨rfl, tv3, hts3, hb3⟩
    obtain ⟨q, hq⟩ : ∃ q, q = ({ p with ins := i :: p.ins } : Sp).add 7 := ⟨_, rfl⟩
    obtain ⟨tv1, htv1⟩ : ∃ v, v = tv3 := ⟨_, rfl⟩
    obtain ⟨iv1, hiv1⟩ : ∃ v, v = Value.slice (some ⟨g1, 0, none⟩) (p.ins.length + 1) cap1 := ⟨_, rfl⟩
    have HT1 : Hid (TS B P L tv1 iv1 w3 q ∧ Below B w w3 ∧ InOk q ∧ q.ins.length + q.toks.length ≤ 90002 ∧ p.come i = outF i q.ins.length q) := by
      rw [hq, htv1, hiv1]
      exact ⟨hts3, HT2.out.2.trans hb3, HIK0.out, HBd0.out.1, HCM.out⟩
    clear hq htv1 hiv1 hts3 hb3 d3 f3 c3
    go_wp2
    go_loopw [20] (fun _ wr => ∃ (r : Sp) (tv2 iv2 : Value), Hid (TS B P L tv2 iv2 wr r ∧ Below B w wr ∧ InOk r ∧ r.ins.length + r.toks.length ≤ 90002 ∧ p.come i = outF i r.ins.length r)) (fun _ wr => lenAt P wr)
    case atStart => exact ⟨q, tv1, iv1, HT1⟩
    case round =>
      obtain ⟨r, tv2, iv2, HR⟩ := hrel
      clear HT1
      have hr0 : 0 < r.ins.length := List.length_pos_iff.2 HR.out.2.2.1.ne
      have HIn2 : Hid (Calls Tryz.prog 64 #[.pointer (some ⟨P, 0, none⟩)] wr fun e w' => e = .returned (.int .i64 r.top) ∧ ∃ n, w' = wr.drewN n) := in_any HR.out.1 hr0 (by have := HR.out.2.2.2.1; omega)
      by_cases hlt : i < r.top
      · have hlti : (i : Int) < (r.top : Int) := by omega
        have h2 := HR.out.2.2.1.two i hlt
        obtain ⟨g, cap, hv, hg1, hg2⟩ := HR.out.1.oi.form hr0
        subst hv
        obtain ⟨m, hm⟩ : ∃ m, r.ins.length = m + 1 := ⟨r.ins.length - 1, by omega⟩
        have hcap := own_cap HR.out.1.oi
        have hml : m + 1 ≤ 90002 := by have := HR.out.2.2.2.1; omega
        have d3 : wr.cell? ⟨P, 3, none⟩ = some (.slice (some ⟨g, 0, none⟩) (m + 1) cap) := by have := HR.out.1.c3; rwa [hm] at this
        have f3 := HR.out.1.fz 3
        have hsl := icut g (m + 1) cap m (by omega) (by omega)
        have hdr : (r.ins.drop 1).length = m := by rw [List.length_drop]; omega
        have HPOP : Hid (∀ (n : Nat) (w' : World), (∀ gg : Nat, w'.heap[gg]? = ((wr.drewN n).setCell ⟨P, 3, none⟩ (.slice (some ⟨g, 0, none⟩) m cap)).heap[gg]?) → TS B P L tv2 (.slice (some ⟨g, 0, none⟩) m cap) w' { r with ins := r.ins.drop 1 }) := fun n w' hw => by
          have ho := (HR.out.1.drewN n).oi
          rw [hm] at ho
          have hp2 := own_pop ho
          have e : (ics r.ins.reverse).take m = ics (r.ins.drop 1).reverse := by
            unfold ics
            rw [← List.map_take, List.reverse_drop, hm]
            simp
          rw [e] at hp2
          exact (HR.out.1.drewN n).set 3 _ (q := { r with ins := r.ins.drop 1 }) (by rw [hm]; rfl) HR.out.1.ot (by show World.ownsRow _ _ _ _ _ (r.ins.drop 1).length _; rw [hdr]; exact hp2) HR.out.1.nt (by have := HR.out.1.ni; simpa [Value.ownBlock] using this) (fun a ha => by have := HR.out.1.nn a ha; simpa [Value.ownBlock] using this) hw
        have HNX : Hid (p.come i = outF i m ({ r with ins := r.ins.drop 1 }.add 8)) := by
          show _ = _
          rw [HR.out.2.2.2.2, hm, outF_step i m r hlt]
        have HIK : Hid (InOk ({ r with ins := r.ins.drop 1 }.add 8)) := HR.out.2.2.1.pop h2 _ rfl
        have HBd : Hid (({ r with ins := r.ins.drop 1 }.add 8 : Sp).ins.length = m ∧ m + ({ r with ins := r.ins.drop 1 }.add 8 : Sp).toks.length ≤ 90002 ∧ r.toks.length ≤ 90002) := by
          refine ⟨hdr, ?_, ?_⟩
          · have := HR.out.2.2.2.1
            show m + (r.toks ++ [_]).length ≤ 90002
            rw [List.length_append]
            simp only [List.length_cons, List.length_nil]
            omega
          · have := HR.out.2.2.2.1
            omega
        have HM : Hid (r.ins.length = m + 1) := hm
        generalize htp : r.top = tp at *
        have hmi : ((m + 1 : Nat) : Int) ≤ 90002 := by omega
        have j0 : (((m + 1 : Nat) : Int) - 1) = (m : Int) := by omega
        have j1 : IntKind.i64.wrap (((m + 1 : Nat) : Int) - 1) = (m : Int) := by rw [IntKind.wrap_i64]; omega
        have j2 : (0 : Int) ≤ (m : Int) := by omega
        clear hlt htp h2 hm hcap hdr
        go_wp2_with fail
        refine HIn2.out.mono ?_
        rintro e w2 ⟨rfl, n2, rfl⟩
        go_wp2
        go_region
        all_goals
          have HT3 : Hid (TS B P L tv2 (.slice (some ⟨g, 0, none⟩) m cap) ((wr.drewN (n2 + 1)).setCell ⟨P, 3, none⟩ (.slice (some ⟨g, 0, none⟩) m cap)) { r with ins := r.ins.drop 1 } ∧ Below B w ((wr.drewN (n2 + 1)).setCell ⟨P, 3, none⟩ (.slice (some ⟨g, 0, none⟩) m cap))) := ⟨HPOP.out (n2 + 1) _ (fun gg => rfl), (below_drewN HR.out.2.1 (n2 + 1)).setCell (p := ⟨P, 3, none⟩) HR.out.1.hB _⟩
          generalize (wr.drewN (n2 + 1)).setCell ⟨P, 3, none⟩ (.slice (some ⟨g, 0, none⟩) m cap) = w3 at *
          go_wp2_with fail
          refine (add_any HT3.out.1 8 (by show r.toks.length ≤ 100000; have := HBd.out.2.2; omega)).mono ?_
          rintro e w4 ⟨rfl, tv4, hts4, hb4⟩
          have HT4 : Hid (TS B P L tv4 (.slice (some ⟨g, 0, none⟩) m cap) w4 ({ r with ins := r.ins.drop 1 }.add 8) ∧ Below B w w4) := ⟨hts4, HT3.out.2.trans hb4⟩
          clear hts4 hb4
          go_wp2
          have HZ : Hid (TS B P L tv4 (.slice (some ⟨g, 0, none⟩) m cap) w4 ({ r with ins := r.ins.drop 1 }.add 8) ∧ Below B w w4 ∧ InOk ({ r with ins := r.ins.drop 1 }.add 8) ∧ ({ r with ins := r.ins.drop 1 }.add 8 : Sp).ins.length + ({ r with ins := r.ins.drop 1 }.add 8 : Sp).toks.length ≤ 90002 ∧ p.come i = outF i ({ r with ins := r.ins.drop 1 }.add 8 : Sp).ins.length ({ r with ins := r.ins.drop 1 }.add 8)) := ⟨HT4.out.1, HT4.out.2, HIK.out, by rw [HBd.out.1]; exact HBd.out.2.1, by rw [HBd.out.1]; exact HNX.out⟩
          refine ⟨⟨{ r with ins := r.ins.drop 1 }.add 8, tv4, .slice (some ⟨g, 0, none⟩) m cap, HZ⟩, ?_⟩
          rw [HT4.out.1.lenAt (List.length_pos_iff.2 HIK.out.ne), HR.out.1.lenAt hr0, HBd.out.1, HM.out]
          exact Nat.lt_succ_self _
      · have hlti : (r.top : Int) ≤ (i : Int) := by omega
        have HX : Hid (p.come i = r) := by
          show _ = _
          rw [HR.out.2.2.2.2, outF_stop i _ r hlt]
        generalize r.top = tp at *
        clear hlt
        go_wp2_with fail
        refine HIn2.out.mono ?_
        rintro e w2 ⟨rfl, n2, rfl⟩
        go_wp2
        go_end0
        refine ⟨rfl, tv2, iv2, ?_, below_drewN HR.out.2.1 n2⟩
        rw [HX.out]
        exact HR.out.1.drewN n2
  · have hcome : p.come i = outF i p.ins.length p := by
      unfold Sp.come
      simp only [if_neg htop]
    have HT0 : Hid (∀ n, TS B P L tv iv (w.drewN n) p ∧ Below B w (w.drewN n) ∧ InOk p ∧ p.ins.length + p.toks.length ≤ 90002 ∧ p.come i = outF i p.ins.length p) := fun n => ⟨h.drewN n, below_drewN (Below.refl _ _) n, hk, by omega, hcome⟩
    have hti : (p.top : Int) ≥ (i : Int) := by omega
    have hdt : decide (p.top < i) = false := by simpa using htop
    generalize p.top = tp at *
    clear h htop hcome
    go_enter Tryz.func43, Tryz.ntmps43
    go_wp2_with fail
    refine HIn.out.mono ?_
    rintro e w1 ⟨rfl, n1, rfl⟩
    obtain ⟨q, hq⟩ : ∃ q, q = p := ⟨_, rfl⟩
    obtain ⟨tv1, htv1⟩ : ∃ v, v = tv := ⟨_, rfl⟩
    obtain ⟨iv1, hiv1⟩ : ∃ v, v = iv := ⟨_, rfl⟩
    have HT1 : Hid (TS B P L tv1 iv1 (w.drewN n1) q ∧ Below B w (w.drewN n1) ∧ InOk q ∧ q.ins.length + q.toks.length ≤ 90002 ∧ p.come i = outF i q.ins.length q) := by rw [hq, htv1, hiv1]; exact HT0.out n1
    clear hq htv1 hiv1
    go_wp2
    go_loopw [20] (fun _ wr => ∃ (r : Sp) (tv2 iv2 : Value), Hid (TS B P L tv2 iv2 wr r ∧ Below B w wr ∧ InOk r ∧ r.ins.length + r.toks.length ≤ 90002 ∧ p.come i = outF i r.ins.length r)) (fun _ wr => lenAt P wr)
    case atStart => exact ⟨q, tv1, iv1, HT1⟩
    case round =>
      obtain ⟨r, tv2, iv2, HR⟩ := hrel
      clear HT1
      have hr0 : 0 < r.ins.length := List.length_pos_iff.2 HR.out.2.2.1.ne
      have HIn2 : Hid (Calls Tryz.prog 64 #[.pointer (some ⟨P, 0, none⟩)] wr fun e w' => e = .returned (.int .i64 r.top) ∧ ∃ n, w' = wr.drewN n) := in_any HR.out.1 hr0 (by have := HR.out.2.2.2.1; omega)
      by_cases hlt : i < r.top
      · have hlti : (i : Int) < (r.top : Int) := by omega
        have h2 := HR.out.2.2.1.two i hlt
        obtain ⟨g, cap, hv, hg1, hg2⟩ := HR.out.1.oi.form hr0
        subst hv
        obtain ⟨m, hm⟩ : ∃ m, r.ins.length = m + 1 := ⟨r.ins.length - 1, by omega⟩
        have hcap := own_cap HR.out.1.oi
        have hml : m + 1 ≤ 90002 := by have := HR.out.2.2.2.1; omega
        have d3 : wr.cell? ⟨P, 3, none⟩ = some (.slice (some ⟨g, 0, none⟩) (m + 1) cap) := by have := HR.out.1.c3; rwa [hm] at this
        have f3 := HR.out.1.fz 3
        have hsl := icut g (m + 1) cap m (by omega) (by omega)
        have hdr : (r.ins.drop 1).length = m := by rw [List.length_drop]; omega
        have HPOP : Hid (∀ (n : Nat) (w' : World), (∀ gg : Nat, w'.heap[gg]? = ((wr.drewN n).setCell ⟨P, 3, none⟩ (.slice (some ⟨g, 0, none⟩) m cap)).heap[gg]?) → TS B P L tv2 (.slice (some ⟨g, 0, none⟩) m cap) w' { r with ins := r.ins.drop 1 }) := fun n w' hw => by
          have ho := (HR.out.1.drewN n).oi
          rw [hm] at ho
          have hp2 := own_pop ho
          have e : (ics r.ins.reverse).take m = ics (r.ins.drop 1).reverse := by
            unfold ics
            rw [← List.map_take, List.reverse_drop, hm]
            simp
          rw [e] at hp2
          exact (HR.out.1.drewN n).set 3 _ (q := { r with ins := r.ins.drop 1 }) (by rw [hm]; rfl) HR.out.1.ot (by show World.ownsRow _ _ _ _ _ (r.ins.drop 1).length _; rw [hdr]; exact hp2) HR.out.1.nt (by have := HR.out.1.ni; simpa [Value.ownBlock] using this) (fun a ha => by have := HR.out.1.nn a ha; simpa [Value.ownBlock] using this) hw
        have HNX : Hid (p.come i = outF i m ({ r with ins := r.ins.drop 1 }.add 8)) := by
          show _ = _
          rw [HR.out.2.2.2.2, hm, outF_step i m r hlt]
        have HIK : Hid (InOk ({ r with ins := r.ins.drop 1 }.add 8)) := HR.out.2.2.1.pop h2 _ rfl
        have HBd : Hid (({ r with ins := r.ins.drop 1 }.add 8 : Sp).ins.length = m ∧ m + ({ r with ins := r.ins.drop 1 }.add 8 : Sp).toks.length ≤ 90002 ∧ r.toks.length ≤ 90002) := by
          refine ⟨hdr, ?_, ?_⟩
          · have := HR.out.2.2.2.1
            show m + (r.toks ++ [_]).length ≤ 90002
            rw [List.length_append]
            simp only [List.length_cons, List.length_nil]
            omega
          · have := HR.out.2.2.2.1
            omega
        have HM : Hid (r.ins.length = m + 1) := hm
        generalize htp : r.top = tp at *
        have hmi : ((m + 1 : Nat) : Int) ≤ 90002 := by omega
        have j0 : (((m + 1 : Nat) : Int) - 1) = (m : Int) := by omega
        have j1 : IntKind.i64.wrap (((m + 1 : Nat) : Int) - 1) = (m : Int) := by rw [IntKind.wrap_i64]; omega
        have j2 : (0 : Int) ≤ (m : Int) := by omega
        clear hlt htp h2 hm hcap hdr
        go_wp2_with fail
        refine HIn2.out.mono ?_
        rintro e w2 ⟨rfl, n2, rfl⟩
        go_wp2
        go_region
        all_goals
          have HT3 : Hid (TS B P L tv2 (.slice (some ⟨g, 0, none⟩) m cap) ((wr.drewN (n2 + 1)).setCell ⟨P, 3, none⟩ (.slice (some ⟨g, 0, none⟩) m cap)) { r with ins := r.ins.drop 1 } ∧ Below B w ((wr.drewN (n2 + 1)).setCell ⟨P, 3, none⟩ (.slice (some ⟨g, 0, none⟩) m cap))) := ⟨HPOP.out (n2 + 1) _ (fun gg => rfl), (below_drewN HR.out.2.1 (n2 + 1)).setCell (p := ⟨P, 3, none⟩) HR.out.1.hB _⟩
          generalize (wr.drewN (n2 + 1)).setCell ⟨P, 3, none⟩ (.slice (some ⟨g, 0, none⟩) m cap) = w3 at *
          go_wp2_with fail
          refine (add_any HT3.out.1 8 (by show r.toks.length ≤ 100000; have := HBd.out.2.2; omega)).mono ?_
          rintro e w4 ⟨rfl, tv4, hts4, hb4⟩
          have HT4 : Hid (TS B P L tv4 (.slice (some ⟨g, 0, none⟩) m cap) w4 ({ r with ins := r.ins.drop 1 }.add 8) ∧ Below B w w4) := ⟨hts4, HT3.out.2.trans hb4⟩
          clear hts4 hb4
          go_wp2
          have HZ : Hid (TS B P L tv4 (.slice (some ⟨g, 0, none⟩) m cap) w4 ({ r with ins := r.ins.drop 1 }.add 8) ∧ Below B w w4 ∧ InOk ({ r with ins := r.ins.drop 1 }.add 8) ∧ ({ r with ins := r.ins.drop 1 }.add 8 : Sp).ins.length + ({ r with ins := r.ins.drop 1 }.add 8 : Sp).toks.length ≤ 90002 ∧ p.come i = outF i ({ r with ins := r.ins.drop 1 }.add 8 : Sp).ins.length ({ r with ins := r.ins.drop 1 }.add 8)) := ⟨HT4.out.1, HT4.out.2, HIK.out, by rw [HBd.out.1]; exact HBd.out.2.1, by rw [HBd.out.1]; exact HNX.out⟩
          refine ⟨⟨{ r with ins := r.ins.drop 1 }.add 8, tv4, .slice (some ⟨g, 0, none⟩) m cap, HZ⟩, ?_⟩
          rw [HT4.out.1.lenAt (List.length_pos_iff.2 HIK.out.ne), HR.out.1.lenAt hr0, HBd.out.1, HM.out]
          exact Nat.lt_succ_self _
      · have hlti : (r.top : Int) ≤ (i : Int) := by omega
        have HX : Hid (p.come i = r) := by
          show _ = _
          rw [HR.out.2.2.2.2, outF_stop i _ r hlt]
        generalize r.top = tp at *
        clear hlt
        go_wp2_with fail
        refine HIn2.out.mono ?_
        rintro e w2 ⟨rfl, n2, rfl⟩
        go_wp2
        go_end0
        refine ⟨rfl, tv2, iv2, ?_, below_drewN HR.out.2.1 n2⟩
        rw [HX.out]
        exact HR.out.1.drewN n2
end Go.Proofs.YtcaeeackccgclaaGreatDoor

/- A sign is taken. -/
namespace Go.Proofs.YtcaeeackccgclaaGreatDoor
open Go.RowKit Go.Shelf

theorem sgn_le (l : List UInt8) (h0 : 0 < l.length) : sgn l ≤ l.length := by
  unfold sgn
  cases h : two2 l with
  | true =>
    have h2 : 2 ≤ l.length := by
      match l, h0 with
      | [a], _ => simp [two2] at h
      | a :: b :: r, _ => simp
    simpa using h2
  | false =>
    cases isSg1 (l.getD 0 0)
    · simp
    · simp; omega

set_option maxHeartbeats 4000000 in
set_option maxRecDepth 100000 in
theorem sign_any {B P : Nat} {L : List UInt8} {tv iv : Value} {w : World} {p : Sp} (h : TS B P L tv iv w p) (hL : L.length ≤ 6000) (hp : p.pos < L.length) (hs : 0 < sgn (L.drop p.pos)) (ho : p.opn ≤ 1000) (hcl : isCls (L.getD p.pos 0) = true → 0 < p.opn) :
    Calls Tryz.prog 103 #[.pointer (some ⟨P, 0, none⟩)] w fun e w' => e = .returned (.string (mkB ((L.drop p.pos).take (sgn (L.drop p.pos))))) ∧ TS B P L tv iv w' { p with pos := p.pos + sgn (L.drop p.pos), opn := if isOpn (L.getD p.pos 0) then p.opn + 1 else if isCls (L.getD p.pos 0) then p.opn - 1 else p.opn } ∧ Below B w w' ∧ ∀ g : Nat, g ≠ P → w'.heap[g]? = w.heap[g]? := by
  have hrl : 0 < (L.drop p.pos).length := by rw [List.length_drop]; omega
  have HRe : Hid (∀ n, Calls Tryz.prog 92 #[.pointer (some ⟨P, 0, none⟩)] (w.drewN n) fun e w' => e = .returned (.string (mkB (L.drop p.pos))) ∧ Dr w w') := fun n => (rest_any (h.drewN n) (by omega)).mono fun e w' ⟨a, m, b⟩ => ⟨a, by rw [b]; exact Dr.drewN ⟨n, rfl⟩ m⟩
  have HSz : Hid (∀ W, Calls Tryz.prog 117 #[.string (mkB (L.drop p.pos))] W fun e w' => e = .returned (.int .i64 (sgn (L.drop p.pos))) ∧ w' = W) := fun W => signSize_any _ W hrl (by rw [List.length_drop]; omega)
  have HOp : Hid (∀ W, Calls Tryz.prog 97 #[.int .u8 (L.getD p.pos 0).toNat] W fun e w' => e = .returned (.bool (isOpn (L.getD p.pos 0))) ∧ w' = W) := fun W => isOpening_any _ W
  have HCl : Hid (∀ W, Calls Tryz.prog 93 #[.int .u8 (L.getD p.pos 0).toNat] W fun e w' => e = .returned (.bool (isCls (L.getD p.pos 0))) ∧ w' = W) := fun W => isClosing_any _ W
  have hsl := sl_front (L.drop p.pos) (sgn (L.drop p.pos)) _ rfl (sgn_le _ hrl)
  have hsg := sgn_le _ hrl
  rw [List.length_drop] at hsg
  have htl : ((L.drop p.pos).take (sgn (L.drop p.pos))).length = sgn (L.drop p.pos) := by rw [List.length_take, List.length_drop]; omega
  have hts : (mkB ((L.drop p.pos).take (sgn (L.drop p.pos)))).size = sgn (L.drop p.pos) := by rw [mk_size, htl]
  have hs0 : 0 < (mkB ((L.drop p.pos).take (sgn (L.drop p.pos)))).size := by rw [hts]; exact hs
  have hg0 := mk_get _ 0 hs0
  have hgd : ((L.drop p.pos).take (sgn (L.drop p.pos))).getD 0 0 = L.getD p.pos 0 := by
    rw [← at_drop L, List.getD_eq_getElem?_getD, List.getD_eq_getElem?_getD, List.getElem?_take_of_lt hs]
  rw [hgd] at hg0
  have hexcl : isOpn (L.getD p.pos 0) = true → isCls (L.getD p.pos 0) = false := by
    unfold isOpn isCls
    intro h
    simp at h ⊢
    omega
  have HS1 : Hid (∀ W w', Dr w W → (∀ g : Nat, w'.heap[g]? = (W.setCell ⟨P, 1, none⟩ (.int .i64 ((p.pos + sgn (L.drop p.pos) : Nat) : Int))).heap[g]?) → TS B P L tv iv w' { p with pos := p.pos + sgn (L.drop p.pos) }) := fun W w' hW hw => by
    obtain ⟨n, rfl⟩ := hW
    exact (h.drewN n).setPos _ hw
  have hrs : (mkB (L.drop p.pos)).size = L.length - p.pos := by rw [mk_size, List.length_drop]
  have HPB : Hid (B ≤ P) := h.hB
  have c1 := h.c1
  have f1 := h.fz 1
  have HX : Hid (L.length ≤ 6000 ∧ p.pos + sgn (L.drop p.pos) ≤ L.length) := ⟨hL, by omega⟩
  generalize mkB ((L.drop p.pos).take (sgn (L.drop p.pos))) = t at *
  generalize mkB (L.drop p.pos) = rs at *
  generalize sgn (L.drop p.pos) = k at *
  generalize isOpn (L.getD p.pos 0) = b1 at *
  generalize isCls (L.getD p.pos 0) = b2 at *
  generalize L.getD p.pos 0 = c0 at *
  have hki : (k : Int) ≤ 6000 := by omega
  have hpi : (p.pos : Int) ≤ 6000 := by omega
  obtain ⟨y, hy⟩ : ∃ y, y = p.pos + k := ⟨_, rfl⟩
  have hyi : (p.pos : Int) + (k : Int) = (y : Int) := by omega
  have hwr : IntKind.i64.wrap (y : Int) = (y : Int) := by rw [IntKind.wrap_i64]; omega
  have hko : (k : Int) ≤ (rs.size : Int) := by omega
  rw [← hy] at HS1 HX
  rw [← hy]
  clear h hrl hsg hgd htl hy hp
  cases b1 with
  | true =>
    have hb2 : b2 = false := hexcl rfl
    subst hb2
    have hoi : (p.opn : Int) + 1 = ((p.opn + 1 : Nat) : Int) := by omega
    have how : IntKind.i64.wrap ((p.opn + 1 : Nat) : Int) = ((p.opn + 1 : Nat) : Int) := by rw [IntKind.wrap_i64]; omega
    have hob : (p.opn : Int) ≤ 1000 := by omega
    clear hexcl hcl
    go_enter Tryz.func103, Tryz.ntmps103
    go_wp2_with fail
    refine (HRe.out 0).mono ?_
    rintro e w1 ⟨rfl, n1, rfl⟩
    go_wp2_with fail
    refine (HRe.out n1).mono ?_
    rintro e w2 ⟨rfl, n2, rfl⟩
    go_wp2_with fail
    refine (HSz.out _).mono ?_
    rintro e w' ⟨rfl, rfl⟩
    have HT1 : Hid (TS B P L tv iv ((w.drewN n2).setCell ⟨P, 1, none⟩ (.int .i64 (y : Int))) { p with pos := y } ∧ Below B w ((w.drewN n2).setCell ⟨P, 1, none⟩ (.int .i64 (y : Int))) ∧ ∀ g : Nat, g ≠ P → ((w.drewN n2).setCell ⟨P, 1, none⟩ (.int .i64 (y : Int))).heap[g]? = w.heap[g]?) := ⟨HS1.out (w.drewN n2) _ ⟨n2, rfl⟩ (fun g => rfl), (below_drewN (Below.refl B w) n2).setCell (p := ⟨P, 1, none⟩) HPB.out _, fun g hg => Below.heap_setCell (w.drewN n2) ⟨P, 1, none⟩ _ g hg⟩
    go_wp2_with fail
    refine (HOp.out _).mono ?_
    rintro e w' ⟨rfl, rfl⟩
    have d4 := HT1.out.1.c4
    have g4 := HT1.out.1.fz 4
    generalize (w.drewN n2).setCell ⟨P, 1, none⟩ (.int .i64 (y : Int)) = w3 at *
    have HT2 : Hid (TS B P L tv iv (w3.setCell ⟨P, 4, none⟩ (.int .i64 ((p.opn + 1 : Nat) : Int))) { p with pos := y, opn := p.opn + 1 } ∧ Below B w (w3.setCell ⟨P, 4, none⟩ (.int .i64 ((p.opn + 1 : Nat) : Int))) ∧ ∀ g : Nat, g ≠ P → (w3.setCell ⟨P, 4, none⟩ (.int .i64 ((p.opn + 1 : Nat) : Int))).heap[g]? = w.heap[g]?) := ⟨HT1.out.1.setOpn _ (fun g => rfl), HT1.out.2.1.setCell (p := ⟨P, 4, none⟩) HPB.out _, fun g hg => (Below.heap_setCell w3 ⟨P, 4, none⟩ _ g hg).trans (HT1.out.2.2 g hg)⟩
    generalize hoo : p.opn + 1 = o1 at *
    have HOO : Hid (({ p with pos := y, opn := o1 } : Sp) = { p with pos := y, opn := p.opn + 1 }) := by show _ = _; rw [hoo]
    clear hoo
    go_wp2_with fail
    refine (HCl.out _).mono ?_
    rintro e w' ⟨rfl, rfl⟩
    go_wp2
    go_ret
    exact ⟨rfl, by have := HT2.out.1; rw [HOO.out] at this; exact this, HT2.out.2.1, HT2.out.2.2⟩
  | false =>
    cases b2 with
    | true =>
      have h0 := hcl rfl
      obtain ⟨o1, ho1⟩ : ∃ o1, p.opn = o1 + 1 := ⟨p.opn - 1, by omega⟩
      have hoi : (p.opn : Int) - 1 = (o1 : Int) := by omega
      have how : IntKind.i64.wrap (o1 : Int) = (o1 : Int) := by rw [IntKind.wrap_i64]; omega
      have hoe : p.opn - 1 = o1 := by omega
      have hob : (p.opn : Int) ≤ 1000 := by omega
      rw [hoe]
      clear hexcl hcl ho1 hoe
      go_enter Tryz.func103, Tryz.ntmps103
      go_wp2_with fail
      refine (HRe.out 0).mono ?_
      rintro e w1 ⟨rfl, n1, rfl⟩
      go_wp2_with fail
      refine (HRe.out n1).mono ?_
      rintro e w2 ⟨rfl, n2, rfl⟩
      go_wp2_with fail
      refine (HSz.out _).mono ?_
      rintro e w' ⟨rfl, rfl⟩
      have HT1 : Hid (TS B P L tv iv ((w.drewN n2).setCell ⟨P, 1, none⟩ (.int .i64 (y : Int))) { p with pos := y } ∧ Below B w ((w.drewN n2).setCell ⟨P, 1, none⟩ (.int .i64 (y : Int))) ∧ ∀ g : Nat, g ≠ P → ((w.drewN n2).setCell ⟨P, 1, none⟩ (.int .i64 (y : Int))).heap[g]? = w.heap[g]?) := ⟨HS1.out (w.drewN n2) _ ⟨n2, rfl⟩ (fun g => rfl), (below_drewN (Below.refl B w) n2).setCell (p := ⟨P, 1, none⟩) HPB.out _, fun g hg => Below.heap_setCell (w.drewN n2) ⟨P, 1, none⟩ _ g hg⟩
      go_wp2_with fail
      refine (HOp.out _).mono ?_
      rintro e w' ⟨rfl, rfl⟩
      go_wp2_with fail
      refine (HCl.out _).mono ?_
      rintro e w' ⟨rfl, rfl⟩
      have d4 := HT1.out.1.c4
      have g4 := HT1.out.1.fz 4
      generalize (w.drewN n2).setCell ⟨P, 1, none⟩ (.int .i64 (y : Int)) = w3 at *
      have HT2 : Hid (TS B P L tv iv (w3.setCell ⟨P, 4, none⟩ (.int .i64 ((o1 : Nat) : Int))) { p with pos := y, opn := o1 } ∧ Below B w (w3.setCell ⟨P, 4, none⟩ (.int .i64 ((o1 : Nat) : Int))) ∧ ∀ g : Nat, g ≠ P → (w3.setCell ⟨P, 4, none⟩ (.int .i64 ((o1 : Nat) : Int))).heap[g]? = w.heap[g]?) := ⟨HT1.out.1.setOpn _ (fun g => rfl), HT1.out.2.1.setCell (p := ⟨P, 4, none⟩) HPB.out _, fun g hg => (Below.heap_setCell w3 ⟨P, 4, none⟩ _ g hg).trans (HT1.out.2.2 g hg)⟩
      go_wp2
      go_ret
      exact ⟨rfl, HT2.out.1, HT2.out.2.1, HT2.out.2.2⟩
    | false =>
      clear hexcl hcl
      go_enter Tryz.func103, Tryz.ntmps103
      go_wp2_with fail
      refine (HRe.out 0).mono ?_
      rintro e w1 ⟨rfl, n1, rfl⟩
      go_wp2_with fail
      refine (HRe.out n1).mono ?_
      rintro e w2 ⟨rfl, n2, rfl⟩
      go_wp2_with fail
      refine (HSz.out _).mono ?_
      rintro e w' ⟨rfl, rfl⟩
      have HT1 : Hid (TS B P L tv iv ((w.drewN n2).setCell ⟨P, 1, none⟩ (.int .i64 (y : Int))) { p with pos := y } ∧ Below B w ((w.drewN n2).setCell ⟨P, 1, none⟩ (.int .i64 (y : Int))) ∧ ∀ g : Nat, g ≠ P → ((w.drewN n2).setCell ⟨P, 1, none⟩ (.int .i64 (y : Int))).heap[g]? = w.heap[g]?) := ⟨HS1.out (w.drewN n2) _ ⟨n2, rfl⟩ (fun g => rfl), (below_drewN (Below.refl B w) n2).setCell (p := ⟨P, 1, none⟩) HPB.out _, fun g hg => Below.heap_setCell (w.drewN n2) ⟨P, 1, none⟩ _ g hg⟩
      go_wp2_with fail
      refine (HOp.out _).mono ?_
      rintro e w' ⟨rfl, rfl⟩
      go_wp2_with fail
      refine (HCl.out _).mono ?_
      rintro e w' ⟨rfl, rfl⟩
      go_wp2
      go_ret
      exact ⟨rfl, HT1.out.1, HT1.out.2.1, HT1.out.2.2⟩
end Go.Proofs.YtcaeeackccgclaaGreatDoor
