/- The splitter comes so far in, or out to there. -/
import Derived.Test.YtheiijnpggabkaaGreatDoorTs2
namespace Go.Proofs.YtheiijnpggabkaaGreatDoor
open Go.RowKit Go.Shelf

theorem icut (g n cap k : Nat) (hk : k ≤ n) (hc : n ≤ cap) (W : World) : (Instr.slice 62 (.slice (some ⟨g, 0, none⟩) n cap) none (some (.int .i64 (k : Int))) none).run Tryz.prog W = .ok (.slice (some ⟨g, 0, none⟩) k cap) W := by
  have hkc : k ≤ cap := Nat.le_trans hk hc
  simp [Instr.slice, Instr.sliceBounds, Instr.sliceBound, run_underlying Tryz.underlying62, asIntOf, hkc]
  intro _
  simp [Addr.add]
theorem own_pop {w : World} {B g cap m : Nat} {e : TypeId} {xs : List Value} (h : w.ownsRow B e 1 (.slice (some ⟨g, 0, none⟩) (m + 1) cap) (m + 1) xs) : w.ownsRow B e 1 (.slice (some ⟨g, 0, none⟩) m cap) m (xs.take m) := by
  rcases h.2 with ⟨hv, _⟩ | ⟨g', cap', cur, hv, hb, hg, hc, hm, hz, ht⟩
  · cases hv
  · injection hv with e1 _ e3
    injection e1 with e1
    injection e1 with e1
    subst e1
    subst e3
    have hx := h.1
    refine ⟨by rw [List.length_take]; omega, .inr ⟨g, cap, cur, rfl, hb, hg, by omega, hm, hz, ?_⟩⟩
    rw [← ht, List.take_take]
    congr 1
    omega
theorem own_cap {w : World} {B g cap n : Nat} {e : TypeId} {xs : List Value} (h : w.ownsRow B e 1 (.slice (some ⟨g, 0, none⟩) n cap) n xs) : n ≤ cap := by
  rcases h.2 with ⟨hv, _⟩ | ⟨g', cap', cur, hv, hb, hg, hc, _⟩
  · cases hv
  · injection hv with e1 _ e3
    subst e3
    exact hc
theorem new_int (W : World) (x : Nat) : ∀ (j : Nat) (u : Value), [Value.int .i64 (x : Int)][j]? = some u → (W.alloc (.cells #[.int .i64 (x : Int)] 3)).cell? ((⟨W.heap.size, 0, none⟩ : Addr).add j) = some u := by
  intro j u hj
  match j, hj with
  | 0, hj =>
    simp at hj
    subst hj
    rw [add0]
    exact al_at W _ _ _ 0 _ rfl rfl
/-- Behind an append to how far in one is. -/
theorem TS.push {B P : Nat} {L : List UInt8} {tv iv : Value} {w : World} {p : Sp} (h : TS B P L tv iv w p) (x : Nat) {W w1 w' : World} (hW : ∀ g : Nat, g < w.heap.size → W.heap[g]? = w.heap[g]?) (hWs : w.heap.size < W.heap.size) {g1 cap1 : Nat}
    (hown : w1.ownsRow B 3 1 (.slice (some ⟨g1, 0, none⟩) (p.ins.length + 1) cap1) (p.ins.length + 1) (ics p.ins.reverse ++ [.int .i64 x])) (hgrow : W.grownBy w1 iv.ownBlock) (hat : iv.ownBlock = some g1 ∨ g1 = W.heap.size)
    (hw : ∀ g : Nat, w'.heap[g]? = (w1.setCell ⟨P, 3, none⟩ (.slice (some ⟨g1, 0, none⟩) (p.ins.length + 1) cap1)).heap[g]?) : TS B P L tv (.slice (some ⟨g1, 0, none⟩) (p.ins.length + 1) cap1) w' { p with ins := x :: p.ins } := by
  have hP := h.lt
  have hgP : g1 ≠ P := by
    rcases hat with e | e
    · exact fun e2 => h.ni (by rw [e, e2])
    · omega
  have hgt : tv.ownBlock ≠ some g1 := by
    rcases hat with e | e
    · exact fun e2 => h.nn g1 e2 e
    · intro e2
      have := (h.ot.lt g1 e2).2
      omega
  have hb : w1.heap[P]? = w.heap[P]? := (hgrow.block P (by omega) (fun e => h.ni e.symm)).trans (hW P hP)
  have hot : w1.ownsRow B 32 4 tv p.toks.length (tcs p.toks) := own_heap h.ot fun g hg => (hgrow.block g (by have := (h.ot.lt g hg).2; omega) (fun e => h.nn g hg e.symm)).trans (hW g (h.ot.lt g hg).2)
  have k : ∀ g : Nat, g ≠ P → w'.heap[g]? = w1.heap[g]? := fun g hg => (hw g).trans (Below.heap_setCell w1 ⟨P, 3, none⟩ _ g hg)
  refine ⟨h.hB, ?_, own_heap hot fun g hg => k g fun e => h.nt (by rw [hg, e]), ?_, h.nt, ?_, ?_⟩
  · rw [hw P, Go.Joins.block_setCell (hb.trans h.blk)]
    rfl
  · show w'.ownsRow _ _ _ _ (x :: p.ins).length (ics (x :: p.ins).reverse)
    rw [List.length_cons, List.reverse_cons, ics_snoc]
    exact own_heap hown fun g hg => k g (by simp [Value.ownBlock] at hg; subst hg; exact hgP)
  · simp [Value.ownBlock]
    exact hgP
  · intro a ha hb'
    simp [Value.ownBlock] at hb'
    subst hb'
    exact hgt ha

/-- How far in one is, plain: something always, nought at the bottom. -/
structure InOk (p : Sp) : Prop where
  ne : p.ins ≠ []
  bot : p.ins.getLast? = some 0
theorem InOk.two {p : Sp} (h : InOk p) (i : Nat) (hi : i < p.top) : 2 ≤ p.ins.length := by
  match hp : p.ins with
  | [] => exact absurd hp h.ne
  | [a] =>
    have := h.bot
    rw [hp] at this
    simp at this
    unfold Sp.top at hi
    rw [hp, this] at hi
    simp at hi
  | a :: b :: r => simp
theorem InOk.pop {p : Sp} (h : InOk p) (h2 : 2 ≤ p.ins.length) (q : Sp) (hq : q.ins = p.ins.drop 1) : InOk q := by
  match hp : p.ins, h2 with
  | a :: b :: r, _ =>
    have hb := h.bot
    rw [hp] at hb hq
    exact ⟨by rw [hq]; simp, by rw [hq]; simpa using hb⟩
theorem InOk.push {p : Sp} (h : InOk p) (x : Nat) (q : Sp) (hq : q.ins = x :: p.ins) : InOk q := by
  match hp : p.ins with
  | [] => exact absurd hp h.ne
  | a :: r =>
    have hb := h.bot
    rw [hp] at hb hq
    exact ⟨by rw [hq]; simp, by rw [hq]; simpa using hb⟩
def lenAt (P : Nat) (w : World) : Nat := match w.cell? ⟨P, 3, none⟩ with | some (.slice _ n _) => n | _ => 0
theorem TS.lenAt {B P : Nat} {L : List UInt8} {tv iv : Value} {w : World} {p : Sp} (h : TS B P L tv iv w p) (h0 : 0 < p.ins.length) : lenAt P w = p.ins.length := by
  obtain ⟨g, cap, hv, _, _⟩ := h.oi.form h0
  subst hv
  unfold Go.Proofs.YtheiijnpggabkaaGreatDoor.lenAt
  rw [h.c3]
theorem outF_step (i f : Nat) (q : Sp) (h : i < q.top) : outF i (f + 1) q = outF i f ({ q with ins := q.ins.drop 1 }.add 8) := by
  show (if i < q.top then _ else _) = _
  rw [if_pos h]
theorem outF_stop (i f : Nat) (q : Sp) (h : ¬ i < q.top) : outF i f q = q := by
  cases f with
  | zero => rfl
  | succ f =>
    show (if i < q.top then _ else _) = _
    rw [if_neg h]

set_option maxHeartbeats 4000000 in
set_option maxRecDepth 100000 in
/-- Out to there: the loop. -/
theorem come_any {B P : Nat} {L : List UInt8} {tv iv : Value} {w : World} {p : Sp} (h : TS B P L tv iv w p) (hk : InOk p) (i : Nat) (hn : p.ins.length + p.toks.length ≤ 90000) :
    Calls Tryz.prog 29 #[.pointer (some ⟨P, 0, none⟩), .int .i64 i] w fun e w' => e = .returned (.tuple #[]) ∧ ∃ tv' iv', TS B P L tv' iv' w' (p.come i) ∧ Below B w w' := by
  have h0 : 0 < p.ins.length := List.length_pos_iff.2 hk.ne
  have HIn : Hid (Calls Tryz.prog 41 #[.pointer (some ⟨P, 0, none⟩)] w fun e w' => e = .returned (.int .i64 p.top) ∧ ∃ n, w' = w.drewN n) := in_any h h0 (by omega)
  by_cases htop : p.top < i
  · obtain ⟨i0, hi0, hz0, hz1, hz2⟩ := info_p infI
    have hcome : p.come i = outF i (({ p with ins := i :: p.ins } : Sp).add 7).ins.length (({ p with ins := i :: p.ins } : Sp).add 7) := by
      unfold Sp.come
      simp only [if_pos htop]
    have hti : (p.top : Int) < (i : Int) := by omega
    have HH : Hid (TS B P L tv iv w p) := h
    have HIK0 : Hid (InOk (({ p with ins := i :: p.ins } : Sp).add 7)) := hk.push i _ rfl
    have c3 := h.c3
    have hPl := h.lt
    have hBl : B ≤ w.heap.size := by have := h.hB; omega
    have HOW : Hid (∀ n, ((w.drewN n).alloc (.cells #[.int .i64 (i : Int)] 3)).ownsRow B 3 1 iv p.ins.length (ics p.ins.reverse)) := fun n => (h.drewN n).oi.alloc _
    have q4 : ∀ n, ((w.drewN n).alloc (.cells #[.int .i64 (i : Int)] 3)).heap.size = w.heap.size + 1 := fun n => by rw [World.size_alloc]; rfl
    have HPUT : Hid (∀ {n : Nat} {w1 w' : World} {g1 cap1 : Nat}, w1.ownsRow B 3 1 (.slice (some ⟨g1, 0, none⟩) (p.ins.length + 1) cap1) (p.ins.length + 1) (ics p.ins.reverse ++ [.int .i64 i]) → ((w.drewN n).alloc (.cells #[.int .i64 (i : Int)] 3)).grownBy w1 iv.ownBlock → (iv.ownBlock = some g1 ∨ g1 = w.heap.size + 1) → (∀ g : Nat, w'.heap[g]? = (w1.setCell ⟨P, 3, none⟩ (.slice (some ⟨g1, 0, none⟩) (p.ins.length + 1) cap1)).heap[g]?) → TS B P L tv (.slice (some ⟨g1, 0, none⟩) (p.ins.length + 1) cap1) w' { p with ins := i :: p.ins }) := by
      intro n w1 w' g1 cap1 a1 a2 a3 a4
      exact HH.out.push i (W := (w.drewN n).alloc (.cells #[.int .i64 (i : Int)] 3)) (fun g hg => heap_al (w.drewN n) _ g hg) (by rw [q4]; omega) a1 a2 (by rw [q4]; exact a3) a4
    have HP1 : Hid (∀ {n : Nat} {w1 : World}, ((w.drewN n).alloc (.cells #[.int .i64 (i : Int)] 3)).grownBy w1 iv.ownBlock → w1.cell? ⟨P, 3, none⟩ = some iv ∧ w1.frozen? ⟨P, 3, none⟩ = false ∧ Below B w w1) := by
      intro n w1 hg
      have e1 : w1.heap[P]? = w.heap[P]? := (hg.block P (by rw [q4]; omega) (fun e => HH.out.ni e.symm)).trans (heap_al (w.drewN n) _ P hPl)
      exact ⟨by rw [Lib.cell_of_heap (e1.trans HH.out.blk)]; rfl, Lib.frozen_of_heap (e1.trans HH.out.blk) 3, ((below_drewN (Below.refl B w) n).alloc hBl _).grown hg (by rw [q4]; omega) (fun j hj => (HH.out.oi.lt j hj).1)⟩
    have q1 : p.ins.length + 1 ≤ maxLen := by unfold maxLen; omega
    have q2 : (p.ins.length + 1) * 8 ≤ 140737488355328 := by omega
    have HBd0 : Hid ((({ p with ins := i :: p.ins } : Sp).add 7).ins.length + (({ p with ins := i :: p.ins } : Sp).add 7).toks.length ≤ 90002 ∧ p.toks.length ≤ 90000) := by
      refine ⟨?_, by omega⟩
      show (i :: p.ins).length + (p.toks ++ [_]).length ≤ 90002
      rw [List.length_cons, List.length_append]
      simp only [List.length_cons, List.length_nil]
      omega
    have HCM : Hid (p.come i = outF i (({ p with ins := i :: p.ins } : Sp).add 7).ins.length (({ p with ins := i :: p.ins } : Sp).add 7)) := hcome
    generalize p.top = tp at *
    clear h htop hcome
    go_enter Tryz.func29, Tryz.ntmps29
    go_wp2_with fail
    refine HIn.out.mono ?_
    rintro e w1 ⟨rfl, n1, rfl⟩
    go_wp2_with (at_builtin; refine wpList_append_lies _ rfl _ _ 62 rfl B 3 i0 (.int .i64 0) 1 8 Tryz.underlying62 hi0 hz0 hz1 hz2 rfl (by decide) iv p.ins.length (ics p.ins.reverse) rfl (HOW.out n1) ⟨_, 0, none⟩ 1 1 [.int .i64 (i : Int)] rfl rfl ?c1 ?c2 (by decide) q1 q2 ?c5 (w.heap.size + 1) ?c6 ?_)
    case c1 => exact new_int (w.drewN n1) i
    case c2 => intro u hu; simp at hu; subst hu; rfl
    case c5 => rw [q4]; omega
    case c6 => exact q4 n1
    intro g1 cap1 w2 hown2 hgrow2 hat2 hlt2
    obtain ⟨d3, f3, hb2⟩ := HP1.out hgrow2
    have HT2 : Hid (TS B P L tv (.slice (some ⟨g1, 0, none⟩) (p.ins.length + 1) cap1) (w2.setCell ⟨P, 3, none⟩ (.slice (some ⟨g1, 0, none⟩) (p.ins.length + 1) cap1)) { p with ins := i :: p.ins } ∧ Below B w (w2.setCell ⟨P, 3, none⟩ (.slice (some ⟨g1, 0, none⟩) (p.ins.length + 1) cap1))) := ⟨HPUT.out hown2 hgrow2 hat2 (fun g => rfl), hb2.setCell (p := ⟨P, 3, none⟩) HH.out.hB _⟩
    clear hown2 hgrow2 hat2 hlt2 hb2
    go_wp2_with fail
    refine (add_any HT2.out.1 7 (by show p.toks.length ≤ 100000; have := HBd0.out.2; omega)).mono ?_
    rintro e w3 ⟨rfl, tv3, hts3, hb3⟩
    obtain ⟨q, hq⟩ : ∃ q, q = ({ p with ins := i :: p.ins } : Sp).add 7 := ⟨_, rfl⟩
    obtain ⟨tv1, htv1⟩ : ∃ v, v = tv3 := ⟨_, rfl⟩
    obtain ⟨iv1, hiv1⟩ : ∃ v, v = Value.slice (some ⟨g1, 0, none⟩) (p.ins.length + 1) cap1 := ⟨_, rfl⟩
    have HT1 : Hid (TS B P L tv1 iv1 w3 q ∧ Below B w w3 ∧ InOk q ∧ q.ins.length + q.toks.length ≤ 90002 ∧ p.come i = outF i q.ins.length q) := by
      rw [hq, htv1, hiv1]
      exact ⟨hts3, HT2.out.2.trans hb3, HIK0.out, HBd0.out.1, HCM.out⟩
    clear hq htv1 hiv1 hts3 hb3 d3 f3 c3
    go_wp2
    go_loopw [20] (fun _ wr => ∃ (r : Sp) (tv2 iv2 : Value), Hid (TS B P L tv2 iv2 wr r ∧ Below B w wr ∧ InOk r ∧ r.ins.length + r.toks.length ≤ 90002 ∧ p.come i = outF i r.ins.length r)) (fun _ wr => lenAt P wr)
    case atStart => exact ⟨q, tv1, iv1, HT1⟩
    case round =>
      obtain ⟨r, tv2, iv2, HR⟩ := hrel
      clear HT1
      have hr0 : 0 < r.ins.length := List.length_pos_iff.2 HR.out.2.2.1.ne
      have HIn2 : Hid (Calls Tryz.prog 41 #[.pointer (some ⟨P, 0, none⟩)] wr fun e w' => e = .returned (.int .i64 r.top) ∧ ∃ n, w' = wr.drewN n) := in_any HR.out.1 hr0 (by have := HR.out.2.2.2.1; omega)
      by_cases hlt : i < r.top
      · have hlti : (i : Int) < (r.top : Int) := by omega
        have h2 := HR.out.2.2.1.two i hlt
        obtain ⟨g, cap, hv, hg1, hg2⟩ := HR.out.1.oi.form hr0
        subst hv
        obtain ⟨m, hm⟩ : ∃ m, r.ins.length = m + 1 := ⟨r.ins.length - 1, by omega⟩
        have hcap := own_cap HR.out.1.oi
        have hml : m + 1 ≤ 90002 := by have := HR.out.2.2.2.1; omega
        have d3 : wr.cell? ⟨P, 3, none⟩ = some (.slice (some ⟨g, 0, none⟩) (m + 1) cap) := by have := HR.out.1.c3; rwa [hm] at this
        have f3 := HR.out.1.fz 3
        have hsl := icut g (m + 1) cap m (by omega) (by omega)
        have hdr : (r.ins.drop 1).length = m := by rw [List.length_drop]; omega
        have HPOP : Hid (∀ (n : Nat) (w' : World), (∀ gg : Nat, w'.heap[gg]? = ((wr.drewN n).setCell ⟨P, 3, none⟩ (.slice (some ⟨g, 0, none⟩) m cap)).heap[gg]?) → TS B P L tv2 (.slice (some ⟨g, 0, none⟩) m cap) w' { r with ins := r.ins.drop 1 }) := fun n w' hw => by
          have ho := (HR.out.1.drewN n).oi
          rw [hm] at ho
          have hp2 := own_pop ho
          have e : (ics r.ins.reverse).take m = ics (r.ins.drop 1).reverse := by
            unfold ics
            rw [← List.map_take, List.reverse_drop, hm]
            simp
          rw [e] at hp2
          exact (HR.out.1.drewN n).set 3 _ (q := { r with ins := r.ins.drop 1 }) (by rw [hm]; rfl) HR.out.1.ot (by show World.ownsRow _ _ _ _ _ (r.ins.drop 1).length _; rw [hdr]; exact hp2) HR.out.1.nt (by have := HR.out.1.ni; simpa [Value.ownBlock] using this) (fun a ha => by have := HR.out.1.nn a ha; simpa [Value.ownBlock] using this) hw
        have HNX : Hid (p.come i = outF i m ({ r with ins := r.ins.drop 1 }.add 8)) := by
          show _ = _
          rw [HR.out.2.2.2.2, hm, outF_step i m r hlt]
        have HIK : Hid (InOk ({ r with ins := r.ins.drop 1 }.add 8)) := HR.out.2.2.1.pop h2 _ rfl
        have HBd : Hid (({ r with ins := r.ins.drop 1 }.add 8 : Sp).ins.length = m ∧ m + ({ r with ins := r.ins.drop 1 }.add 8 : Sp).toks.length ≤ 90002 ∧ r.toks.length ≤ 90002) := by
          refine ⟨hdr, ?_, ?_⟩
          · have := HR.out.2.2.2.1
            show m + (r.toks ++ [_]).length ≤ 90002
            rw [List.length_append]
            simp only [List.length_cons, List.length_nil]
            omega
          · have := HR.out.2.2.2.1
            omega
        have HM : Hid (r.ins.length = m + 1) := hm
        generalize htp : r.top = tp at *
        have hmi : ((m + 1 : Nat) : Int) ≤ 90002 := by omega
        have j0 : (((m + 1 : Nat) : Int) - 1) = (m : Int) := by omega
        have j1 : IntKind.i64.wrap (((m + 1 : Nat) : Int) - 1) = (m : Int) := by rw [IntKind.wrap_i64]; omega
        have j2 : (0 : Int) ≤ (m : Int) := by omega
        clear hlt htp h2 hm hcap hdr
        go_wp2_with fail
        refine HIn2.out.mono ?_
        rintro e w2 ⟨rfl, n2, rfl⟩
        go_wp2
        go_region
        all_goals
          have HT3 : Hid (TS B P L tv2 (.slice (some ⟨g, 0, none⟩) m cap) ((wr.drewN (n2 + 1)).setCell ⟨P, 3, none⟩ (.slice (some ⟨g, 0, none⟩) m cap)) { r with ins := r.ins.drop 1 } ∧ Below B w ((wr.drewN (n2 + 1)).setCell ⟨P, 3, none⟩ (.slice (some ⟨g, 0, none⟩) m cap))) := ⟨HPOP.out (n2 + 1) _ (fun gg => rfl), (below_drewN HR.out.2.1 (n2 + 1)).setCell (p := ⟨P, 3, none⟩) HR.out.1.hB _⟩
          generalize (wr.drewN (n2 + 1)).setCell ⟨P, 3, none⟩ (.slice (some ⟨g, 0, none⟩) m cap) = w3 at *
          go_wp2_with fail
          refine (add_any HT3.out.1 8 (by show r.toks.length ≤ 100000; have := HBd.out.2.2; omega)).mono ?_
          rintro e w4 ⟨rfl, tv4, hts4, hb4⟩
          have HT4 : Hid (TS B P L tv4 (.slice (some ⟨g, 0, none⟩) m cap) w4 ({ r with ins := r.ins.drop 1 }.add 8) ∧ Below B w w4) := ⟨hts4, HT3.out.2.trans hb4⟩
          clear hts4 hb4
          go_wp2
          have HZ : Hid (TS B P L tv4 (.slice (some ⟨g, 0, none⟩) m cap) w4 ({ r with ins := r.ins.drop 1 }.add 8) ∧ Below B w w4 ∧ InOk ({ r with ins := r.ins.drop 1 }.add 8) ∧ ({ r with ins := r.ins.drop 1 }.add 8 : Sp).ins.length + ({ r with ins := r.ins.drop 1 }.add 8 : Sp).toks.length ≤ 90002 ∧ p.come i = outF i ({ r with ins := r.ins.drop 1 }.add 8 : Sp).ins.length ({ r with ins := r.ins.drop 1 }.add 8)) := ⟨HT4.out.1, HT4.out.2, HIK.out, by rw [HBd.out.1]; exact HBd.out.2.1, by rw [HBd.out.1]; exact HNX.out⟩
          refine ⟨⟨{ r with ins := r.ins.drop 1 }.add 8, tv4, .slice (some ⟨g, 0, none⟩) m cap, HZ⟩, ?_⟩
          rw [HT4.out.1.lenAt (List.length_pos_iff.2 HIK.out.ne), HR.out.1.lenAt hr0, HBd.out.1, HM.out]
          exact Nat.lt_succ_self _
      · have hlti : (r.top : Int) ≤ (i : Int) := by omega
        have HX : Hid (p.come i = r) := by
          show _ = _
          rw [HR.out.2.2.2.2, outF_stop i _ r hlt]
        generalize r.top = tp at *
        clear hlt
        go_wp2_with fail
        refine HIn2.out.mono ?_
        rintro e w2 ⟨rfl, n2, rfl⟩
        go_wp2
        go_end0
        refine ⟨rfl, tv2, iv2, ?_, below_drewN HR.out.2.1 n2⟩
        rw [HX.out]
        exact HR.out.1.drewN n2
  · have hcome : p.come i = outF i p.ins.length p := by
      unfold Sp.come
      simp only [if_neg htop]
    have HT0 : Hid (∀ n, TS B P L tv iv (w.drewN n) p ∧ Below B w (w.drewN n) ∧ InOk p ∧ p.ins.length + p.toks.length ≤ 90002 ∧ p.come i = outF i p.ins.length p) := fun n => ⟨h.drewN n, below_drewN (Below.refl _ _) n, hk, by omega, hcome⟩
    have hti : (p.top : Int) ≥ (i : Int) := by omega
    have hdt : decide (p.top < i) = false := by simpa using htop
    generalize p.top = tp at *
    clear h htop hcome
    go_enter Tryz.func29, Tryz.ntmps29
    go_wp2_with fail
    refine HIn.out.mono ?_
    rintro e w1 ⟨rfl, n1, rfl⟩
    obtain ⟨q, hq⟩ : ∃ q, q = p := ⟨_, rfl⟩
    obtain ⟨tv1, htv1⟩ : ∃ v, v = tv := ⟨_, rfl⟩
    obtain ⟨iv1, hiv1⟩ : ∃ v, v = iv := ⟨_, rfl⟩
    have HT1 : Hid (TS B P L tv1 iv1 (w.drewN n1) q ∧ Below B w (w.drewN n1) ∧ InOk q ∧ q.ins.length + q.toks.length ≤ 90002 ∧ p.come i = outF i q.ins.length q) := by rw [hq, htv1, hiv1]; exact HT0.out n1
    clear hq htv1 hiv1
    go_wp2
    go_loopw [20] (fun _ wr => ∃ (r : Sp) (tv2 iv2 : Value), Hid (TS B P L tv2 iv2 wr r ∧ Below B w wr ∧ InOk r ∧ r.ins.length + r.toks.length ≤ 90002 ∧ p.come i = outF i r.ins.length r)) (fun _ wr => lenAt P wr)
    case atStart => exact ⟨q, tv1, iv1, HT1⟩
    case round =>
      obtain ⟨r, tv2, iv2, HR⟩ := hrel
      clear HT1
      have hr0 : 0 < r.ins.length := List.length_pos_iff.2 HR.out.2.2.1.ne
      have HIn2 : Hid (Calls Tryz.prog 41 #[.pointer (some ⟨P, 0, none⟩)] wr fun e w' => e = .returned (.int .i64 r.top) ∧ ∃ n, w' = wr.drewN n) := in_any HR.out.1 hr0 (by have := HR.out.2.2.2.1; omega)
      by_cases hlt : i < r.top
      · have hlti : (i : Int) < (r.top : Int) := by omega
        have h2 := HR.out.2.2.1.two i hlt
        obtain ⟨g, cap, hv, hg1, hg2⟩ := HR.out.1.oi.form hr0
        subst hv
        obtain ⟨m, hm⟩ : ∃ m, r.ins.length = m + 1 := ⟨r.ins.length - 1, by omega⟩
        have hcap := own_cap HR.out.1.oi
        have hml : m + 1 ≤ 90002 := by have := HR.out.2.2.2.1; omega
        have d3 : wr.cell? ⟨P, 3, none⟩ = some (.slice (some ⟨g, 0, none⟩) (m + 1) cap) := by have := HR.out.1.c3; rwa [hm] at this
        have f3 := HR.out.1.fz 3
        have hsl := icut g (m + 1) cap m (by omega) (by omega)
        have hdr : (r.ins.drop 1).length = m := by rw [List.length_drop]; omega
        have HPOP : Hid (∀ (n : Nat) (w' : World), (∀ gg : Nat, w'.heap[gg]? = ((wr.drewN n).setCell ⟨P, 3, none⟩ (.slice (some ⟨g, 0, none⟩) m cap)).heap[gg]?) → TS B P L tv2 (.slice (some ⟨g, 0, none⟩) m cap) w' { r with ins := r.ins.drop 1 }) := fun n w' hw => by
          have ho := (HR.out.1.drewN n).oi
          rw [hm] at ho
          have hp2 := own_pop ho
          have e : (ics r.ins.reverse).take m = ics (r.ins.drop 1).reverse := by
            unfold ics
            rw [← List.map_take, List.reverse_drop, hm]
            simp
          rw [e] at hp2
          exact (HR.out.1.drewN n).set 3 _ (q := { r with ins := r.ins.drop 1 }) (by rw [hm]; rfl) HR.out.1.ot (by show World.ownsRow _ _ _ _ _ (r.ins.drop 1).length _; rw [hdr]; exact hp2) HR.out.1.nt (by have := HR.out.1.ni; simpa [Value.ownBlock] using this) (fun a ha => by have := HR.out.1.nn a ha; simpa [Value.ownBlock] using this) hw
        have HNX : Hid (p.come i = outF i m ({ r with ins := r.ins.drop 1 }.add 8)) := by
          show _ = _
          rw [HR.out.2.2.2.2, hm, outF_step i m r hlt]
        have HIK : Hid (InOk ({ r with ins := r.ins.drop 1 }.add 8)) := HR.out.2.2.1.pop h2 _ rfl
        have HBd : Hid (({ r with ins := r.ins.drop 1 }.add 8 : Sp).ins.length = m ∧ m + ({ r with ins := r.ins.drop 1 }.add 8 : Sp).toks.length ≤ 90002 ∧ r.toks.length ≤ 90002) := by
          refine ⟨hdr, ?_, ?_⟩
          · have := HR.out.2.2.2.1
            show m + (r.toks ++ [_]).length ≤ 90002
            rw [List.length_append]
            simp only [List.length_cons, List.length_nil]
            omega
          · have := HR.out.2.2.2.1
            omega
        have HM : Hid (r.ins.length = m + 1) := hm
        generalize htp : r.top = tp at *
        have hmi : ((m + 1 : Nat) : Int) ≤ 90002 := by omega
        have j0 : (((m + 1 : Nat) : Int) - 1) = (m : Int) := by omega
        have j1 : IntKind.i64.wrap (((m + 1 : Nat) : Int) - 1) = (m : Int) := by rw [IntKind.wrap_i64]; omega
        have j2 : (0 : Int) ≤ (m : Int) := by omega
        clear hlt htp h2 hm hcap hdr
        go_wp2_with fail
        refine HIn2.out.mono ?_
        rintro e w2 ⟨rfl, n2, rfl⟩
        go_wp2
        go_region
        all_goals
          have HT3 : Hid (TS B P L tv2 (.slice (some ⟨g, 0, none⟩) m cap) ((wr.drewN (n2 + 1)).setCell ⟨P, 3, none⟩ (.slice (some ⟨g, 0, none⟩) m cap)) { r with ins := r.ins.drop 1 } ∧ Below B w ((wr.drewN (n2 + 1)).setCell ⟨P, 3, none⟩ (.slice (some ⟨g, 0, none⟩) m cap))) := ⟨HPOP.out (n2 + 1) _ (fun gg => rfl), (below_drewN HR.out.2.1 (n2 + 1)).setCell (p := ⟨P, 3, none⟩) HR.out.1.hB _⟩
          generalize (wr.drewN (n2 + 1)).setCell ⟨P, 3, none⟩ (.slice (some ⟨g, 0, none⟩) m cap) = w3 at *
          go_wp2_with fail
          refine (add_any HT3.out.1 8 (by show r.toks.length ≤ 100000; have := HBd.out.2.2; omega)).mono ?_
          rintro e w4 ⟨rfl, tv4, hts4, hb4⟩
          have HT4 : Hid (TS B P L tv4 (.slice (some ⟨g, 0, none⟩) m cap) w4 ({ r with ins := r.ins.drop 1 }.add 8) ∧ Below B w w4) := ⟨hts4, HT3.out.2.trans hb4⟩
          clear hts4 hb4
          go_wp2
          have HZ : Hid (TS B P L tv4 (.slice (some ⟨g, 0, none⟩) m cap) w4 ({ r with ins := r.ins.drop 1 }.add 8) ∧ Below B w w4 ∧ InOk ({ r with ins := r.ins.drop 1 }.add 8) ∧ ({ r with ins := r.ins.drop 1 }.add 8 : Sp).ins.length + ({ r with ins := r.ins.drop 1 }.add 8 : Sp).toks.length ≤ 90002 ∧ p.come i = outF i ({ r with ins := r.ins.drop 1 }.add 8 : Sp).ins.length ({ r with ins := r.ins.drop 1 }.add 8)) := ⟨HT4.out.1, HT4.out.2, HIK.out, by rw [HBd.out.1]; exact HBd.out.2.1, by rw [HBd.out.1]; exact HNX.out⟩
          refine ⟨⟨{ r with ins := r.ins.drop 1 }.add 8, tv4, .slice (some ⟨g, 0, none⟩) m cap, HZ⟩, ?_⟩
          rw [HT4.out.1.lenAt (List.length_pos_iff.2 HIK.out.ne), HR.out.1.lenAt hr0, HBd.out.1, HM.out]
          exact Nat.lt_succ_self _
      · have hlti : (r.top : Int) ≤ (i : Int) := by omega
        have HX : Hid (p.come i = r) := by
          show _ = _
          rw [HR.out.2.2.2.2, outF_stop i _ r hlt]
        generalize r.top = tp at *
        clear hlt
        go_wp2_with fail
        refine HIn2.out.mono ?_
        rintro e w2 ⟨rfl, n2, rfl⟩
        go_wp2
        go_end0
        refine ⟨rfl, tv2, iv2, ?_, below_drewN HR.out.2.1 n2⟩
        rw [HX.out]
        exact HR.out.1.drewN n2
end Go.Proofs.YtheiijnpggabkaaGreatDoor

/- A sign is taken. -/
namespace Go.Proofs.YtheiijnpggabkaaGreatDoor
open Go.RowKit Go.Shelf

theorem sgn_le (l : List UInt8) (h0 : 0 < l.length) : sgn l ≤ l.length := by
  unfold sgn
  cases h : two2 l with
  | true =>
    have h2 : 2 ≤ l.length := by
      match l, h0 with
      | [a], _ => simp [two2] at h
      | a :: b :: r, _ => simp
    simpa using h2
  | false =>
    cases isSg1 (l.getD 0 0)
    · simp
    · simp; omega

set_option maxHeartbeats 4000000 in
set_option maxRecDepth 100000 in
theorem sign_any {B P : Nat} {L : List UInt8} {tv iv : Value} {w : World} {p : Sp} (h : TS B P L tv iv w p) (hL : L.length ≤ 6000) (hp : p.pos < L.length) (hs : 0 < sgn (L.drop p.pos)) (ho : p.opn ≤ 1000) (hcl : isCls (L.getD p.pos 0) = true → 0 < p.opn) :
    Calls Tryz.prog 71 #[.pointer (some ⟨P, 0, none⟩)] w fun e w' => e = .returned (.string (mkB ((L.drop p.pos).take (sgn (L.drop p.pos))))) ∧ TS B P L tv iv w' { p with pos := p.pos + sgn (L.drop p.pos), opn := if isOpn (L.getD p.pos 0) then p.opn + 1 else if isCls (L.getD p.pos 0) then p.opn - 1 else p.opn } ∧ Below B w w' ∧ ∀ g : Nat, g ≠ P → w'.heap[g]? = w.heap[g]? := by
  have hrl : 0 < (L.drop p.pos).length := by rw [List.length_drop]; omega
  have HRe : Hid (∀ n, Calls Tryz.prog 60 #[.pointer (some ⟨P, 0, none⟩)] (w.drewN n) fun e w' => e = .returned (.string (mkB (L.drop p.pos))) ∧ Dr w w') := fun n => (rest_any (h.drewN n) (by omega)).mono fun e w' ⟨a, m, b⟩ => ⟨a, by rw [b]; exact Dr.drewN ⟨n, rfl⟩ m⟩
  have HSz : Hid (∀ W, Calls Tryz.prog 95 #[.string (mkB (L.drop p.pos))] W fun e w' => e = .returned (.int .i64 (sgn (L.drop p.pos))) ∧ w' = W) := fun W => signSize_any _ W hrl (by rw [List.length_drop]; omega)
  have HOp : Hid (∀ W, Calls Tryz.prog 65 #[.int .u8 (L.getD p.pos 0).toNat] W fun e w' => e = .returned (.bool (isOpn (L.getD p.pos 0))) ∧ w' = W) := fun W => isOpening_any _ W
  have HCl : Hid (∀ W, Calls Tryz.prog 61 #[.int .u8 (L.getD p.pos 0).toNat] W fun e w' => e = .returned (.bool (isCls (L.getD p.pos 0))) ∧ w' = W) := fun W => isClosing_any _ W
  have hsl := sl_front (L.drop p.pos) (sgn (L.drop p.pos)) _ rfl (sgn_le _ hrl)
  have hsg := sgn_le _ hrl
  rw [List.length_drop] at hsg
  have htl : ((L.drop p.pos).take (sgn (L.drop p.pos))).length = sgn (L.drop p.pos) := by rw [List.length_take, List.length_drop]; omega
  have hts : (mkB ((L.drop p.pos).take (sgn (L.drop p.pos)))).size = sgn (L.drop p.pos) := by rw [mk_size, htl]
  have hs0 : 0 < (mkB ((L.drop p.pos).take (sgn (L.drop p.pos)))).size := by rw [hts]; exact hs
  have hg0 := mk_get _ 0 hs0
  have hgd : ((L.drop p.pos).take (sgn (L.drop p.pos))).getD 0 0 = L.getD p.pos 0 := by
    rw [← at_drop L, List.getD_eq_getElem?_getD, List.getD_eq_getElem?_getD, List.getElem?_take_of_lt hs]
  rw [hgd] at hg0
  have hexcl : isOpn (L.getD p.pos 0) = true → isCls (L.getD p.pos 0) = false := by
    unfold isOpn isCls
    intro h
    simp at h ⊢
    omega
  have HS1 : Hid (∀ W w', Dr w W → (∀ g : Nat, w'.heap[g]? = (W.setCell ⟨P, 1, none⟩ (.int .i64 ((p.pos + sgn (L.drop p.pos) : Nat) : Int))).heap[g]?) → TS B P L tv iv w' { p with pos := p.pos + sgn (L.drop p.pos) }) := fun W w' hW hw => by
    obtain ⟨n, rfl⟩ := hW
    exact (h.drewN n).setPos _ hw
  have hrs : (mkB (L.drop p.pos)).size = L.length - p.pos := by rw [mk_size, List.length_drop]
  have HPB : Hid (B ≤ P) := h.hB
  have c1 := h.c1
  have f1 := h.fz 1
  have HX : Hid (L.length ≤ 6000 ∧ p.pos + sgn (L.drop p.pos) ≤ L.length) := ⟨hL, by omega⟩
  generalize mkB ((L.drop p.pos).take (sgn (L.drop p.pos))) = t at *
  generalize mkB (L.drop p.pos) = rs at *
  generalize sgn (L.drop p.pos) = k at *
  generalize isOpn (L.getD p.pos 0) = b1 at *
  generalize isCls (L.getD p.pos 0) = b2 at *
  generalize L.getD p.pos 0 = c0 at *
  have hki : (k : Int) ≤ 6000 := by omega
  have hpi : (p.pos : Int) ≤ 6000 := by omega
  obtain ⟨y, hy⟩ : ∃ y, y = p.pos + k := ⟨_, rfl⟩
  have hyi : (p.pos : Int) + (k : Int) = (y : Int) := by omega
  have hwr : IntKind.i64.wrap (y : Int) = (y : Int) := by rw [IntKind.wrap_i64]; omega
  have hko : (k : Int) ≤ (rs.size : Int) := by omega
  rw [← hy] at HS1 HX
  rw [← hy]
  clear h hrl hsg hgd htl hy hp
  cases b1 with
  | true =>
    have hb2 : b2 = false := hexcl rfl
    subst hb2
    have hoi : (p.opn : Int) + 1 = ((p.opn + 1 : Nat) : Int) := by omega
    have how : IntKind.i64.wrap ((p.opn + 1 : Nat) : Int) = ((p.opn + 1 : Nat) : Int) := by rw [IntKind.wrap_i64]; omega
    have hob : (p.opn : Int) ≤ 1000 := by omega
    clear hexcl hcl
    go_enter Tryz.func71, Tryz.ntmps71
    go_wp2_with fail
    refine (HRe.out 0).mono ?_
    rintro e w1 ⟨rfl, n1, rfl⟩
    go_wp2_with fail
    refine (HRe.out n1).mono ?_
    rintro e w2 ⟨rfl, n2, rfl⟩
    go_wp2_with fail
    refine (HSz.out _).mono ?_
    rintro e w' ⟨rfl, rfl⟩
    have HT1 : Hid (TS B P L tv iv ((w.drewN n2).setCell ⟨P, 1, none⟩ (.int .i64 (y : Int))) { p with pos := y } ∧ Below B w ((w.drewN n2).setCell ⟨P, 1, none⟩ (.int .i64 (y : Int))) ∧ ∀ g : Nat, g ≠ P → ((w.drewN n2).setCell ⟨P, 1, none⟩ (.int .i64 (y : Int))).heap[g]? = w.heap[g]?) := ⟨HS1.out (w.drewN n2) _ ⟨n2, rfl⟩ (fun g => rfl), (below_drewN (Below.refl B w) n2).setCell (p := ⟨P, 1, none⟩) HPB.out _, fun g hg => Below.heap_setCell (w.drewN n2) ⟨P, 1, none⟩ _ g hg⟩
    go_wp2_with fail
    refine (HOp.out _).mono ?_
    rintro e w' ⟨rfl, rfl⟩
    have d4 := HT1.out.1.c4
    have g4 := HT1.out.1.fz 4
    generalize (w.drewN n2).setCell ⟨P, 1, none⟩ (.int .i64 (y : Int)) = w3 at *
    have HT2 : Hid (TS B P L tv iv (w3.setCell ⟨P, 4, none⟩ (.int .i64 ((p.opn + 1 : Nat) : Int))) { p with pos := y, opn := p.opn + 1 } ∧ Below B w (w3.setCell ⟨P, 4, none⟩ (.int .i64 ((p.opn + 1 : Nat) : Int))) ∧ ∀ g : Nat, g ≠ P → (w3.setCell ⟨P, 4, none⟩ (.int .i64 ((p.opn + 1 : Nat) : Int))).heap[g]? = w.heap[g]?) := ⟨HT1.out.1.setOpn _ (fun g => rfl), HT1.out.2.1.setCell (p := ⟨P, 4, none⟩) HPB.out _, fun g hg => (Below.heap_setCell w3 ⟨P, 4, none⟩ _ g hg).trans (HT1.out.2.2 g hg)⟩
    generalize hoo : p.opn + 1 = o1 at *
    have HOO : Hid (({ p with pos := y, opn := o1 } : Sp) = { p with pos := y, opn := p.opn + 1 }) := by show _ = _; rw [hoo]
    clear hoo
    go_wp2_with fail
    refine (HCl.out _).mono ?_
    rintro e w' ⟨rfl, rfl⟩
    go_wp2
    go_ret
    exact ⟨rfl, by have := HT2.out.1; rw [HOO.out] at this; exact this, HT2.out.2.1, HT2.out.2.2⟩
  | false =>
    cases b2 with
    | true =>
      have h0 := hcl rfl
      obtain ⟨o1, ho1⟩ : ∃ o1, p.opn = o1 + 1 := ⟨p.opn - 1, by omega⟩
      have hoi : (p.opn : Int) - 1 = (o1 : Int) := by omega
      have how : IntKind.i64.wrap (o1 : Int) = (o1 : Int) := by rw [IntKind.wrap_i64]; omega
      have hoe : p.opn - 1 = o1 := by omega
      have hob : (p.opn : Int) ≤ 1000 := by omega
      rw [hoe]
      clear hexcl hcl ho1 hoe
      go_enter Tryz.func71, Tryz.ntmps71
      go_wp2_with fail
      refine (HRe.out 0).mono ?_
      rintro e w1 ⟨rfl, n1, rfl⟩
      go_wp2_with fail
      refine (HRe.out n1).mono ?_
      rintro e w2 ⟨rfl, n2, rfl⟩
      go_wp2_with fail
      refine (HSz.out _).mono ?_
      rintro e w' ⟨rfl, rfl⟩
      have HT1 : Hid (TS B P L tv iv ((w.drewN n2).setCell ⟨P, 1, none⟩ (.int .i64 (y : Int))) { p with pos := y } ∧ Below B w ((w.drewN n2).setCell ⟨P, 1, none⟩ (.int .i64 (y : Int))) ∧ ∀ g : Nat, g ≠ P → ((w.drewN n2).setCell ⟨P, 1, none⟩ (.int .i64 (y : Int))).heap[g]? = w.heap[g]?) := ⟨HS1.out (w.drewN n2) _ ⟨n2, rfl⟩ (fun g => rfl), (below_drewN (Below.refl B w) n2).setCell (p := ⟨P, 1, none⟩) HPB.out _, fun g hg => Below.heap_setCell (w.drewN n2) ⟨P, 1, none⟩ _ g hg⟩
      go_wp2_with fail
      refine (HOp.out _).mono ?_
      rintro e w' ⟨rfl, rfl⟩
      go_wp2_with fail
      refine (HCl.out _).mono ?_
      rintro e w' ⟨rfl, rfl⟩
      have d4 := HT1.out.1.c4
      have g4 := HT1.out.1.fz 4
      generalize (w.drewN n2).setCell ⟨P, 1, none⟩ (.int .i64 (y : Int)) = w3 at *
      have HT2 : Hid (TS B P L tv iv (w3.setCell ⟨P, 4, none⟩ (.int .i64 ((o1 : Nat) : Int))) { p with pos := y, opn := o1 } ∧ Below B w (w3.setCell ⟨P, 4, none⟩ (.int .i64 ((o1 : Nat) : Int))) ∧ ∀ g : Nat, g ≠ P → (w3.setCell ⟨P, 4, none⟩ (.int .i64 ((o1 : Nat) : Int))).heap[g]? = w.heap[g]?) := ⟨HT1.out.1.setOpn _ (fun g => rfl), HT1.out.2.1.setCell (p := ⟨P, 4, none⟩) HPB.out _, fun g hg => (Below.heap_setCell w3 ⟨P, 4, none⟩ _ g hg).trans (HT1.out.2.2 g hg)⟩
      go_wp2
      go_ret
      exact ⟨rfl, HT2.out.1, HT2.out.2.1, HT2.out.2.2⟩
    | false =>
      clear hexcl hcl
      go_enter Tryz.func71, Tryz.ntmps71
      go_wp2_with fail
      refine (HRe.out 0).mono ?_
      rintro e w1 ⟨rfl, n1, rfl⟩
      go_wp2_with fail
      refine (HRe.out n1).mono ?_
      rintro e w2 ⟨rfl, n2, rfl⟩
      go_wp2_with fail
      refine (HSz.out _).mono ?_
      rintro e w' ⟨rfl, rfl⟩
      have HT1 : Hid (TS B P L tv iv ((w.drewN n2).setCell ⟨P, 1, none⟩ (.int .i64 (y : Int))) { p with pos := y } ∧ Below B w ((w.drewN n2).setCell ⟨P, 1, none⟩ (.int .i64 (y : Int))) ∧ ∀ g : Nat, g ≠ P → ((w.drewN n2).setCell ⟨P, 1, none⟩ (.int .i64 (y : Int))).heap[g]? = w.heap[g]?) := ⟨HS1.out (w.drewN n2) _ ⟨n2, rfl⟩ (fun g => rfl), (below_drewN (Below.refl B w) n2).setCell (p := ⟨P, 1, none⟩) HPB.out _, fun g hg => Below.heap_setCell (w.drewN n2) ⟨P, 1, none⟩ _ g hg⟩
      go_wp2_with fail
      refine (HOp.out _).mono ?_
      rintro e w' ⟨rfl, rfl⟩
      go_wp2_with fail
      refine (HCl.out _).mono ?_
      rintro e w' ⟨rfl, rfl⟩
      go_wp2
      go_ret
      exact ⟨rfl, HT1.out.1, HT1.out.2.1, HT1.out.2.2⟩
end Go.Proofs.YtheiijnpggabkaaGreatDoor

/- A text between quotes. -/
namespace Go.Proofs.YtheiijnpggabkaaGreatDoor
open Go.RowKit Go.Shelf

/-- Only the splitter's block has turned, of those that were. -/
def OnlyP (P : Nat) (w w' : World) : Prop := ∀ g : Nat, g < w.heap.size → g ≠ P → w'.heap[g]? = w.heap[g]?

/-- What an escape stands for. -/
def esc (d : Nat) : Option Nat := if d = 110 then some 10 else if d = 116 then some 9 else if d = 92 then some 92 else if d = 34 then some 34 else none

set_option maxHeartbeats 4000000 in
theorem escaped_yes {B P : Nat} {L : List UInt8} {tv iv : Value} {w : World} {p : Sp} (h : TS B P L tv iv w p) (hL : L.length ≤ 6000) (hp : p.pos < L.length) (x : Nat) (hx : esc (L.getD p.pos 0).toNat = some x) :
    Calls Tryz.prog 98 #[.pointer (some ⟨P, 0, none⟩)] w fun e w' => e = .returned (.int .u8 x) ∧ TS B P L tv iv w' { p with pos := p.pos + 1 } ∧ Below B w w' ∧ ∀ g : Nat, g ≠ P → w'.heap[g]? = w.heap[g]? := by
  have HSe : Hid (∀ n (c : Nat), c ≠ 0 → Calls Tryz.prog 38 #[.pointer (some ⟨P, 0, none⟩), .int .u8 c] (w.drewN n) fun e w' => e = .returned (.bool (decide ((L.getD p.pos 0).toNat = c))) ∧ Dr w w') := fun n c hc => (sees_any (h.drewN n) (by omega) c hc).mono fun e w' ⟨a, m, b⟩ => ⟨a, by rw [b]; exact Dr.drewN ⟨n, rfl⟩ m⟩
  have HSP : Hid (∀ n w', (∀ g : Nat, w'.heap[g]? = ((w.drewN n).setCell ⟨P, 1, none⟩ (.int .i64 ((p.pos + 1 : Nat) : Int))).heap[g]?) → TS B P L tv iv w' { p with pos := p.pos + 1 }) := fun n w' hw => (h.drewN n).setPos _ hw
  have c0 := h.c0
  have c1 := h.c1
  have f1 := h.fz 1
  have hsz := mk_size L
  have hs0 : p.pos < (mkB L).size := by rw [hsz]; exact hp
  have hg := mk_get L p.pos hs0
  have HPB : Hid (B ≤ P) := h.hB
  have hpi : (p.pos : Int) < (L.length : Int) := by omega
  have hli : (L.length : Int) ≤ 6000 := by omega
  obtain ⟨y, hy⟩ : ∃ y, y = p.pos + 1 := ⟨_, rfl⟩
  rw [← hy] at HSP
  rw [← hy]
  have hp1 : (p.pos : Int) + 1 = (y : Int) := by omega
  have hwr : IntKind.i64.wrap (y : Int) = (y : Int) := by rw [IntKind.wrap_i64]; omega
  generalize hd : (L.getD p.pos 0).toNat = d at *
  have hgd : ((mkB L)[p.pos].toNat : Int) = (d : Int) := by rw [hg, hd]
  unfold esc at hx
  have hend : ∀ (m : Nat), TS B P L tv iv ((w.drewN m).setCell ⟨P, 1, none⟩ (.int .i64 (y : Int))) { p with pos := y } ∧ Below B w ((w.drewN m).setCell ⟨P, 1, none⟩ (.int .i64 (y : Int))) ∧ ∀ g : Nat, g ≠ P → ((w.drewN m).setCell ⟨P, 1, none⟩ (.int .i64 (y : Int))).heap[g]? = w.heap[g]? := fun m => ⟨HSP.out m _ (fun g => rfl), (below_drewN (Below.refl B w) m).setCell (p := ⟨P, 1, none⟩) HPB.out _, fun g hg => Below.heap_setCell (w.drewN m) ⟨P, 1, none⟩ _ g hg⟩
  have HEN : Hid (∀ (m : Nat), TS B P L tv iv ((w.drewN m).setCell ⟨P, 1, none⟩ (.int .i64 (y : Int))) { p with pos := y } ∧ Below B w ((w.drewN m).setCell ⟨P, 1, none⟩ (.int .i64 (y : Int))) ∧ ∀ g : Nat, g ≠ P → ((w.drewN m).setCell ⟨P, 1, none⟩ (.int .i64 (y : Int))).heap[g]? = w.heap[g]?) := hend
  clear h hend HSP hg hd hy
  by_cases h1 : d = 110
  · rw [if_pos h1] at hx
    obtain rfl : 10 = x := Option.some.inj hx
    have A : Hid (∀ n, Calls Tryz.prog 38 #[.pointer (some ⟨P, 0, none⟩), .int .u8 110] (w.drewN n) fun e w' => e = .returned (.bool true) ∧ Dr w w') := fun n => by
      have h9 := HSe.out n 110 (by decide)
      rwa [show decide (d = 110) = true from by simpa using h1] at h9
    clear hx h1 HSe
    go_enter Tryz.func98, Tryz.ntmps98
    go_wp2_with fail
    refine (A.out 0).mono ?_
    rintro e w' ⟨rfl, nA, rfl⟩
    go_wp2
    go_ret
    exact ⟨rfl, (HEN.out nA).1, (HEN.out nA).2.1, (HEN.out nA).2.2⟩
  · rw [if_neg h1] at hx
    have A : Hid (∀ n, Calls Tryz.prog 38 #[.pointer (some ⟨P, 0, none⟩), .int .u8 110] (w.drewN n) fun e w' => e = .returned (.bool false) ∧ Dr w w') := fun n => by
      have h9 := HSe.out n 110 (by decide)
      rwa [show decide (d = 110) = false from by simpa using h1] at h9
    by_cases h2 : d = 116
    · rw [if_pos h2] at hx
      obtain rfl : 9 = x := Option.some.inj hx
      have C : Hid (∀ n, Calls Tryz.prog 38 #[.pointer (some ⟨P, 0, none⟩), .int .u8 116] (w.drewN n) fun e w' => e = .returned (.bool true) ∧ Dr w w') := fun n => by
        have h9 := HSe.out n 116 (by decide)
        rwa [show decide (d = 116) = true from by simpa using h2] at h9
      clear hx h1 h2 HSe
      go_enter Tryz.func98, Tryz.ntmps98
      go_wp2_with fail
      refine (A.out 0).mono ?_
      rintro e w' ⟨rfl, nA, rfl⟩
      go_wp2_with fail
      refine (C.out nA).mono ?_
      rintro e w' ⟨rfl, nC, rfl⟩
      go_wp2
      go_ret
      exact ⟨rfl, (HEN.out nC).1, (HEN.out nC).2.1, (HEN.out nC).2.2⟩
    · rw [if_neg h2] at hx
      have C : Hid (∀ n, Calls Tryz.prog 38 #[.pointer (some ⟨P, 0, none⟩), .int .u8 116] (w.drewN n) fun e w' => e = .returned (.bool false) ∧ Dr w w') := fun n => by
        have h9 := HSe.out n 116 (by decide)
        rwa [show decide (d = 116) = false from by simpa using h2] at h9
      by_cases h3 : d = 92
      · rw [if_pos h3] at hx
        obtain rfl : 92 = x := Option.some.inj hx
        have D : Hid (∀ n, Calls Tryz.prog 38 #[.pointer (some ⟨P, 0, none⟩), .int .u8 92] (w.drewN n) fun e w' => e = .returned (.bool true) ∧ Dr w w') := fun n => by
          have h9 := HSe.out n 92 (by decide)
          rwa [show decide (d = 92) = true from by simpa using h3] at h9
        subst h3
        clear hx h1 h2 HSe
        go_enter Tryz.func98, Tryz.ntmps98
        go_wp2_with fail
        refine (A.out 0).mono ?_
        rintro e w' ⟨rfl, nA, rfl⟩
        go_wp2_with fail
        refine (C.out nA).mono ?_
        rintro e w' ⟨rfl, nC, rfl⟩
        go_wp2_with fail
        refine (D.out nC).mono ?_
        rintro e w' ⟨rfl, nD, rfl⟩
        go_wp2
        go_quiet (fail)
        go_wp2
        go_ret
        exact ⟨rfl, (HEN.out _).1, (HEN.out _).2.1, (HEN.out _).2.2⟩
      · rw [if_neg h3] at hx
        have D : Hid (∀ n, Calls Tryz.prog 38 #[.pointer (some ⟨P, 0, none⟩), .int .u8 92] (w.drewN n) fun e w' => e = .returned (.bool false) ∧ Dr w w') := fun n => by
          have h9 := HSe.out n 92 (by decide)
          rwa [show decide (d = 92) = false from by simpa using h3] at h9
        by_cases h4 : d = 34
        · rw [if_pos h4] at hx
          obtain rfl : 34 = x := Option.some.inj hx
          have E : Hid (∀ n, Calls Tryz.prog 38 #[.pointer (some ⟨P, 0, none⟩), .int .u8 34] (w.drewN n) fun e w' => e = .returned (.bool true) ∧ Dr w w') := fun n => by
            have h9 := HSe.out n 34 (by decide)
            rwa [show decide (d = 34) = true from by simpa using h4] at h9
          subst h4
          clear hx h1 h2 h3 HSe
          go_enter Tryz.func98, Tryz.ntmps98
          go_wp2_with fail
          refine (A.out 0).mono ?_
          rintro e w' ⟨rfl, nA, rfl⟩
          go_wp2_with fail
          refine (C.out nA).mono ?_
          rintro e w' ⟨rfl, nC, rfl⟩
          go_wp2_with fail
          refine (D.out nC).mono ?_
          rintro e w' ⟨rfl, nD, rfl⟩
          go_wp2_with fail
          refine (E.out nD).mono ?_
          rintro e w' ⟨rfl, nE, rfl⟩
          go_wp2
          go_quiet (fail)
          go_wp2
          go_ret
          exact ⟨rfl, (HEN.out _).1, (HEN.out _).2.1, (HEN.out _).2.2⟩
        · rw [if_neg h4] at hx
          cases hx

set_option maxHeartbeats 4000000 in
theorem escaped_no {B P : Nat} {L : List UInt8} {tv iv : Value} {w : World} {p : Sp} (h : TS B P L tv iv w p) (hp : p.pos ≤ L.length) (hx : esc (L.getD p.pos 0).toNat = none) :
    Calls Tryz.prog 98 #[.pointer (some ⟨P, 0, none⟩)] w fun e w' => e = PF 1 p.pos ∧ ∃ n, w' = w.drewN n := by
  have HSe : Hid (∀ n (c : Nat), c ≠ 0 → Calls Tryz.prog 38 #[.pointer (some ⟨P, 0, none⟩), .int .u8 c] (w.drewN n) fun e w' => e = .returned (.bool (decide ((L.getD p.pos 0).toNat = c))) ∧ Dr w w') := fun n c hc => (sees_any (h.drewN n) hp c hc).mono fun e w' ⟨a, m, b⟩ => ⟨a, by rw [b]; exact Dr.drewN ⟨n, rfl⟩ m⟩
  have HGu : Hid (∀ n, Calls Tryz.prog 42 #[.pointer (some ⟨P, 0, none⟩), .int .i64 1] (w.drewN n) fun e w' => e = PF 1 p.pos ∧ w' = w.drewN n) := fun n => giveUp_any (h.drewN n) 1
  generalize (L.getD p.pos 0).toNat = d at *
  unfold esc at hx
  have h1 : ¬ d = 110 := fun e => by rw [if_pos e] at hx; cases hx
  rw [if_neg h1] at hx
  have h2 : ¬ d = 116 := fun e => by rw [if_pos e] at hx; cases hx
  rw [if_neg h2] at hx
  have h3 : ¬ d = 92 := fun e => by rw [if_pos e] at hx; cases hx
  rw [if_neg h3] at hx
  have h4 : ¬ d = 34 := fun e => by rw [if_pos e] at hx; cases hx
  have A : Hid (∀ n, Calls Tryz.prog 38 #[.pointer (some ⟨P, 0, none⟩), .int .u8 110] (w.drewN n) fun e w' => e = .returned (.bool false) ∧ Dr w w') := fun n => by
    have h9 := HSe.out n 110 (by decide)
    rwa [show decide (d = 110) = false from by simpa using h1] at h9
  have C : Hid (∀ n, Calls Tryz.prog 38 #[.pointer (some ⟨P, 0, none⟩), .int .u8 116] (w.drewN n) fun e w' => e = .returned (.bool false) ∧ Dr w w') := fun n => by
    have h9 := HSe.out n 116 (by decide)
    rwa [show decide (d = 116) = false from by simpa using h2] at h9
  have D : Hid (∀ n, Calls Tryz.prog 38 #[.pointer (some ⟨P, 0, none⟩), .int .u8 92] (w.drewN n) fun e w' => e = .returned (.bool false) ∧ Dr w w') := fun n => by
    have h9 := HSe.out n 92 (by decide)
    rwa [show decide (d = 92) = false from by simpa using h3] at h9
  have E : Hid (∀ n, Calls Tryz.prog 38 #[.pointer (some ⟨P, 0, none⟩), .int .u8 34] (w.drewN n) fun e w' => e = .returned (.bool false) ∧ Dr w w') := fun n => by
    have h9 := HSe.out n 34 (by decide)
    rwa [show decide (d = 34) = false from by simpa using h4] at h9
  clear hx h1 h2 h3 h4 HSe h
  go_enter Tryz.func98, Tryz.ntmps98
  go_wp2_with fail
  refine (A.out 0).mono ?_
  rintro e w' ⟨rfl, nA, rfl⟩
  go_wp2_with fail
  refine (C.out nA).mono ?_
  rintro e w' ⟨rfl, nC, rfl⟩
  go_wp2_with fail
  refine (D.out nC).mono ?_
  rintro e w' ⟨rfl, nD, rfl⟩
  go_wp2_with fail
  refine (E.out nD).mono ?_
  rintro e w' ⟨rfl, nE, rfl⟩
  go_wp2_with fail
  refine (HGu.out nE).mono ?_
  rintro e w' ⟨rfl, rfl⟩
  go_wp2
  exact ⟨rfl, rfl, nE, rfl⟩

theorem escaped_no' {B P : Nat} {L : List UInt8} {tv iv : Value} {w : World} {p : Sp} (h : TS B P L tv iv w p) (hp : p.pos ≤ L.length) (hx : esc (L.getD p.pos 0).toNat = none) :
    Calls Tryz.prog 98 #[.pointer (some ⟨P, 0, none⟩)] w fun e w' => e = PF 1 p.pos ∧ Below B w w' ∧ ∀ g : Nat, g ≠ P → w'.heap[g]? = w.heap[g]? := (escaped_no h hp hx).mono fun _ _ ⟨a, n, b⟩ => ⟨a, by rw [b]; exact below_drewN (Below.refl _ _) n, by rw [b]; exact fun _ _ => rfl⟩
end Go.Proofs.YtheiijnpggabkaaGreatDoor

/- What a text between quotes says. -/
namespace Go.Proofs.YtheiijnpggabkaaGreatDoor
open Go.RowKit Go.Shelf

theorem bd_keep {B b : Nat} {bs : List Value} {w w' : World} (h : BdIs B b bs w) (hh : ∀ g : Nat, B ≤ g → w'.heap[g]? = w.heap[g]?) : BdIs B b bs w' := by
  rcases h with ⟨hB, v, hbk, hown, hne⟩ | ⟨hB, v, hbk, hown, hne⟩
  · exact Or.inl ⟨hB, v, (hh b hB).trans hbk, own_heap hown fun g hg => hh g (hown.lt g hg).1, hne⟩
  · exact Or.inr ⟨hB, v, (hh b hB).trans hbk, own_heap hown fun g hg => hh g (hown.lt g hg).1, hne⟩
theorem stL_both (B b : Nat) (l : List UInt8) (w : World) (h : BdIs B b (Lib.byteCells l) w) (hBw : B ≤ w.heap.size) :
    Calls Tryz.prog 12 #[.pointer (some ⟨b, 0, none⟩)] w fun e w' => e = .returned (.string (mkB l)) ∧ Below B w w' := by
  by_cases h0 : l = []
  · subst h0
    exact stL_zero B b w h hBw
  · exact stL_any B b l w h h0
theorem TS.keep2 {B P : Nat} {L : List UInt8} {tv iv : Value} {w : World} {p : Sp} (h : TS B P L tv iv w p) {C : Nat} (hP : P < C) (ht : ∀ g, tv.ownBlock = some g → g < C) (hi : ∀ g, iv.ownBlock = some g → g < C) {w' : World} (hh : ∀ g : Nat, g < C → w'.heap[g]? = w.heap[g]?) : TS B P L tv iv w' p :=
  ⟨h.hB, (hh P hP).trans h.blk, own_heap h.ot fun g hg => hh g (ht g hg), own_heap h.oi fun g hg => hh g (hi g hg), h.nt, h.ni, h.nn⟩

/-- What is left of a call that may give up in a text. -/
def TxtP (B P : Nat) (L : List UInt8) (tv iv : Value) (w : World) (p : Sp) (r : Except Nat (List UInt8 × Nat)) (e : Ending) (w' : World) : Prop :=
  (∀ y, r = .error y → e = PF 1 y) ∧ (∀ t y, r = .ok (t, y) → e = .returned (.string (mkB t)) ∧ TS B P L tv iv w' { p with pos := y } ∧ y ≤ L.length) ∧ Below B w w' ∧ OnlyP P w w'
/-- One step of reading a text. -/
theorem txt_more : ∀ (f g : Nat) (r said : List UInt8) (x : Nat), r.length < f → r.length < g → txt f r said x = txt g r said x := by
  intro f
  induction f with
  | zero => intro g r said x h; omega
  | succ f ih =>
    intro g r said x h1 h2
    cases g with
    | zero => omega
    | succ g =>
      unfold txt
      by_cases h0 : r = []
      · simp only [if_pos h0]
      · have hl : 0 < r.length := List.length_pos_iff.2 h0
        simp only [if_neg h0]
        by_cases c1 : (r.getD 0 0).toNat = 34
        · simp only [if_pos c1]
        · simp only [if_neg c1]
          have hd2 : (r.drop 2).length < f ∧ (r.drop 2).length < g := by rw [List.length_drop]; omega
          by_cases c2 : (r.getD 0 0).toNat = 92
          · simp only [if_pos c2]
            rw [ih g (r.drop 2) _ _ hd2.1 hd2.2, ih g (r.drop 2) _ _ hd2.1 hd2.2, ih g (r.drop 2) _ _ hd2.1 hd2.2]
          · simp only [if_neg c2]
            by_cases c3 : rch isPl r = 0
            · simp only [if_pos c3]
            · simp only [if_neg c3]
              exact ih g _ _ _ (by rw [List.length_drop]; omega) (by rw [List.length_drop]; omega)
theorem drop_nil {L : List UInt8} {x : Nat} (h : L.drop x = []) : L.getD x 0 = 0 := by
  rw [← at_drop, h]
  rfl
theorem txt_quote (f : Nat) (L said : List UInt8) (x : Nat) (h : (L.getD x 0).toNat = 34) : txt (f + 1) (L.drop x) said x = .ok (said, x + 1) := by
  unfold txt
  have h0 : L.drop x ≠ [] := fun e => by rw [drop_nil e] at h; cases h
  simp only [if_neg h0, at_drop, if_pos h]
theorem txt_esc (f : Nat) (L said : List UInt8) (x y : Nat) (h : (L.getD x 0).toNat = 92) (he : esc (L.getD (x + 1) 0).toNat = some y) : txt (f + 1) (L.drop x) said x = txt f (L.drop (x + 2)) (said ++ [UInt8.ofNat y]) (x + 2) := by
  conv => lhs; unfold txt
  have h0 : L.drop x ≠ [] := fun e => by rw [drop_nil e] at h; cases h
  have hd : ∀ k, (L.drop x).drop k = L.drop (x + k) := fun k => by rw [List.drop_drop]
  simp only [if_neg h0, at_drop, hd, h, show ¬ (92 = 34) from by decide, if_false, if_true]
  have h1 : L.drop (x + 1) ≠ [] := fun e => by rw [drop_nil e] at he; simp [esc] at he
  simp only [if_neg h1]
  unfold esc at he
  by_cases c1 : (L.getD (x + 1) 0).toNat = 110
  · rw [if_pos c1] at he
    obtain rfl := Option.some.inj he
    rw [if_pos c1]
    rfl
  · rw [if_neg c1] at he
    rw [if_neg c1]
    by_cases c2 : (L.getD (x + 1) 0).toNat = 116
    · rw [if_pos c2] at he
      obtain rfl := Option.some.inj he
      rw [if_pos c2]
      rfl
    · rw [if_neg c2] at he
      rw [if_neg c2]
      have e2 : ∀ z : Nat, (L.getD (x + 1) 0).toNat = z → L.getD (x + 1) 0 = UInt8.ofNat z := fun z hz => by rw [← hz]; simp
      by_cases c3 : (L.getD (x + 1) 0).toNat = 92
      · rw [if_pos c3] at he
        obtain rfl := Option.some.inj he
        rw [if_pos (Or.inl c3), e2 92 c3]
      · rw [if_neg c3] at he
        by_cases c4 : (L.getD (x + 1) 0).toNat = 34
        · rw [if_pos c4] at he
          obtain rfl := Option.some.inj he
          rw [if_pos (Or.inr c4), e2 34 c4]
        · rw [if_neg c4] at he
          cases he
theorem txt_noesc (f : Nat) (L said : List UInt8) (x : Nat) (h : (L.getD x 0).toNat = 92) (he : esc (L.getD (x + 1) 0).toNat = none) : txt (f + 1) (L.drop x) said x = .error (x + 1) := by
  unfold txt
  have h0 : L.drop x ≠ [] := fun e => by rw [drop_nil e] at h; cases h
  have hd : ∀ k, (L.drop x).drop k = L.drop (x + k) := fun k => by rw [List.drop_drop]
  simp only [if_neg h0, at_drop, hd, h, show ¬ (92 = 34) from by decide, if_false, if_true]
  unfold esc at he
  have c1 : ¬ (L.getD (x + 1) 0).toNat = 110 := fun e => by rw [if_pos e] at he; cases he
  rw [if_neg c1] at he
  have c2 : ¬ (L.getD (x + 1) 0).toNat = 116 := fun e => by rw [if_pos e] at he; cases he
  rw [if_neg c2] at he
  have c3 : ¬ (L.getD (x + 1) 0).toNat = 92 := fun e => by rw [if_pos e] at he; cases he
  rw [if_neg c3] at he
  have c4 : ¬ (L.getD (x + 1) 0).toNat = 34 := fun e => by rw [if_pos e] at he; cases he
  rw [if_neg c1, if_neg c2, if_neg (show ¬ ((L.getD (x + 1) 0).toNat = 92 ∨ (L.getD (x + 1) 0).toNat = 34) from fun e => e.elim c3 c4)]
  split <;> rfl
theorem txt_stop (f : Nat) (L said : List UInt8) (x : Nat) (h1 : ¬ (L.getD x 0).toNat = 34) (h2 : ¬ (L.getD x 0).toNat = 92) (h3 : rch isPl (L.drop x) = 0) : txt (f + 1) (L.drop x) said x = .error x := by
  unfold txt
  simp only [at_drop, if_neg h1, if_neg h2, if_pos h3]
  split <;> rfl
theorem txt_plain (f : Nat) (L said : List UInt8) (x : Nat) (h1 : ¬ (L.getD x 0).toNat = 34) (h2 : ¬ (L.getD x 0).toNat = 92) (h3 : rch isPl (L.drop x) ≠ 0) : txt (f + 1) (L.drop x) said x = txt f (L.drop (x + rch isPl (L.drop x))) (said ++ (L.drop x).take (rch isPl (L.drop x))) (x + rch isPl (L.drop x)) := by
  have h0 : L.drop x ≠ [] := fun e => by rw [e] at h3; exact h3 rfl
  conv => lhs; unfold txt
  simp only [at_drop, if_neg h1, if_neg h2, if_neg h3, if_neg h0]
  rw [List.drop_drop]

set_option maxHeartbeats 8000000 in
set_option maxRecDepth 100000 in
theorem text_any {B P : Nat} {L : List UInt8} {tv iv : Value} {w : World} {p : Sp} (h : TS B P L tv iv w p) (hL : L.length ≤ 6000) (hp : p.pos < L.length) :
    Calls Tryz.prog 66 #[.pointer (some ⟨P, 0, none⟩)] w fun e w' => TxtP B P L tv iv w p (txt ((L.drop p.pos).length + 1) ((L.drop p.pos).drop 1) [] (p.pos + 1)) e w' := by
  have hBl : B ≤ w.heap.size := by have := h.hB; have := h.lt; omega
  obtain ⟨C, hC⟩ : ∃ C, C = w.heap.size := ⟨_, rfl⟩
  have HC : Hid (P < C ∧ B ≤ P ∧ (∀ g, tv.ownBlock = some g → g < C) ∧ (∀ g, iv.ownBlock = some g → g < C) ∧ B ≤ C ∧ C = w.heap.size) := by
    rw [hC]
    exact ⟨h.lt, h.hB, fun g hg => (h.ot.lt g hg).2, fun g hg => (h.oi.lt g hg).2, hBl, rfl⟩
  obtain ⟨w0, hw0⟩ : ∃ w0, w0 = w.alloc (.cells #[.pointer none, .slice none 0 0] 47) := ⟨_, rfl⟩
  have H0 : Hid (TS B P L tv iv w0 p ∧ Below B w w0 ∧ OnlyP P w w0 ∧ BdIs C C [] w0 ∧ w0.heap.size = C + 1) := by
    rw [hw0, hC]
    exact ⟨h.up ((Below.refl _ _).alloc (Nat.le_refl _) _), (Below.refl _ _).alloc hBl _, fun g hg _ => heap_al w _ g hg, Lib.fresh_isBuilder _ _ w, by rw [World.size_alloc]⟩
  have c1 := H0.out.1.c1
  have f1 := H0.out.1.fz 1
  obtain ⟨y0, hy0⟩ : ∃ y0, y0 = p.pos + 1 := ⟨_, rfl⟩
  have H1 : Hid (TS B P L tv iv (w0.setCell ⟨P, 1, none⟩ (.int .i64 (y0 : Int))) { p with pos := y0 } ∧ Below B w (w0.setCell ⟨P, 1, none⟩ (.int .i64 (y0 : Int))) ∧ OnlyP P w (w0.setCell ⟨P, 1, none⟩ (.int .i64 (y0 : Int))) ∧ BdIs C C (Lib.byteCells []) (w0.setCell ⟨P, 1, none⟩ (.int .i64 (y0 : Int))) ∧ C ≤ (w0.setCell ⟨P, 1, none⟩ (.int .i64 (y0 : Int))).heap.size) := by
    have k : ∀ g : Nat, g ≠ P → (w0.setCell ⟨P, 1, none⟩ (.int .i64 (y0 : Int))).heap[g]? = w0.heap[g]? := fun g hg => Below.heap_setCell w0 ⟨P, 1, none⟩ _ g hg
    have b1 : Below B w (w0.setCell ⟨P, 1, none⟩ (.int .i64 (y0 : Int))) := H0.out.2.1.setCell (p := ⟨P, 1, none⟩) HC.out.2.1 _
    refine ⟨H0.out.1.setPos _ (fun g => rfl), b1, fun g hg hp => (k g hp).trans (H0.out.2.2.1 g hg hp), bd_keep H0.out.2.2.2.1 fun g hg => k g (by have := HC.out.1; omega), ?_⟩
    have h9 := b1.size
    have h8 := HC.out.2.2.2.2.2
    omega
  have hp1 : (p.pos : Int) + 1 = (y0 : Int) := by omega
  have hpi : (p.pos : Int) ≤ 6000 := by omega
  have hwr : IntKind.i64.wrap (y0 : Int) = (y0 : Int) := by rw [IntKind.wrap_i64]; omega
  obtain ⟨RES, hRES⟩ : ∃ RES, RES = txt ((L.drop p.pos).length + 1) ((L.drop p.pos).drop 1) [] (p.pos + 1) := ⟨_, rfl⟩
  rw [← hRES]
  have HRES : Hid (RES = txt (L.length + 1) (L.drop y0) [] y0) := by
    show _ = _
    rw [hRES, List.drop_drop, ← hy0]
    exact txt_more _ _ _ _ _ (by rw [List.length_drop, List.length_drop]; omega) (by rw [List.length_drop]; omega)
  have hy0l : y0 ≤ L.length := by omega
  have hCw : w.heap.size = C := hC.symm
  subst hw0
  clear h hRES hy0 hC
  go_enter Tryz.func66, Tryz.ntmps66
  go_wp2
  go_loopw [4] (fun _ wr => ∃ (x f : Nat) (said : List UInt8), x ≤ L.length ∧ Hid ((L.drop x).length < f ∧ said.length ≤ x ∧ RES = txt f (L.drop x) said x) ∧ Hid (TS B P L tv iv wr { p with pos := x } ∧ Below B w wr ∧ OnlyP P w wr ∧ BdIs C C (Lib.byteCells said) wr ∧ C ≤ wr.heap.size)) (fun _ wr => L.length - posOf P wr)
  case atStart => exact ⟨y0, L.length + 1, [], hy0l, ⟨by rw [List.length_drop]; omega, by simp, HRES.out⟩, H1.out⟩
  case round =>
    obtain ⟨x, f, said, hx, HF, HT⟩ := hrel
    clear H0 H1 HRES
    have hx6 : x ≤ 6000 := by omega
    obtain ⟨f', hf'⟩ : ∃ f', f = f' + 1 := ⟨f - 1, by have := HF.out.1; omega⟩
    subst hf'
    have HSe : Hid (∀ n (c : Nat), c ≠ 0 → Calls Tryz.prog 38 #[.pointer (some ⟨P, 0, none⟩), .int .u8 c] (wr.drewN n) fun e w' => e = .returned (.bool (decide ((L.getD x 0).toNat = c))) ∧ Dr wr w') := fun n c hc => (sees_any (HT.out.1.drewN n) hx c hc).mono fun e w' ⟨a, m, b⟩ => ⟨a, by rw [b]; exact Dr.drewN ⟨n, rfl⟩ m⟩
    have d1 := HT.out.1.c1
    have g1 := HT.out.1.fz 1
    by_cases hq : (L.getD x 0).toNat = 34
    · have HX : Hid (RES = .ok (said, x + 1)) := HF.out.2.2.trans (txt_quote f' L said x hq)
      have HSA : Hid (∀ n, Calls Tryz.prog 38 #[.pointer (some ⟨P, 0, none⟩), .int .u8 (34 : Nat)] (wr.drewN n) fun e w' => e = .returned (.bool true) ∧ Dr wr w') := fun n => by
        have h9 := HSe.out n 34 (by decide)
        rwa [show decide ((L.getD x 0).toNat = 34) = true from by simpa using hq] at h9
      have hxl : x < L.length := by
        rcases Nat.lt_or_ge x L.length with h | h
        · exact h
        · rw [List.getD_eq_getElem?_getD, List.getElem?_eq_none h] at hq; cases hq
      obtain ⟨y, hy⟩ : ∃ y, y = x + 1 := ⟨_, rfl⟩
      rw [← hy] at HX
      have hxy : (x : Int) + 1 = (y : Int) := by omega
      have hxi : (x : Int) ≤ 6000 := by omega
      have hyl : y ≤ L.length := by omega
      have hyw : IntKind.i64.wrap (y : Int) = (y : Int) := by rw [IntKind.wrap_i64]; omega
      have HST : Hid (∀ n, TS B P L tv iv ((wr.drewN n).setCell ⟨P, 1, none⟩ (.int .i64 (y : Int))) { p with pos := y } ∧ Below B w ((wr.drewN n).setCell ⟨P, 1, none⟩ (.int .i64 (y : Int))) ∧ OnlyP P w ((wr.drewN n).setCell ⟨P, 1, none⟩ (.int .i64 (y : Int))) ∧ BdIs C C (Lib.byteCells said) ((wr.drewN n).setCell ⟨P, 1, none⟩ (.int .i64 (y : Int))) ∧ C ≤ ((wr.drewN n).setCell ⟨P, 1, none⟩ (.int .i64 (y : Int))).heap.size) := fun n => by
        have k : ∀ g : Nat, g ≠ P → ((wr.drewN n).setCell ⟨P, 1, none⟩ (.int .i64 (y : Int))).heap[g]? = wr.heap[g]? := fun g hg => Below.heap_setCell (wr.drewN n) ⟨P, 1, none⟩ _ g hg
        have b1 : Below B wr ((wr.drewN n).setCell ⟨P, 1, none⟩ (.int .i64 (y : Int))) := (below_drewN (Below.refl B wr) n).setCell (p := ⟨P, 1, none⟩) HC.out.2.1 _
        refine ⟨(HT.out.1.drewN n).setPos _ (fun g => rfl), HT.out.2.1.trans b1, fun g hg hp => (k g hp).trans (HT.out.2.2.1 g hg hp), bd_keep HT.out.2.2.2.1 fun g hg => k g (by have := HC.out.1; omega), ?_⟩
        have h9 := b1.size
        have h8 := HT.out.2.2.2.2
        omega
      clear hq HSe hy hxl
      go_wp2_with fail
      refine (HSA.out 0).mono ?_
      rintro e w1 ⟨rfl, n1, rfl⟩
      go_wp2_with fail
      refine (stL_both C C said _ (HST.out n1).2.2.2.1 (HST.out n1).2.2.2.2).mono ?_
      rintro e w2 ⟨rfl, hb2⟩
      have HE2 : Hid (TS B P L tv iv w2 { p with pos := y } ∧ Below B w w2 ∧ OnlyP P w w2) := ⟨(HST.out n1).1.keep2 HC.out.1 HC.out.2.2.1 HC.out.2.2.2.1 (fun g hg => hb2.block g hg), (HST.out n1).2.1.trans (hb2.mono HC.out.2.2.2.2.1), fun g hg hp => (hb2.block g (by have := HC.out.2.2.2.2.2; omega)).trans ((HST.out n1).2.2.1 g hg hp)⟩
      clear hb2
      go_wp2
      go_ret
      refine ⟨fun z hz => ?_, fun t z hz => ?_, HE2.out.2.1, HE2.out.2.2⟩
      · rw [HX.out] at hz; cases hz
      · rw [HX.out] at hz
        cases hz
        exact ⟨rfl, HE2.out.1, hyl⟩
    · have HSA : Hid (∀ n, Calls Tryz.prog 38 #[.pointer (some ⟨P, 0, none⟩), .int .u8 (34 : Nat)] (wr.drewN n) fun e w' => e = .returned (.bool false) ∧ Dr wr w') := fun n => by
        have h9 := HSe.out n 34 (by decide)
        rwa [show decide ((L.getD x 0).toNat = 34) = false from by simpa using hq] at h9
      by_cases hb : (L.getD x 0).toNat = 92
      · have HSB : Hid (∀ n, Calls Tryz.prog 38 #[.pointer (some ⟨P, 0, none⟩), .int .u8 (92 : Nat)] (wr.drewN n) fun e w' => e = .returned (.bool true) ∧ Dr wr w') := fun n => by
          have h9 := HSe.out n 92 (by decide)
          rwa [show decide ((L.getD x 0).toNat = 92) = true from by simpa using hb] at h9
        have hxl : x < L.length := by
          rcases Nat.lt_or_ge x L.length with h | h
          · exact h
          · rw [List.getD_eq_getElem?_getD, List.getElem?_eq_none h] at hb; cases hb
        have HES : Hid (∀ z, esc (L.getD (x + 1) 0).toNat = some z → RES = txt f' (L.drop (x + 2)) (said ++ [UInt8.ofNat z]) (x + 2)) := fun z hz => HF.out.2.2.trans (txt_esc f' L said x z hb hz)
        have HEN : Hid (esc (L.getD (x + 1) 0).toNat = none → RES = .error (x + 1)) := fun hz => HF.out.2.2.trans (txt_noesc f' L said x hb hz)
        obtain ⟨y, hy⟩ : ∃ y, y = x + 1 := ⟨_, rfl⟩
        rw [← hy] at HES HEN
        have hxy : (x : Int) + 1 = (y : Int) := by omega
        have hxi : (x : Int) ≤ 6000 := by omega
        have hyl : y ≤ L.length := by omega
        have hyw : IntKind.i64.wrap (y : Int) = (y : Int) := by rw [IntKind.wrap_i64]; omega
        have HST : Hid (∀ n, TS B P L tv iv ((wr.drewN n).setCell ⟨P, 1, none⟩ (.int .i64 (y : Int))) { p with pos := y } ∧ Below B w ((wr.drewN n).setCell ⟨P, 1, none⟩ (.int .i64 (y : Int))) ∧ OnlyP P w ((wr.drewN n).setCell ⟨P, 1, none⟩ (.int .i64 (y : Int))) ∧ BdIs C C (Lib.byteCells said) ((wr.drewN n).setCell ⟨P, 1, none⟩ (.int .i64 (y : Int))) ∧ C ≤ ((wr.drewN n).setCell ⟨P, 1, none⟩ (.int .i64 (y : Int))).heap.size) := fun n => by
          have k : ∀ g : Nat, g ≠ P → ((wr.drewN n).setCell ⟨P, 1, none⟩ (.int .i64 (y : Int))).heap[g]? = wr.heap[g]? := fun g hg => Below.heap_setCell (wr.drewN n) ⟨P, 1, none⟩ _ g hg
          have b1 : Below B wr ((wr.drewN n).setCell ⟨P, 1, none⟩ (.int .i64 (y : Int))) := (below_drewN (Below.refl B wr) n).setCell (p := ⟨P, 1, none⟩) HC.out.2.1 _
          refine ⟨(HT.out.1.drewN n).setPos _ (fun g => rfl), HT.out.2.1.trans b1, fun g hg hp => (k g hp).trans (HT.out.2.2.1 g hg hp), bd_keep HT.out.2.2.2.1 fun g hg => k g (by have := HC.out.1; omega), ?_⟩
          have h9 := b1.size
          have h8 := HT.out.2.2.2.2
          omega
        clear hq hb HSe
        cases he : esc (L.getD y 0).toNat with
        | none =>
          have HX := HEN.out he
          have HXX : Hid (RES = .error y) := HX
          have HNO : Hid (∀ n, Calls Tryz.prog 98 #[.pointer (some ⟨P, 0, none⟩)] ((wr.drewN n).setCell ⟨P, 1, none⟩ (.int .i64 (y : Int))) fun e w' => e = PF 1 y ∧ Below B w w' ∧ OnlyP P w w') := fun n => (escaped_no' (HST.out n).1 hyl he).mono fun e w' ⟨a, b, c⟩ => ⟨a, (HST.out n).2.1.trans b, fun g hg hp => (c g hp).trans ((HST.out n).2.2.1 g hg hp)⟩
          clear HX HEN HES he hy
          go_wp2_with fail
          refine (HSA.out 0).mono ?_
          rintro e w1 ⟨rfl, n1, rfl⟩
          go_wp2_with fail
          refine (HSB.out n1).mono ?_
          rintro e w2 ⟨rfl, n2, rfl⟩
          go_wp2_with fail
          refine (HNO.out n2).mono ?_
          rintro e w3 ⟨rfl, hb3, ho3⟩
          go_wp2
          refine ⟨rfl, fun z hz => ?_, fun t z hz => ?_, hb3, ho3⟩
          · rw [HXX.out] at hz; cases hz; rfl
          · rw [HXX.out] at hz; cases hz
        | some z =>
          have HX := HES.out z he
          have hz256 : z < 256 := by
            unfold esc at he
            repeat' split at he
            all_goals (first | cases he; decide | cases he)
          have hyl2 : y < L.length := by
            rcases Nat.lt_or_ge y L.length with h | h
            · exact h
            · rw [List.getD_eq_getElem?_getD, List.getElem?_eq_none h] at he; cases he
          have HYE : Hid (∀ n, Calls Tryz.prog 98 #[.pointer (some ⟨P, 0, none⟩)] ((wr.drewN n).setCell ⟨P, 1, none⟩ (.int .i64 (y : Int))) fun e w' => e = .returned (.int .u8 z) ∧ TS B P L tv iv w' { p with pos := y + 1 } ∧ Below B w w' ∧ OnlyP P w w' ∧ BdIs C C (Lib.byteCells said) w' ∧ C ≤ w'.heap.size) := fun n => (escaped_yes (HST.out n).1 hL hyl2 z he).mono fun e w' ⟨a, b, c, d⟩ => ⟨a, b, (HST.out n).2.1.trans c, fun g hg hp => (d g hp).trans ((HST.out n).2.2.1 g hg hp), bd_keep (HST.out n).2.2.2.1 fun g hg => d g (by have := HC.out.1; omega), by have h8 := (HST.out n).2.2.2.2; have h9 := c.size; omega⟩
          have HXX : Hid (RES = txt f' (L.drop (y + 1)) (said ++ [UInt8.ofNat z]) (y + 1) ∧ (L.drop (y + 1)).length < f' ∧ (said ++ [UInt8.ofNat z]).length ≤ y + 1 ∧ Lib.byteCells (said ++ [UInt8.ofNat z]) = Lib.byteCells said ++ [.int .u8 z]) := by
            refine ⟨by rw [HX, hy], ?_, ?_, ?_⟩
            · have := HF.out.1
              rw [List.length_drop] at this ⊢
              omega
            · have := HF.out.2.1
              rw [List.length_append]
              simp only [List.length_cons, List.length_nil]
              omega
            · have e2 : (UInt8.ofNat z).toNat = z := by simp [UInt8.toNat_ofNat']; omega
              simp [Lib.byteCells, e2]
          have HSL : Hid (said.length ≤ 6000) := by have := HF.out.2.1; show _ ≤ _; omega
          have HXY : Hid (y = x + 1) := hy
          clear HX HEN HES he hy
          go_wp2_with fail
          refine (HSA.out 0).mono ?_
          rintro e w1 ⟨rfl, n1, rfl⟩
          go_wp2_with fail
          refine (HSB.out n1).mono ?_
          rintro e w2 ⟨rfl, n2, rfl⟩
          go_wp2_with fail
          refine (HYE.out n2).mono ?_
          rintro e w3 ⟨rfl, hts3, hb3, ho3, hd3, hc3⟩
          have H3 : Hid (TS B P L tv iv w3 { p with pos := y + 1 } ∧ Below B w w3 ∧ OnlyP P w w3 ∧ BdIs C C (Lib.byteCells said) w3 ∧ C ≤ w3.heap.size) := ⟨hts3, hb3, ho3, hd3, hc3⟩
          clear hts3 hb3 ho3 hd3 hc3
          go_wp2_with fail
          refine (wbL_any C C (Lib.byteCells said) z _ H3.out.2.2.2.1 (by rw [Lib.byteCells_length]; have := HSL.out; omega) H3.out.2.2.2.2).mono ?_
          rintro e w4 ⟨rfl, hd4, hk4⟩
          have H4 : Hid (TS B P L tv iv w4 { p with pos := y + 1 } ∧ Below B w w4 ∧ OnlyP P w w4 ∧ BdIs C C (Lib.byteCells (said ++ [UInt8.ofNat z])) w4 ∧ C ≤ w4.heap.size) := ⟨H3.out.1.keep2 HC.out.1 HC.out.2.2.1 HC.out.2.2.2.1 (fun g hg => hk4.1.block g hg), H3.out.2.1.trans (hk4.1.mono HC.out.2.2.2.2.1), fun g hg hp => (hk4.1.block g (by have := HC.out.2.2.2.2.2; omega)).trans (H3.out.2.2.1 g hg hp), by rw [HXX.out.2.2.2]; exact Or.inr hd4, by have h8 := H3.out.2.2.2.2; have h9 := hk4.1.size; omega⟩
          clear hd4 hk4
          go_wp2
          refine ⟨⟨y + 1, f', said ++ [UInt8.ofNat z], by omega, ⟨HXX.out.2.1, HXX.out.2.2.1, HXX.out.1⟩, H4⟩, ?_⟩
          rw [H4.out.1.posOf, HT.out.1.posOf]
          show L.length - (y + 1) < L.length - x
          have := HXY.out
          omega
      · have HSB : Hid (∀ n, Calls Tryz.prog 38 #[.pointer (some ⟨P, 0, none⟩), .int .u8 (92 : Nat)] (wr.drewN n) fun e w' => e = .returned (.bool false) ∧ Dr wr w') := fun n => by
          have h9 := HSe.out n 92 (by decide)
          rwa [show decide ((L.getD x 0).toNat = 92) = false from by simpa using hb] at h9
        have HTk : Hid (∀ n, Calls Tryz.prog 56 #[.pointer (some ⟨P, 0, none⟩), .func (.func 99) #[] #[]] (wr.drewN n) fun e w' => e = .returned (.string (mkB ((L.drop x).take (rch isPl (L.drop x))))) ∧ TS B P L tv iv w' { p with pos := x + rch isPl (L.drop x) } ∧ Below B w w' ∧ OnlyP P w w' ∧ BdIs C C (Lib.byteCells said) w' ∧ C ≤ w'.heap.size) := fun n => (take_any (HT.out.1.drewN n) hL hx 99 isPl (fun W _ => says_pl W)).mono fun e w' ⟨a, b, c, d⟩ => ⟨a, b, HT.out.2.1.trans ((below_drewN (Below.refl B wr) n).trans c), fun g hg hp => (d g hp).trans (HT.out.2.2.1 g hg hp), bd_keep HT.out.2.2.2.1 fun g hg => d g (by have := HC.out.1; omega), by have h8 := HT.out.2.2.2.2; have h9 := ((below_drewN (Below.refl B wr) n).trans c).size; omega⟩
        have hkl := rch_le isPl (L.drop x)
        rw [List.length_drop] at hkl
        have HTS : Hid (rch isPl (L.drop x) = 0 → RES = .error x) := fun h0 => HF.out.2.2.trans (txt_stop f' L said x hq hb h0)
        have HTP : Hid (rch isPl (L.drop x) ≠ 0 → RES = txt f' (L.drop (x + rch isPl (L.drop x))) (said ++ (L.drop x).take (rch isPl (L.drop x))) (x + rch isPl (L.drop x))) := fun h0 => HF.out.2.2.trans (txt_plain f' L said x hq hb h0)
        have htl : ((L.drop x).take (rch isPl (L.drop x))).length = rch isPl (L.drop x) := by rw [List.length_take, List.length_drop]; omega
        clear hq hb HSe
        generalize (L.drop x).take (rch isPl (L.drop x)) = pl at *
        generalize rch isPl (L.drop x) = k at *
        have hE : ((mkB pl).toList == []) = decide (k = 0) := by
          rw [mk_toList, Bool.eq_iff_iff]
          simp [← htl]
        by_cases hk : k = 0
        · subst hk
          have HXX : Hid (RES = .error x) := HTS.out rfl
          rw [show decide ((0 : Nat) = 0) = true from rfl] at hE
          rw [Nat.add_zero] at HTk
          clear HTS HTP htl hkl
          generalize mkB pl = t at *
          go_wp2_with fail
          refine (HSA.out 0).mono ?_
          rintro e w1 ⟨rfl, n1, rfl⟩
          go_wp2_with fail
          refine (HSB.out n1).mono ?_
          rintro e w2 ⟨rfl, n2, rfl⟩
          go_wp2_with fail
          refine (HTk.out n2).mono ?_
          rintro e w3 ⟨rfl, hts3, hb3, ho3, -, -⟩
          have H3 : Hid (TS B P L tv iv w3 { p with pos := x } ∧ Below B w w3 ∧ OnlyP P w w3) := ⟨hts3, hb3, ho3⟩
          clear hts3 hb3 ho3
          go_wp2_with fail
          refine (giveUp_any H3.out.1 1).mono ?_
          rintro e w' ⟨rfl, rfl⟩
          go_wp2
          refine ⟨rfl, fun z hz => ?_, fun t z hz => ?_, H3.out.2.1, H3.out.2.2⟩
          · rw [HXX.out] at hz; cases hz; rfl
          · rw [HXX.out] at hz; cases hz
        · have HX := HTP.out hk
          rw [show decide (k = 0) = false from by simpa using hk] at hE
          have HXX : Hid (RES = txt f' (L.drop (x + k)) (said ++ pl) (x + k) ∧ (L.drop (x + k)).length < f' ∧ (said ++ pl).length ≤ x + k ∧ Lib.byteCells (said ++ pl) = Lib.byteCells said ++ Lib.strCells (mkB pl) ∧ 0 < k ∧ x + k ≤ L.length) := by
            refine ⟨HX, ?_, ?_, ?_, by omega, by omega⟩
            · have := HF.out.1
              rw [List.length_drop] at this ⊢
              omega
            · have := HF.out.2.1
              rw [List.length_append]
              omega
            · rw [Lib.strCells_eq, mk_data]
              simp [Lib.byteCells]
          have HSL : Hid (said.length ≤ 6000 ∧ (mkB pl).size ≤ 6000) := by
            refine ⟨?_, ?_⟩
            · have := HF.out.2.1; omega
            · rw [mk_size]; omega
          clear HX HTS HTP htl hkl hk
          generalize mkB pl = t at *
          go_wp2_with fail
          refine (HSA.out 0).mono ?_
          rintro e w1 ⟨rfl, n1, rfl⟩
          go_wp2_with fail
          refine (HSB.out n1).mono ?_
          rintro e w2 ⟨rfl, n2, rfl⟩
          go_wp2_with fail
          refine (HTk.out n2).mono ?_
          rintro e w3 ⟨rfl, hts3, hb3, ho3, hd3, hc3⟩
          have H3 : Hid (TS B P L tv iv w3 { p with pos := x + k } ∧ Below B w w3 ∧ OnlyP P w w3 ∧ BdIs C C (Lib.byteCells said) w3 ∧ C ≤ w3.heap.size) := ⟨hts3, hb3, ho3, hd3, hc3⟩
          clear hts3 hb3 ho3 hd3 hc3
          go_wp2_with fail
          refine (wsL_any C C (Lib.byteCells said) t _ H3.out.2.2.2.1 (by rw [Lib.byteCells_length]; have := HSL.out; omega) H3.out.2.2.2.2).mono ?_
          rintro e w4 ⟨rfl, hd4, hk4⟩
          have H4 : Hid (TS B P L tv iv w4 { p with pos := x + k } ∧ Below B w w4 ∧ OnlyP P w w4 ∧ BdIs C C (Lib.byteCells (said ++ pl)) w4 ∧ C ≤ w4.heap.size) := ⟨H3.out.1.keep2 HC.out.1 HC.out.2.2.1 HC.out.2.2.2.1 (fun g hg => hk4.1.block g hg), H3.out.2.1.trans (hk4.1.mono HC.out.2.2.2.2.1), fun g hg hp => (hk4.1.block g (by have := HC.out.2.2.2.2.2; omega)).trans (H3.out.2.2.1 g hg hp), by rw [HXX.out.2.2.2.1]; exact Or.inr hd4, by have h8 := H3.out.2.2.2.2; have h9 := hk4.1.size; omega⟩
          clear hd4 hk4
          go_wp2
          refine ⟨⟨x + k, f', said ++ pl, HXX.out.2.2.2.2.2, ⟨HXX.out.2.1, HXX.out.2.2.1, HXX.out.1⟩, H4⟩, ?_⟩
          rw [H4.out.1.posOf, HT.out.1.posOf]
          show L.length - (x + k) < L.length - x
          have := HXX.out.2.2.2.2
          omega
end Go.Proofs.YtheiijnpggabkaaGreatDoor
