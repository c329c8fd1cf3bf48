/- The document's book: time is told, walked. -/
import Derived.Test.YtocahjnibdgmoaaLpV
namespace Go.Proofs.Ytocahjnibdgmoaa
open Go.RowKit Go.Shelf Go.Sort

section
variable {B R : Nat} {a b c : Int} {nv sv tv av : Value} {d : Db} {w : World} {P : List Pj}

set_option maxHeartbeats 2000000 in
set_option maxRecDepth 100000 in
theorem Time_range (now q : Int) (ht : now < 0 ∨ 1000000000 < now ∨ nobody q = true) :
    Calls Try.prog 19 #[.pointer (some ⟨R, 0, none⟩), .int .i64 now, .int .i64 q] w fun e w' => e = .returned (.tuple #[.slice none 0 0, .int .i64 3]) ∧ w' = w := by
  by_cases h1 : now < 0
  · clear ht
    go_enter Try.func19, Try.ntmps19
    go_wp2
    go_ret2
    exact ⟨rfl, rfl⟩
  · by_cases h2 : 1000000000 < now
    · clear ht
      go_enter Try.func19, Try.ntmps19
      go_wp2
      go_ret2
      exact ⟨rfl, rfl⟩
    · have hn : nobody q = true := by
        rcases ht with h | h | h
        · exact absurd h h1
        · exact absurd h h2
        · exact h
      have h3 : q < 1 ∨ 50 < q := by unfold nobody at hn; simpa using hn
      clear ht hn
      by_cases h4 : q < 1
      · clear h3
        go_enter Try.func19, Try.ntmps19
        go_wp2
        go_ret2
        exact ⟨rfl, rfl⟩
      · have h5 : 50 < q := by omega
        clear h3
        go_enter Try.func19, Try.ntmps19
        go_wp2
        go_ret2
        exact ⟨rfl, rfl⟩

set_option maxHeartbeats 2000000 in
set_option maxRecDepth 100000 in
theorem Time_state (h : DB B R a b c nv sv tv av d w) (now q : Int) (h1 : ¬ now < 0) (h2 : ¬ 1000000000 < now) (hq : nobody q = false) (h3 : now < d.now) :
    Calls Try.prog 19 #[.pointer (some ⟨R, 0, none⟩), .int .i64 now, .int .i64 q] w fun e w' => e = .returned (.tuple #[.slice none 0 0, .int .i64 4]) ∧ w' = w := by
  have c3 := h.c3
  have h4 := nobody_rg hq
  have h5 : ¬ q < 1 := by omega
  have h6 : ¬ 50 < q := by omega
  generalize d.now = dn at *
  clear h hq h4
  go_enter Try.func19, Try.ntmps19
  go_wp2
  go_ret2
  exact ⟨rfl, rfl⟩

set_option maxHeartbeats 8000000 in
set_option maxRecDepth 100000 in
theorem Time_ok (h : DB B R a b c nv sv tv av d w) (hs : Sim b P d) (ho : PO b P) (hup : P.Pairwise fun x y => x.nm ≤ y.nm) (hb : d.A.length ≤ 1000) (hnb : d.N.length ≤ 1000) (now q : Int) (h1 : ¬ now < 0) (h2 : ¬ 1000000000 < now) (hq : nobody q = false) (h3 : ¬ now < d.now) :
    Calls Try.prog 19 #[.pointer (some ⟨R, 0, none⟩), .int .i64 now, .int .i64 q] w fun e w' => ∃ v, e = .returned (.tuple #[v, .int .i64 0]) ∧ ∃ n, TI B R a b c nv sv tv av d w P now 0 v n w' := by
  have c3 := h.c3
  have h4 := nobody_rg hq
  have h5 : ¬ q < 1 := by omega
  have h6 : ¬ 50 < q := by omega
  have f3 := DS.fz h 3
  obtain ⟨s1, s2⟩ := DS.setHd h 3 (.int .i64 now) (by simp)
  have hTI : TI B R a b c nv sv tv av d w P now d.A.length (.slice none 0 0) 0 (w.setCell ⟨R, 3, none⟩ (.int .i64 now)) := by
    have hall : ∀ x ∈ lsP P, x ∈ d.A := fun x hx => hs.perm.mem_iff.2 hx
    refine ⟨av, [], d.A, { d with now := now }, s1, ?_, rfl, rfl, rfl, rfl, rfl, hs.perm.nodup_iff.2 (lsP_nd P ho.ne ho.wk), fun x hx => hs.perm.mem_iff.1 hx, s2, ?_, fun _ => rfl, fun g hg => (by cases hg), by omega⟩
    · rw [fP_all hall]
      exact ⟨hs.nd, hs.sl, hs.tl, hs.ln, hs.at_, hs.in_, hs.perm⟩
    · rw [outs_all hall]
      exact World.ownsRow_nil _ _ _ _
  have H0 : Hid (TI B R a b c nv sv tv av d w P now d.A.length (.slice none 0 0) 0 (w.setCell ⟨R, 3, none⟩ (.int .i64 now))) := hTI
  have HP : Hid (PO b P ∧ (P.Pairwise fun x y => x.nm ≤ y.nm) ∧ d.N.length ≤ 1000) := ⟨ho, hup, hnb⟩
  generalize hAl : d.A.length = al at *
  clear hAl
  generalize hdn : d.now = dn at c3 h3
  clear hdn h hs ho hup hb hnb hq h4 s1 s2 hTI
  go_enter Try.func19, Try.ntmps19
  go_wp2
  go_loopg [8, 9] al (fun gk ov iv wr => ∃ n : Nat, iv = .int .i64 (n : Int) ∧ Hid (TI B R a b c nv sv tv av d w P now gk ov n wr))
  case atStart => exact ⟨0, rfl, H0⟩
  case round =>
    obtain ⟨n, rfl, HT⟩ := hrel
    clear H0 c3 f3
    obtain ⟨av', pre, rest, dd, t1, t2, t3, t4, t5, t6, t7, t8, t9, t10, t11, t12, t13, t14⟩ := HT.out.ex
    have c7 := t1.c7
    obtain ⟨ao, cap, hv⟩ := t1.ar.shape
    subst hv
    have hal : dd.A.length = n + gk := by rw [t3, List.length_append, ← t6, ← t7]
    obtain ⟨m, hm⟩ : ∃ m, m = dd.A.length := ⟨_, rfl⟩
    rw [← hm] at c7
    by_cases hlt : n < m
    · have hni : (n : Int) < (m : Int) := by omega
      cases rest with
      | nil => simp at t7; omega
      | cons x r =>
        have hx : dd.A[n]'(by omega) = x := by simp [t3, t6]
        obtain ⟨g, cap', hv, e1, e2, e3⟩ := row_l t1.ar n (by omega)
        cases hv
        clear e2
        rw [hx] at e1 e3
        obtain ⟨nm, wk, tl⟩ := x
        simp only at e1 e3
        obtain ⟨s, es⟩ : ∃ s : ByteArray, s = ⟨nm.toArray⟩ := ⟨_, rfl⟩
        have hsn : s.data.toList = nm := by rw [es]
        rw [← es] at e1
        obtain ⟨hxr, hnr⟩ := List.nodup_cons.1 t8
        obtain ⟨po, hup, hnb⟩ := HP.out
        have hin : ((nm, wk, tl) : List UInt8 × Int × Int) ∈ lsP P := t9 _ (by simp)
        have hrl : gk = r.length + 1 := by simpa using t7
        by_cases htl : now ≤ tl
        · have HT2 : Hid (TI B R a b c nv sv tv av d w P now r.length u8 (n + 1) wr) := by
            refine ⟨_, pre ++ [(nm, wk, tl)], r, dd, t1, ?_, ?_, t4, t5, by rw [List.length_append, ← t6]; rfl, rfl, hnr, fun y hy => t9 y (by simp [hy]), t10, ?_, ?_, t13, by omega⟩
            · rw [← fP_keep (x := (nm, wk, tl)) htl]; exact t2
            · rw [t3]; simp
            · rw [← outs_keep (x := (nm, wk, tl)) htl]; exact t11
            · rw [← outs_keep (x := (nm, wk, tl)) htl]; exact t12
          obtain ⟨n1, hn1⟩ : ∃ n1, n1 = n + 1 := ⟨_, rfl⟩
          have y1 : (n : Int) + 1 = (n1 : Int) := by omega
          have y2 : IntKind.i64.wrap (n1 : Int) = (n1 : Int) := by rw [IntKind.wrap_i64]; omega
          rw [← hn1] at HT2
          have HG : Hid (r.length < gk) := by unfold Hid; omega
          clear t1 t2 t3 t4 t5 t6 t7 t8 t9 t10 t11 t12 t13 t14 hal hm hlt hx es hsn hxr hnr po hup hnb hin hrl hn1
          go_wp2
          go_roundg r.length
          case measure => exact HG.out
          case rel => exact ⟨n1, rfl, HT2⟩
        · obtain ⟨p, hf, hpt, hcall⟩ := drop_sim t1 t2 (po.fP _) t3 (by omega) (by rw [t5]; omega)
          rw [← fP_drop po.wk po.ne htl hxr hin, ← t6] at hcall
          obtain ⟨o1, o2⟩ := outs_drop (rest := r) po.wk po.ne htl hxr hin hf hpt
          have hol : (outs now ((nm, wk, tl) :: r) P).length ≤ 1000000 := by
            unfold outs
            rw [List.length_map]
            have h7 := List.length_filter_le (gone now ((nm, wk, tl) :: r)) P
            have h8 := t2.ln
            have h9 : (fPl now ((nm, wk, tl) :: r) P).length = P.length := by unfold fPl; simp
            rw [t5] at h8
            omega
          by_cases hof : offT wk p.ts = []
          · have HD : Hid (Calls Try.prog 37 #[.pointer (some ⟨R, 0, none⟩), .int .i64 (n : Int)] wr fun e w' => e = .returned (.bool true) ∧ Hid (Calls Try.prog 38 #[u8, .string s] w' fun e w'' => ∃ v', e = .returned v' ∧ Hid (TI B R a b c nv sv tv av d w P now r.length v' n w''))) := by
              rw [show decide (offT ((nm, wk, tl) : List UInt8 × Int × Int).2.1 p.ts = []) = true from decide_eq_true hof] at hcall
              refine hcall.mono ?_
              rintro e w' ⟨rfl, av2, d2, q1, q2, q3, q4, q5, q6⟩
              refine ⟨rfl, ?_⟩
              obtain ⟨o3, o4⟩ := o2 hof
              have hrow : w'.ownsRow w.heap.size 9 1 u8 (outs now ((nm, wk, tl) :: r) P).length ((outs now ((nm, wk, tl) :: r) P).map encStr) := own_heapL t11 fun g hg => q2.block g (t11.lt g hg).2 (t13 g hg)
              have hsz : w.heap.size ≤ w'.heap.size := Nat.le_trans t10.size q2.size
              refine (AddText_out (s := s) hsz hrow t12 hol (by rw [hsn]; exact o3) (outs_up hup) (outs_nd po.ne) (outs_up (rest := r) hup) (outs_nd po.ne) (fun y => by rw [hsn]; exact o4 y)).mono ?_
              rintro e w'' ⟨v', rfl, z1, z2, z3, z4⟩
              refine ⟨v', rfl, av2, pre, r, d2, DS.up q1 z3, q3, q4, q6.trans t4, q5.trans t5, t6, rfl, hnr, fun y hy => t9 y (by simp [hy]), ((t10.trans q2).trans (Upd.of_below z3)), z1, fun e => absurd e z2, fun g hg hm => ?_, by omega⟩
              have := (DS.lt q1 g hm).2
              have := z4 g hg
              omega
            have HG : Hid (r.length < gk) := by unfold Hid; omega
            clear t1 t2 t3 t4 t5 t6 t7 t8 t9 t10 t11 t12 t13 t14 hal hm hlt hx es hsn hxr hnr po hup hnb hin hrl hf hpt hcall o1 o2 hol hof
            go_wp2_with (first
              | (go_at_call 37; refine HD.out.mono ?_; rintro e w5 ⟨rfl, HA⟩)
              | (go_at_call 38; refine HA.out.mono ?_; rintro e w6 ⟨v6, rfl, HT2⟩)
              | go_in)
            go_roundg r.length
            case measure => exact HG.out
            case rel => exact ⟨n, rfl, HT2⟩
          · have HD : Hid (Calls Try.prog 37 #[.pointer (some ⟨R, 0, none⟩), .int .i64 (n : Int)] wr fun e w' => e = .returned (.bool false) ∧ Hid (TI B R a b c nv sv tv av d w P now r.length u8 n w')) := by
              rw [show decide (offT ((nm, wk, tl) : List UInt8 × Int × Int).2.1 p.ts = []) = false from decide_eq_false hof] at hcall
              refine hcall.mono ?_
              rintro e w' ⟨rfl, av2, d2, q1, q2, q3, q4, q5, q6⟩
              have ho := o1 hof
              refine ⟨rfl, av2, pre, r, d2, q1, q3, q4, q6.trans t4, q5.trans t5, t6, rfl, hnr, fun y hy => t9 y (by simp [hy]), t10.trans q2, ?_, ?_, fun g hg hm => ?_, by omega⟩
              · rw [ho]
                exact own_heapL t11 fun g hg => q2.block g (t11.lt g hg).2 (t13 g hg)
              · rw [ho]
                exact t12
              · rcases q2.new g hm with e | e
                · exact t13 g hg e
                · have := (t11.lt g hg).2; omega
            have HG : Hid (r.length < gk) := by unfold Hid; omega
            clear t1 t2 t3 t4 t5 t6 t7 t8 t9 t10 t11 t12 t13 t14 hal hm hlt hx es hsn hxr hnr po hup hnb hin hrl hf hpt hcall o1 o2 hol hof
            go_wp2_with (first
              | (go_at_call 37; refine HD.out.mono ?_; rintro e w5 ⟨rfl, HT2⟩)
              | go_in)
            go_roundg r.length
            case measure => exact HG.out
            case rel => exact ⟨n, rfl, HT2⟩
    · have hni : ¬ (n : Int) < (m : Int) := by omega
      have hg0 : gk = 0 := by omega
      have HT0 : Hid (TI B R a b c nv sv tv av d w P now 0 u8 n wr) := by rw [← hg0]; exact HT
      clear t1 t2 t3 t4 t5 t6 t7 t8 t9 t10 t11 t12 t13 t14 hal hm hlt hg0
      go_wp2
      go_ret2
      exact ⟨_, rfl, n, HT0.out⟩
end
end Go.Proofs.Ytocahjnibdgmoaa
