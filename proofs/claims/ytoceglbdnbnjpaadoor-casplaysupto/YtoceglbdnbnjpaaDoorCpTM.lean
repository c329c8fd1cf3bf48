/- The document's Kept: one is taken out. -/
import Derived.Test.YtoceglbdnbnjpaaDoorCpFM
namespace Go.Proofs.YtoceglbdnbnjpaaDoor
open Go.RowKit Go.Shelf Go.Sort
attribute [local go_sem ↓] appS_eq

theorem infI1 : (Tryd.prog.info? 3).map (fun i => (i.zero, i.size, i.bytes)) = some (some (.int .i64 0), 1, 8) := by kernel_rfl
theorem infS1 : (Tryd.prog.info? 9).map (fun i => (i.zero, i.size, i.bytes)) = some (some (.string ⟨#[]⟩), 1, 16) := by kernel_rfl
theorem inf_parts {o : Option TypeInfo} {z : Option Value} {s b : Nat} (h : o.map (fun i => (i.zero, i.size, i.bytes)) = some (z, s, b)) : ∃ i, o = some i ∧ i.zero = z ∧ i.size = s ∧ i.bytes = b := by
  cases o with
  | none => cases h
  | some i =>
    simp only [Option.map_some, Option.some.injEq, Prod.mk.injEq] at h
    exact ⟨i, rfl, h.1, h.2.1, h.2.2⟩

def kcut {α : Type} (l : List α) (i : Nat) : List α := l.take i ++ l.drop (i + 1)
theorem kcut_len {α : Type} {l : List α} {i : Nat} (h : i < l.length) : (kcut l i).length = l.length - 1 := by unfold kcut; rw [List.length_append, List.length_take, List.length_drop]; omega
theorem kcut_map {α β : Type} (f : α → β) (l : List α) (i : Nat) : kcut (l.map f) i = (kcut l i).map f := by unfold kcut; simp [List.map_take, List.map_drop]
theorem kcut_mem {α : Type} {l : List α} {i : Nat} {x : α} (h : x ∈ kcut l i) : x ∈ l := by
  unfold kcut at h
  rcases List.mem_append.1 h with h | h
  · exact List.mem_of_mem_take h
  · exact List.mem_of_mem_drop h

section
variable {ty : TypeId} {B R : Nat} {hd : List Value} {l1 l2 : List Fw} {w : World}
/-- A row loses one. -/
theorem DS.cutRow {e t : TypeId} {g n cap : Nat} {xs : List Value} {z : Value} {bytes : Nat} {i0 : TypeInfo} (h : DS ty B R hd (l1 ++ ⟨.slice (some ⟨g, 0, none⟩) n cap, e, 1, n, xs⟩ :: l2) w) (ht : Tryd.prog.underlying t = some (.slice e)) (hi : Tryd.prog.info? e = some i0) (hz : i0.zero = some z) (hsz : i0.size = 1) (hby : i0.bytes = bytes) (hzs : z.cells.size = 1) (hb16 : bytes ≤ 16) (k : Nat) (hk : k = hd.length + l1.length) (hcap : n ≤ cap) (i i1 : Nat) (hin : i < n) (hi1 : i1 = i + 1) (hb : n ≤ 1000000) :
    ∃ v' w', (∃ a2 c2, v' = .slice a2 (n - 1) c2) ∧ (appS #[t, t] t #[.slice (some ⟨g, 0, none⟩) i i, .slice (if cap = i1 then some (⟨g, 0, none⟩ : Addr) else some ⟨g, i1, none⟩) (n - i1) (cap - i1)]).run Tryd.prog w.drew = .ok v' w' ∧ (∃ u, w'.cell? ⟨R, k, none⟩ = some u) ∧ w'.frozen? ⟨R, k, none⟩ = false ∧ DS ty B R hd (l1 ++ ⟨v', e, 1, n - 1, kcut xs i⟩ :: l2) (w'.setCell ⟨R, k, none⟩ v') ∧ Upd (rid R (l1 ++ ⟨.slice (some ⟨g, 0, none⟩) n cap, e, 1, n, xs⟩ :: l2)) (rid R (l1 ++ ⟨v', e, 1, n - 1, kcut xs i⟩ :: l2)) w (w'.setCell ⟨R, k, none⟩ v') := by
  subst hi1
  have hB : B ≤ w.heap.size := by have := h.lo; have := (h.lt R List.mem_cons_self).2; omega
  have hrow0 : RowL w B e 1 (.slice (some ⟨g, 0, none⟩) n cap) n xs := h.rows ⟨.slice (some ⟨g, 0, none⟩) n cap, e, 1, n, xs⟩ (by simp)
  obtain ⟨ad, had⟩ : ∃ ad : Addr, (if cap = i + 1 then some (⟨g, 0, none⟩ : Addr) else some ⟨g, i + 1, none⟩) = some ad := by
    split
    · exact ⟨_, rfl⟩
    · exact ⟨_, rfl⟩
  have had2 : n - (i + 1) ≠ 0 → ad = ⟨g, (i + 1) * 1, none⟩ := fun e => by
    rw [if_neg (by omega)] at had
    rw [Nat.mul_one]
    exact (Option.some.inj had).symm
  obtain ⟨v', w', hrun, hrow, hgr, hat⟩ := RowL.cut (P := Tryd.prog) (w := w.drew) (h := (hrow0.keep fun _ _ => rfl)) t t i0 z bytes ht hi hz hsz hby hzs i (cap - (i + 1)) hin ad had2 (by
    have : n * bytes ≤ 1000000 * 16 := Nat.mul_le_mul hb hb16
    omega) hB
  have hrow : RowL w' B e 1 v' (n - 1) (kcut xs i) := by
    have := hrow
    rw [Nat.mul_one, Nat.mul_one] at this
    exact this
  have hu : Upd (ob (.slice (some ⟨g, 0, none⟩) n cap)) (ob v') w w' := by
    refine ⟨hgr.os, hgr.tape, hgr.output, hgr.size, fun k hk _ => hgr.block k hk (by simp), fun k hk => ?_⟩
    rcases hat with e | e
    · left
      have := mem_ob.1 hk
      rw [e] at this
      injection this with this
      subst this
      exact mem_ob.2 rfl
    · right
      have := mem_ob.1 hk
      rw [e] at this
      injection this with this
      subst this
      exact Nat.le_refl _
  have hs := DS.setRow (r' := ⟨v', e, 1, n - 1, kcut xs i⟩) h hu hrow k hk
  obtain ⟨a2, c2, hv2⟩ := hrow.shape
  exact ⟨v', w', ⟨a2, c2, hv2⟩, by rw [had]; exact hrun, hs.2.1, hs.1, hs.2.2.1, hs.2.2.2⟩
end

section
variable {B R : Nat} {rm : Int} {tv pv : Value} {L : List Kt} {w : World}
set_option maxHeartbeats 8000000 in
set_option maxRecDepth 100000 in
theorem Ktake_any (h : KD B R rm tv pv L w) (hb : L.length ≤ 1000000) (i : Nat) (hi : i < L.length) :
    Calls Tryd.prog 41 #[.pointer (some ⟨R, 0, none⟩), .int .i64 (i : Int)] w fun e w' => e = .returned (.tuple #[.string (L[i]).1, .int .i64 ((L[i]).2 : Int)]) ∧ ∃ tv' pv', KD B R rm tv' pv' (kcut L i) w' ∧ Upd (rid R (krs tv pv L)) (rid R (krs tv' pv' (kcut L i))) w w' := by
  obtain ⟨g, cap, hv, d0⟩ := h.t i hi
  obtain ⟨g', cap', cur, hv2, hcap, _⟩ := h.tr.at (by omega)
  rw [hv] at hv2
  cases hv2
  obtain ⟨gp, capp, hvp, d1⟩ := h.p i hi
  obtain ⟨g', cap', cur, hv2, hcapp, _⟩ := h.pr.at (by omega)
  rw [hvp] at hv2
  cases hv2
  subst hv hvp
  obtain ⟨n, en⟩ : ∃ n, n = L.length := ⟨_, rfl⟩
  obtain ⟨i1, hi1⟩ : ∃ i1, i1 = i + 1 := ⟨_, rfl⟩
  have c1 := h.c1
  have c2 := h.c2
  have h0 : DS 33 B R [.int .i64 rm] [⟨.slice (some ⟨g, 0, none⟩) n cap, 9, 1, n, ktx L⟩, ⟨.slice (some ⟨gp, 0, none⟩) n capp, 3, 1, n, kpn L⟩] w.drew := by
    have := DS.keep (W' := w.drew) h fun _ _ => rfl
    unfold krs at this
    rw [← en] at this
    exact this
  rw [← en] at c1 c2 hcap hcapp hb
  have hin : i < n := by omega
  obtain ⟨iS, hS, zS, yS, xS⟩ := inf_parts infS1
  obtain ⟨iI, hI, zI, yI, xI⟩ := inf_parts infI1
  obtain ⟨v1, w1, ⟨a2, cc2, hv1⟩, hap1, ⟨u7, r1⟩, r2, f1, f2⟩ := DS.cutRow (l1 := []) (t := 30) h0 Tryd.underlying30 hS zS yS xS rfl (by decide) 1 rfl hcap i i1 hin hi1 hb
  obtain ⟨W1, hW1⟩ : ∃ W1, W1 = w1.setCell ⟨R, 1, none⟩ v1 := ⟨_, rfl⟩
  rw [← hW1] at f1 f2
  obtain ⟨v2, w2, ⟨a3, cc3, hv3⟩, hap2, ⟨u8, r3⟩, r4, f3, f4⟩ := DS.cutRow (l1 := [⟨v1, 9, 1, n - 1, kcut (ktx L) i⟩]) (l2 := []) (t := 31) f1 Tryd.underlying31 hI zI yI xI rfl (by decide) 2 rfl hcapp i i1 hin hi1 hb
  have k2 : W1.cell? ⟨R, 2, none⟩ = some (.slice (some ⟨gp, 0, none⟩) n capp) := DS.c f1 2
  have HF : Hid (KD B R rm v1 v2 (kcut L i) (w2.setCell ⟨R, 2, none⟩ v2) ∧ Upd (rid R (krs (.slice (some ⟨g, 0, none⟩) L.length cap) (.slice (some ⟨gp, 0, none⟩) L.length capp) L)) (rid R (krs v1 v2 (kcut L i))) w (w2.setCell ⟨R, 2, none⟩ v2)) := by
    have e1 : ktx (kcut L i) = kcut (ktx L) i := (kcut_map _ _ _).symm
    have e2 : kpn (kcut L i) = kcut (kpn L) i := (kcut_map _ _ _).symm
    have e3 : (kcut L i).length = n - 1 := by rw [kcut_len hi, en]
    unfold KD krs
    rw [e1, e2, e3, ← en]
    have f5 := f2.trans f4
    exact ⟨f3, ⟨f5.os, f5.tape, f5.output, f5.size, f5.block, f5.new⟩⟩
  have e1 : (i : Int) + 1 = (i1 : Int) := by omega
  have e2 : IntKind.i64.wrap (i1 : Int) = (i1 : Int) := by rw [IntKind.wrap_i64]; omega
  have e3 : (i1 : Int) ≤ (n : Int) := by omega
  have e4 : (n : Int) ≤ (cap : Int) := by omega
  have e5 : (i : Int) ≤ (cap : Int) := by omega
  have e6 : (i : Int) < (n : Int) := by omega
  have e7 : (n : Int) ≤ (capp : Int) := by omega
  have e8 : (i : Int) ≤ (capp : Int) := by omega
  have HW1 : Hid (w1.setCell ⟨R, 1, none⟩ v1 = W1) := hW1.symm
  generalize (L[i]).1 = x at d0
  generalize (L[i]).2 = q at d1
  clear f1 f2 f3 f4 hW1 h h0 hS zS yS xS hI zI yI xI hcap hcapp en hi1 hb hi hin
  subst hv1 hv3
  have HL : Hid (W1.cell? ⟨R, 2, none⟩ = some (.slice (some ⟨gp, 0, none⟩) n capp)) := k2
  clear k2
  go_enter Tryd.func41, Tryd.ntmps41
  go_wp2
  go_region
  go_wp2
  go_region
  rw [HW1.out]
  generalize (if cap = i1 then some (⟨g, 0, none⟩ : Addr) else some ⟨g, i1, none⟩) = ax
  clear hap1 r1 r2 c1 c2 d0 d1 e4 e5
  have k2 := HL.out
  go_wp2
  go_region
  go_wp2
  all_goals
    go_ret2
    exact ⟨rfl, _, _, HF.out⟩
end
end Go.Proofs.YtoceglbdnbnjpaaDoor
