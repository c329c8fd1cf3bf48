/- A job is removed. -/
import Derived.Test.YtfddhdpnoliamaaQuT
namespace Go.Proofs.Ytfddhdpnoliamaa
open Go.RowKit Go.Shelf

theorem mid_ptr {B P : Nat} {rv : Value} {a b : List Ce} {c : Ce} {w : World} {q : Qu} (h : QS B P rv (a ++ c :: b) w q) : ∃ g cap, rv = .slice (some ⟨g, 0, none⟩) (a.length + (b.length + 1)) cap ∧ w.cell? ⟨g, a.length, none⟩ = some (.pointer (some ⟨c.blk, 0, none⟩)) := by
  obtain ⟨g, cap, hv, hg1, hg2⟩ := h.row.form (by simp; omega)
  have hr := h.row
  rw [hv] at hr
  refine ⟨g, cap, by rw [hv]; simp, (hr.cellAt a.length (by simp)).trans ?_⟩
  simp [pc]
theorem Upd.mem {I J : List Nat} {w w' : World} (h : Upd I I w w') (hs : ∀ g ∈ I, g ∈ J) : Upd J J w w' := ⟨h.os, h.tape, h.output, h.size, fun g hg hn => h.block g hg fun hi => hn (hs g hi), fun _ h => .inl h⟩

def cut1 (l : List Jb) (i : Nat) : List Jb := l.take i ++ l.drop (i + 1)

set_option maxHeartbeats 4000000 in
set_option maxRecDepth 100000 in
theorem remove_keep {B P : Nat} {rv : Value} {a b : List Ce} {c : Ce} {w : World} {q : Qu} (h : QS B P rv (a ++ c :: b) w q) (i : Nat) (hi : i < c.t.jobs.length) (h2 : 2 ≤ c.t.jobs.length) (hm : c.t.jobs.length ≤ 1000000) :
    Calls Try.prog 33 #[.pointer (some ⟨P, 0, none⟩), .int .i64 (a.length : Int), .int .i64 (i : Int)] w fun e w' => e = .returned (.tuple #[]) ∧ ∃ jv',
      QS B P rv (a ++ ⟨c.blk, jv', { c.t with jobs := cut1 c.t.jobs i }⟩ :: b) w' { q with ring := a.map Ce.t ++ { c.t with jobs := cut1 c.t.jobs i } :: b.map Ce.t } ∧ Upd (ids P rv (a ++ c :: b)) (ids P rv (a ++ ⟨c.blk, jv', { c.t with jobs := cut1 c.t.jobs i }⟩ :: b)) w w' := by
  have H : Hid (QS B P rv (a ++ c :: b) w q) := h
  have c1 := h.c1
  have ht := h.tens c (by simp)
  have t2 := ht.c2
  obtain ⟨g, cap, hrv, k0⟩ := mid_ptr h
  rw [hrv] at c1
  obtain ⟨ja, jcap, hjv⟩ := row_shape ht.row
  rw [hjv] at t2
  obtain ⟨i1, hi1⟩ : ∃ i1, i1 = i + 1 := ⟨_, rfl⟩
  have HD : Hid (∀ W : World, W.heap = w.heap → Calls Try.prog 40 #[.slice ja c.t.jobs.length jcap, .int .i64 (i : Int), .int .i64 (i1 : Int)] W fun e w' => ∃ v', e = .returned v' ∧ w'.ownsRow B 34 3 v' (cut1 c.t.jobs i).length (jcs (cut1 c.t.jobs i)) ∧ v'.ownBlock = c.jv.ownBlock ∧ Upd (ob c.jv) (ob c.jv) W w') := by
    intro W hW
    have := delJ_row (w := W) (own_heap ht.row fun g _ => by rw [hW]) i hi
    rw [hjv] at this
    rw [hi1, hjv]
    exact this
  have hlt := ht.lt
  have hne := h.c_ne
  have hcl : (cut1 c.t.jobs i).length = c.t.jobs.length - 1 := by unfold cut1; rw [List.length_append, List.length_take, List.length_drop, Nat.min_eq_left (by omega)]; omega
  -- behind the store
  have HE : Hid (∀ (v' : Value) (w1 : World), w1.ownsRow B 34 3 v' (cut1 c.t.jobs i).length (jcs (cut1 c.t.jobs i)) → v'.ownBlock = c.jv.ownBlock → Upd (ob c.jv) (ob c.jv) w w1 →
      (w1.cell? ⟨c.blk, 2, none⟩ = some c.jv ∧ w1.frozen? ⟨c.blk, 2, none⟩ = false) ∧
      (QS B P rv (a ++ ⟨c.blk, v', { c.t with jobs := cut1 c.t.jobs i }⟩ :: b) (w1.setCell ⟨c.blk, 2, none⟩ v') { q with ring := a.map Ce.t ++ { c.t with jobs := cut1 c.t.jobs i } :: b.map Ce.t } ∧ Upd (ids P rv (a ++ c :: b)) (ids P rv (a ++ ⟨c.blk, v', { c.t with jobs := cut1 c.t.jobs i }⟩ :: b)) w (w1.setCell ⟨c.blk, 2, none⟩ v'))) := by
    intro v' w1 hr hb hu
    have e1 : w1.heap[c.blk]? = w.heap[c.blk]? := hu.block c.blk hlt hne.2.1
    have e2 : (w1.setCell ⟨c.blk, 2, none⟩ v').heap[c.blk]? = some (.cells #[.int .i64 c.t.num, .int .i64 c.t.cr, v'] 66 (0, 0)) := by rw [Go.Joins.block_setCell (e1.trans ht.blk)]; rfl
    refine ⟨⟨by rw [World.cell?_of_block (w := w) e1]; exact ht.c2, by rw [World.frozen?_of_block (w := w) e1]; exact ht.fz 2⟩, ?_, ?_⟩
    · refine H.out.setJobs { c.t with jobs := cut1 c.t.jobs i } e2 ?_ (fun g hg => .inl (by rw [← hb]; exact hg)) (fun g g1 g2 g3 => (Below.heap_setCell _ ⟨c.blk, 2, none⟩ _ g g1).trans (hu.block g g3 g2))
      exact own_heap hr fun g hg => Below.heap_setCell _ ⟨c.blk, 2, none⟩ _ g fun e => hne.2.1 (mem_ob.2 (by rw [← hb, hg]; exact congrArg some e))
    · have u1 : Upd (ids P rv (a ++ c :: b)) (ids P rv (a ++ c :: b)) w w1 := hu.mem fun g hg => mem_ids_c (c := c) (by simp) (List.mem_cons_of_mem _ hg)
      have u2 := u1.trans (Upd.set w1 ⟨c.blk, 2, none⟩ v' (mem_ids_c (c := c) (by simp) List.mem_cons_self))
      refine ⟨u2.os, u2.tape, u2.output, u2.size, u2.block, fun g hg => .inl ?_⟩
      have hp := (ids_perm P rv a b ⟨c.blk, v', { c.t with jobs := cut1 c.t.jobs i }⟩).mem_iff.1 hg
      refine (ids_perm P rv a b c).mem_iff.2 ?_
      rcases List.mem_append.1 hp with hp | hp
      · refine List.mem_append_left _ ?_
        have : cids ⟨c.blk, v', { c.t with jobs := cut1 c.t.jobs i }⟩ = cids c := by unfold cids ob; rw [hb]
        rw [← this]; exact hp
      · exact List.mem_append_right _ hp
  have k1 : (a.length : Int) < (a.length : Int) + ((b.length : Int) + 1) := by omega
  have k2 : (i : Int) + 1 = (i1 : Int) := by omega
  have k3 : IntKind.i64.wrap (i1 : Int) = (i1 : Int) := by rw [IntKind.wrap_i64]; omega
  have HLn : Hid ((cut1 c.t.jobs i).length = c.t.jobs.length - 1 ∧ 2 ≤ c.t.jobs.length) := ⟨hcl, h2⟩
  clear h ht hi1 hlt hne hcl h2 hjv hrv hi
  go_enter Try.func33, Try.ntmps33
  go_wp2_with fail
  refine (HD.out w rfl).mono ?_
  rintro e w1 ⟨v', rfl, hr1, hb1, hu1⟩
  obtain ⟨⟨x1, x2⟩, hq⟩ := HE.out v' w1 hr1 hb1 hu1
  obtain ⟨va, vcap, rfl⟩ := row_shape hr1
  have y1 : (w1.setCell ⟨c.blk, 2, none⟩ (.slice va (cut1 c.t.jobs i).length vcap)).cell? ⟨c.blk, 2, none⟩ = some (.slice va (cut1 c.t.jobs i).length vcap) := World.cell?_setCell_same' _ _ _ (by rw [x1]; rfl)
  have y2 : (0 : Int) < ((cut1 c.t.jobs i).length : Int) := by have := HLn.out; omega
  have HQ : Hid (QS B P rv (a ++ ⟨c.blk, .slice va (cut1 c.t.jobs i).length vcap, { c.t with jobs := cut1 c.t.jobs i }⟩ :: b) (w1.setCell ⟨c.blk, 2, none⟩ (.slice va (cut1 c.t.jobs i).length vcap)) { q with ring := a.map Ce.t ++ { c.t with jobs := cut1 c.t.jobs i } :: b.map Ce.t } ∧ Upd (ids P rv (a ++ c :: b)) (ids P rv (a ++ ⟨c.blk, .slice va (cut1 c.t.jobs i).length vcap, { c.t with jobs := cut1 c.t.jobs i }⟩ :: b)) w (w1.setCell ⟨c.blk, 2, none⟩ (.slice va (cut1 c.t.jobs i).length vcap))) := hq
  clear hq hr1 hb1 hu1 HE HD
  go_wp2
  refine bodyPost_ret (v := .tuple #[]) (by simp [results, Try.results33, go_sem]) rfl ?_
  exact ⟨rfl, _, HQ.out⟩

theorem ids_ob (P : Nat) {v v' : Value} (h : v'.ownBlock = v.ownBlock) (cs : List Ce) : ids P v' cs = ids P v cs := by unfold ids ob; rw [h]

set_option maxHeartbeats 4000000 in
set_option maxRecDepth 100000 in
theorem remove_gone {B P : Nat} {rv : Value} {a b : List Ce} {c : Ce} {w : World} {q : Qu} (h : QS B P rv (a ++ c :: b) w q) (h1 : c.t.jobs.length = 1) (hn : a.length + b.length ≤ 1000000) :
    Calls Try.prog 33 #[.pointer (some ⟨P, 0, none⟩), .int .i64 (a.length : Int), .int .i64 0] w fun e w' => e = .returned (.tuple #[]) ∧ ∃ rv',
      QS B P rv' (a ++ b) w' { q with ring := (a ++ b).map Ce.t, beg := if a.length = 0 then false else q.beg } ∧ Upd (ids P rv (a ++ c :: b)) (ids P rv' (a ++ b)) w w' := by
  have H : Hid (QS B P rv (a ++ c :: b) w q) := h
  have c1 := h.c1
  have ht := h.tens c (by simp)
  have t2 := ht.c2
  obtain ⟨g, cap, hrv, k0⟩ := mid_ptr h
  rw [hrv] at c1
  obtain ⟨ja, jcap, hjv⟩ := row_shape ht.row
  rw [hjv, h1] at t2
  have hcl : cut1 c.t.jobs 0 = [] := by
    unfold cut1
    have : (c.t.jobs.drop 1).length = 0 := by rw [List.length_drop]; omega
    rw [List.length_eq_zero_iff.1 this]; rfl
  have HD : Hid (Calls Try.prog 40 #[.slice ja 1 jcap, .int .i64 0, .int .i64 1] w fun e w' => ∃ v', e = .returned v' ∧ w'.ownsRow B 34 3 v' 0 [] ∧ v'.ownBlock = c.jv.ownBlock ∧ Upd (ob c.jv) (ob c.jv) w w') := by
    have := delJ_row ht.row 0 (by omega)
    have e : c.t.jobs.take 0 ++ c.t.jobs.drop (0 + 1) = [] := hcl
    rw [e] at this
    rw [hjv, h1] at this
    rw [hjv, h1]
    exact this
  have hlt := ht.lt
  have hne := h.c_ne
  obtain ⟨p1, hp1⟩ : ∃ p1, p1 = a.length + 1 := ⟨_, rfl⟩
  -- behind the store of the empty row
  have HE : Hid (∀ (v' : Value) (w1 : World), w1.ownsRow B 34 3 v' 0 [] → v'.ownBlock = c.jv.ownBlock → Upd (ob c.jv) (ob c.jv) w w1 →
      (w1.cell? ⟨c.blk, 2, none⟩ = some c.jv ∧ w1.frozen? ⟨c.blk, 2, none⟩ = false) ∧
      (QS B P rv (a ++ ⟨c.blk, v', { c.t with jobs := [] }⟩ :: b) (w1.setCell ⟨c.blk, 2, none⟩ v') { q with ring := a.map Ce.t ++ { c.t with jobs := [] } :: b.map Ce.t } ∧ Upd (ids P rv (a ++ c :: b)) (ids P rv (a ++ c :: b)) w (w1.setCell ⟨c.blk, 2, none⟩ v'))) := by
    intro v' w1 hr hb hu
    have e1 : w1.heap[c.blk]? = w.heap[c.blk]? := hu.block c.blk hlt hne.2.1
    have e2 : (w1.setCell ⟨c.blk, 2, none⟩ v').heap[c.blk]? = some (.cells #[.int .i64 c.t.num, .int .i64 c.t.cr, v'] 66 (0, 0)) := by rw [Go.Joins.block_setCell (e1.trans ht.blk)]; rfl
    refine ⟨⟨by rw [World.cell?_of_block (w := w) e1]; exact ht.c2, by rw [World.frozen?_of_block (w := w) e1]; exact ht.fz 2⟩, ?_, ?_⟩
    · refine H.out.setJobs { c.t with jobs := [] } e2 ?_ (fun g hg => .inl (by rw [← hb]; exact hg)) (fun g g1 g2 g3 => (Below.heap_setCell _ ⟨c.blk, 2, none⟩ _ g g1).trans (hu.block g g3 g2))
      exact own_heap hr fun g hg => Below.heap_setCell _ ⟨c.blk, 2, none⟩ _ g fun e => hne.2.1 (mem_ob.2 (by rw [← hb, hg]; exact congrArg some e))
    · have u1 : Upd (ids P rv (a ++ c :: b)) (ids P rv (a ++ c :: b)) w w1 := hu.mem fun g hg => mem_ids_c (c := c) (by simp) (List.mem_cons_of_mem _ hg)
      exact u1.trans (Upd.set w1 ⟨c.blk, 2, none⟩ v' (mem_ids_c (c := c) (by simp) List.mem_cons_self))
  -- the second Delete, and the stores behind it
  have HF : Hid (∀ (v' : Value) (W : World), v'.ownBlock = c.jv.ownBlock → QS B P rv (a ++ ⟨c.blk, v', { c.t with jobs := [] }⟩ :: b) W { q with ring := a.map Ce.t ++ { c.t with jobs := [] } :: b.map Ce.t } → Upd (ids P rv (a ++ c :: b)) (ids P rv (a ++ c :: b)) w W →
      Calls Try.prog 41 #[.slice (some ⟨g, 0, none⟩) (a.length + (b.length + 1)) cap, .int .i64 (a.length : Int), .int .i64 (p1 : Int)] W fun e w' => ∃ rv', e = .returned rv' ∧
        (w'.cell? ⟨P, 1, none⟩ = some rv ∧ w'.frozen? ⟨P, 1, none⟩ = false ∧ (w'.setCell ⟨P, 1, none⟩ rv').cell? ⟨P, 2, none⟩ = some (.bool q.beg) ∧ (w'.setCell ⟨P, 1, none⟩ rv').frozen? ⟨P, 2, none⟩ = false) ∧
        (QS B P rv' (a ++ b) (w'.setCell ⟨P, 1, none⟩ rv') { q with ring := (a ++ b).map Ce.t } ∧ Upd (ids P rv (a ++ c :: b)) (ids P rv' (a ++ b)) w (w'.setCell ⟨P, 1, none⟩ rv')) ∧
        (QS B P rv' (a ++ b) ((w'.setCell ⟨P, 1, none⟩ rv').setCell ⟨P, 2, none⟩ (.bool false)) { q with ring := (a ++ b).map Ce.t, beg := false } ∧ Upd (ids P rv (a ++ c :: b)) (ids P rv' (a ++ b)) w ((w'.setCell ⟨P, 1, none⟩ rv').setCell ⟨P, 2, none⟩ (.bool false)))) := by
    intro v' W hvb hQ hU
    have e : (a ++ (⟨c.blk, v', { c.t with jobs := [] }⟩ : Ce) :: b).take a.length ++ (a ++ (⟨c.blk, v', { c.t with jobs := [] }⟩ : Ce) :: b).drop (a.length + 1) = a ++ b := by simp
    have := delT_row hQ.row a.length (by simp)
    rw [e, hrv, ← hp1] at this
    refine this.mono ?_
    rintro e w' ⟨rv', rfl, hr', hb', hu'⟩
    rw [← hrv] at hb' hu'
    have hPr : P ∉ ob rv := fun hm => hQ.p_ne.1 P (mem_ob.1 hm) rfl
    have hPl : P < W.heap.size := (hQ.lt P List.mem_cons_self).2
    have e1 : w'.heap[P]? = W.heap[P]? := hu'.block P hPl hPr
    have e2 : (w'.setCell ⟨P, 1, none⟩ rv').heap[P]? = some (.cells #[.int .i64 q.qm, rv', .bool q.beg] 56 (0, 0)) := by rw [Go.Joins.block_setCell (e1.trans hQ.blk)]; rfl
    have hnd : (ids P rv' (a ++ b)).Nodup := by
      rw [ids_ob P hb']
      have := (ids_perm P rv a b ⟨c.blk, v', { c.t with jobs := [] }⟩).nodup_iff.1 hQ.apart
      exact (List.nodup_append.1 this).2.1
    have hr2 : (w'.setCell ⟨P, 1, none⟩ rv').ownsRow B 64 1 rv' (a ++ b).length ((a ++ b).map pc) := own_heap hr' fun k hk => Below.heap_setCell _ ⟨P, 1, none⟩ _ k fun e => hPr (mem_ob.2 (by rw [← hb', hk]; exact congrArg some e))
    have hQ2 : QS B P rv' (a ++ b) (w'.setCell ⟨P, 1, none⟩ rv') { q with ring := (a ++ b).map Ce.t } :=
      hQ.setRing (rv' := rv') (cs' := a ++ b) q.beg e2 hr2 (fun d hd => by rcases List.mem_append.1 hd with hd | hd <;> simp [hd]) (fun k k1 k2 k3 => (Below.heap_setCell _ ⟨P, 1, none⟩ _ k k1).trans (hu'.block k k3 k2)) hnd
    have hsub : ∀ k ∈ ids P rv' (a ++ b), k ∈ ids P rv (a ++ c :: b) := fun k hk => by
      rw [ids_ob P hb'] at hk
      exact (ids_perm P rv a b c).mem_iff.2 (List.mem_append_right _ hk)
    have u1 : Upd (ids P rv (a ++ c :: b)) (ids P rv (a ++ c :: b)) w w' := hU.trans (hu'.mem fun k hk => mem_ids_r (mem_ob.1 hk))
    have u2 := u1.trans (Upd.set w' ⟨P, 1, none⟩ rv' List.mem_cons_self)
    have u3 := u2.trans (Upd.set (w'.setCell ⟨P, 1, none⟩ rv') ⟨P, 2, none⟩ (.bool false) List.mem_cons_self)
    refine ⟨rv', rfl, ⟨by rw [World.cell?_of_block (w := W) e1]; exact hQ.c1, by rw [World.frozen?_of_block (w := W) e1]; exact hQ.fz 1, hQ2.c2, hQ2.fz 2⟩, ⟨hQ2, u2.os, u2.tape, u2.output, u2.size, u2.block, fun k hk => .inl (hsub k hk)⟩, ?_, u3.os, u3.tape, u3.output, u3.size, u3.block, fun k hk => .inl (hsub k hk)⟩
    refine hQ2.setQ false ?_ (fun k hk => Below.heap_setCell _ ⟨P, 2, none⟩ _ k hk)
    rw [Go.Joins.block_setCell e2]; rfl
  have k1 : (a.length : Int) < (a.length : Int) + ((b.length : Int) + 1) := by omega
  have k2 : (a.length : Int) + 1 = (p1 : Int) := by omega
  have k3 : IntKind.i64.wrap (p1 : Int) = (p1 : Int) := by rw [IntKind.wrap_i64]; omega
  have HRV : Hid (rv = .slice (some ⟨g, 0, none⟩) (a.length + (b.length + 1)) cap) := hrv
  clear h ht hlt hne hcl hjv hrv h1 hp1
  go_enter Try.func33, Try.ntmps33
  go_wp2_with fail
  refine HD.out.mono ?_
  rintro e w1 ⟨v', rfl, hr1, hb1, hu1⟩
  obtain ⟨⟨x1, x2⟩, hq⟩ := HE.out v' w1 hr1 hb1 hu1
  obtain ⟨va, vcap, rfl⟩ := row_shape hr1
  have y1 : (w1.setCell ⟨c.blk, 2, none⟩ (.slice va 0 vcap)).cell? ⟨c.blk, 2, none⟩ = some (.slice va 0 vcap) := World.cell?_setCell_same' _ _ _ (by rw [x1]; rfl)
  have y2 : (w1.setCell ⟨c.blk, 2, none⟩ (.slice va 0 vcap)).cell? ⟨P, 1, none⟩ = some (.slice (some ⟨g, 0, none⟩) (a.length + (b.length + 1)) cap) := by rw [← HRV.out]; exact hq.1.c1
  have HQ1 : Hid (QS B P rv (a ++ ⟨c.blk, .slice va 0 vcap, { c.t with jobs := [] }⟩ :: b) (w1.setCell ⟨c.blk, 2, none⟩ (.slice va 0 vcap)) { q with ring := a.map Ce.t ++ { c.t with jobs := [] } :: b.map Ce.t } ∧ Upd (ids P rv (a ++ c :: b)) (ids P rv (a ++ c :: b)) w (w1.setCell ⟨c.blk, 2, none⟩ (.slice va 0 vcap))) := hq
  have HB1 : Hid ((Value.slice va 0 vcap).ownBlock = c.jv.ownBlock) := hb1
  clear hq hr1 hb1 hu1 HE HD
  go_wp2_with fail
  refine (HF.out _ _ HB1.out HQ1.out.1 HQ1.out.2).mono ?_
  rintro e w3 ⟨rv', rfl, ⟨z1, z2, z3, z4⟩, hA, hB⟩
  have HA : Hid (QS B P rv' (a ++ b) (w3.setCell ⟨P, 1, none⟩ rv') { q with ring := (a ++ b).map Ce.t } ∧ Upd (ids P rv (a ++ c :: b)) (ids P rv' (a ++ b)) w (w3.setCell ⟨P, 1, none⟩ rv')) := hA
  have HB : Hid (QS B P rv' (a ++ b) ((w3.setCell ⟨P, 1, none⟩ rv').setCell ⟨P, 2, none⟩ (.bool false)) { q with ring := (a ++ b).map Ce.t, beg := false } ∧ Upd (ids P rv (a ++ c :: b)) (ids P rv' (a ++ b)) w ((w3.setCell ⟨P, 1, none⟩ rv').setCell ⟨P, 2, none⟩ (.bool false))) := hB
  obtain ⟨ra, rcap, rfl⟩ := row_shape hA.1.row
  clear hA hB HF HQ1 HB1
  generalize hab : a ++ b = ab at *
  have HAB : Hid (a ++ b = ab) := hab
  clear hab
  by_cases ha : a.length = 0
  · have HI : Hid ((if a.length = 0 then false else q.beg) = false) := if_pos ha
    have hz : (a.length : Int) = 0 := by omega
    generalize (if a.length = 0 then false else q.beg) = bb at *
    obtain rfl := HI.out
    clear ha HI
    go_wp2
    go_end0
    obtain rfl := HAB.out
    exact ⟨rfl, _, by rw [← List.map_append]; exact HB.out⟩
  · have HI : Hid ((if a.length = 0 then false else q.beg) = q.beg) := if_neg ha
    have hz : ¬ (a.length : Int) = 0 := by omega
    have hz2 : ((a.length : Int) == 0) = false := by simpa using hz
    generalize (if a.length = 0 then false else q.beg) = bb at *
    obtain rfl := HI.out
    clear ha HI
    go_wp2
    go_end0
    obtain rfl := HAB.out
    exact ⟨rfl, _, by rw [← List.map_append]; exact HA.out⟩
end Go.Proofs.Ytfddhdpnoliamaa
