/- The document's ring: Next. -/
import Derived.Test.YtfddhdpnoliamaaQuTr
namespace Go.Proofs.Ytfddhdpnoliamaa
open Go.RowKit Go.Shelf
attribute [local go_sem ↓] appS_eq

def RWay (B P : Nat) (I : List Nat) (q : Qu) (w W : World) (p : Qu) : Prop := ∃ tv cv jv r, RS B P tv cv jv W r ∧ Sim p r ∧ QI p ∧ p.ring ≠ [] ∧ (∀ x, Spun p x → Spun q x) ∧ Upd I (rids P tv cv jv) w W

theorem gone_rem {p : Qu} {t : Tn} {s : List Tn} {j : Jb} {js : List Jb} (hr : p.ring = t :: s) (hj : t.jobs = j :: js) {x : Nat} (hx : x = t.cr - j.cost) : remQ { p with ring := { t with cr := x } :: s, beg := p.beg } [] { t with cr := x } s 0 = p.gone := by
  unfold remQ Qu.gone
  rw [hr]
  simp only [hj, hx]
  by_cases e : js = []
  · subst e
    simp
  · have : ¬ (j :: js).length = 1 := fun e2 => e (List.length_eq_zero_iff.1 (by simpa using e2))
    rw [if_neg this, if_neg e]
    simp [cut1]
theorem start_true {p : Qu} {t : Tn} {s : List Tn} (h : p.ring = t :: s) : p.start.beg = true := by
  cases hb : p.beg with
  | true => rw [start_beg hb]; exact hb
  | false => rw [start_new h hb]

theorem start_ring {p : Qu} {t : Tn} {s : List Tn} (h : p.ring = t :: s) : ∃ t1 s1, p.start.ring = t1 :: s1 := by
  cases hb : p.beg with
  | true => rw [start_beg hb]; exact ⟨t, s, h⟩
  | false => rw [start_new h hb]; exact ⟨_, _, rfl⟩

/-- What comes behind is a letter. -/
theorem wp_letter {P : Program} {c : Code} {Q : Exit → Act → World → Prop} {a : Act} {w : World} (h : ∀ Q0 : Exit → Act → World → Prop, (∀ e a w, Hid (Q e a w → Q0 e a w)) → c.wp P Q0 a w) : c.wp P Q a w := h Q (fun _ _ _ h => h)
/-- Behind the first of the two appends. -/
structure N2 (B P : Nat) (I : List Nat) (q : Qu) (w0 Z w2 : World) (g cc n cap : Nat) (av : Option Addr) (cp : Nat) (o : Qu) : Prop where
  ap : (appS #[29, 29] 29 #[.slice (if n = 1 then some (⟨g, 0, none⟩ : Addr) else some ⟨g, 1, none⟩) (n - 1) (n - 1), .slice (some ⟨Z.heap.size, 0, none⟩) 1 1]).run Try.prog (Z.alloc (.cells #[.int .i64 (cc : Int)] 3)).drew = .ok (.slice av n cp) w2
  r1 : w2.cell? ⟨P, 2, none⟩ = some (.slice (some ⟨g, 0, none⟩) n cap)
  r2 : w2.frozen? ⟨P, 2, none⟩ = false
  c : Z.cell? ⟨P, 2, none⟩ = some (.slice (some ⟨g, 0, none⟩) n cap)
  d : Z.cell? ⟨g, 0, none⟩ = some (.int .i64 (cc : Int))
  ca : (Z.alloc (.cells #[.int .i64 (cc : Int)] 3)).cell? ⟨P, 2, none⟩ = some (.slice (some ⟨g, 0, none⟩) n cap)
  da : (Z.alloc (.cells #[.int .i64 (cc : Int)] 3)).cell? ⟨g, 0, none⟩ = some (.int .i64 (cc : Int))
  b2 : (n : Int) ≤ (cap : Int)
  bP : ¬ P = Z.heap.size
  bT : ¬ g = Z.heap.size
  rest : RWay B P I q w0 (w2.setCell ⟨P, 2, none⟩ (.slice av n cp)) o
structure N1 (B P : Nat) (I : List Nat) (q : Qu) (w0 Z w1 : World) (g cc n cap : Nat) (av : Option Addr) (cp : Nat) (g2 cc2 cap2 : Nat) (o : Qu) : Prop where
  ap : (appS #[29, 29] 29 #[.slice (if n = 1 then some (⟨g, 0, none⟩ : Addr) else some ⟨g, 1, none⟩) (n - 1) (n - 1), .slice (some ⟨Z.heap.size, 0, none⟩) 1 1]).run Try.prog (Z.alloc (.cells #[.int .i64 (cc : Int)] 3)).drew = .ok (.slice av n cp) w1
  r1 : w1.cell? ⟨P, 1, none⟩ = some (.slice (some ⟨g, 0, none⟩) n cap)
  r2 : w1.frozen? ⟨P, 1, none⟩ = false
  c : Z.cell? ⟨P, 1, none⟩ = some (.slice (some ⟨g, 0, none⟩) n cap)
  d : Z.cell? ⟨g, 0, none⟩ = some (.int .i64 (cc : Int))
  ca : (Z.alloc (.cells #[.int .i64 (cc : Int)] 3)).cell? ⟨P, 1, none⟩ = some (.slice (some ⟨g, 0, none⟩) n cap)
  da : (Z.alloc (.cells #[.int .i64 (cc : Int)] 3)).cell? ⟨g, 0, none⟩ = some (.int .i64 (cc : Int))
  b1 : (1 : Int) ≤ (n : Int)
  b2 : (n : Int) ≤ (cap : Int)
  bP : ¬ P = Z.heap.size
  bT : ¬ g = Z.heap.size
  rest : ∃ av2 cp2 w2, N2 B P I q w0 (w1.setCell ⟨P, 1, none⟩ (.slice av n cp)) w2 g2 cc2 n cap2 av2 cp2 o

theorem nx_one {B P : Nat} {I : List Nat} {q p : Qu} {w0 W : World} {tv2 cv2 jv2 : Value} {r2 : Rg} {t1 : Tn} {s1 : List Tn} {j : Jb} {js : List Jb} {gt2 n2 capT2 gc2 capC2 i : Nat} (hsp : ∀ x, Spun p x → Spun q x)
    (HX : RS B P tv2 cv2 jv2 W r2 ∧ Sim p.start r2 ∧ QI p.start ∧ Upd I (rids P tv2 cv2 jv2) w0 W ∧ p.start.ring = t1 :: s1 ∧ t1.jobs = j :: js ∧ tv2 = .slice (some ⟨gt2, 0, none⟩) n2 capT2 ∧ cv2 = .slice (some ⟨gc2, 0, none⟩) n2 capC2 ∧ n2 ≤ capT2 ∧ n2 ≤ capC2 ∧ r2.tens = t1.num :: s1.map Tn.num ∧ r2.creds = t1.cr :: s1.map Tn.cr ∧ r2.tens.length = n2 ∧ r2.creds.length = n2 ∧ (∃ hi : i < r2.jobs.length, r2.jobs[i] = j) ∧ n2 = s1.length + 1 ∧ n2 ≤ 1000) (hc : ¬ j.cost ≤ t1.cr) (m : Nat) :
    ∃ av1 cp1 w1, N1 B P I q w0 ((W.drewN m).setCell ⟨P, 3, none⟩ (.bool false)) w1 gt2 t1.num n2 capT2 av1 cp1 gc2 t1.cr capC2 p.start.over := by
  obtain ⟨hS2, hSim2, hQ2, hU2, hr2, hj, htv, hcv, hcT, hcC, e1, e2, l1, l2, hij, hn2, hlr2⟩ := HX
  subst htv
  subst hcv
  have hS3 : RS B P (.slice (some ⟨gt2, 0, none⟩) n2 capT2) (.slice (some ⟨gc2, 0, none⟩) n2 capC2) jv2 (W.drewN m) r2 := hS2.keep fun _ _ => rfl
  obtain ⟨_, hS4, hU4⟩ := hS3.turnTo false
  have hUa := ((hU2.drewN m).trans hU4)
  generalize (W.drewN m).setCell ⟨P, 3, none⟩ (.bool false) = Z at *
  obtain ⟨v1, w1, hap1, ⟨av1, cp1, hv1⟩, r1', r2', hS5, hU5⟩ := RS.tens_rot (r := { r2 with turn := false }) hS4 l1.symm e1 hlr2
  subst hv1
  have c1 : Z.cell? ⟨P, 1, none⟩ = some (.slice (some ⟨gt2, 0, none⟩) n2 capT2) := hS4.c 1 _ rfl
  obtain ⟨g8, cap8, hv8, _, hcell8⟩ := hS4.tens.form (show 0 < r2.tens.length by omega)
  have hq8 : gt2 = g8 := by injection hv8 with a; injection a with a; injection a
  subst hq8
  have d0 : Z.cell? ⟨gt2, 0, none⟩ = some (.int .i64 (t1.num : Int)) := (hcell8 0 (show 0 < r2.tens.length * 1 by omega)).trans (by show (ns r2.tens)[0]? = _; rw [e1]; rfl)
  have hPl := (hS4.lt P List.mem_cons_self).2
  have hTl := (hS4.tens.lt gt2 rfl).2
  refine ⟨av1, cp1, w1, hap1, r1', r2', c1, d0, (World.cell?_alloc_past _ _ _ hPl).trans c1, (World.cell?_alloc_past _ _ _ hTl).trans d0, by omega, by omega, by omega, by omega, ?_⟩
  have hUb := hUa.trans hU5
  generalize w1.setCell ⟨P, 1, none⟩ (.slice av1 n2 cp1) = Z2 at *
  obtain ⟨v2, w2, hap2, ⟨av2, cp2, hv2⟩, y1', y2', hS6, hU6⟩ := RS.creds_rot (r := { r2 with turn := false, tens := s1.map Tn.num ++ [t1.num] }) hS5 l2.symm e2 hlr2
  subst hv2
  have c2 : Z2.cell? ⟨P, 2, none⟩ = some (.slice (some ⟨gc2, 0, none⟩) n2 capC2) := hS5.c 2 _ rfl
  obtain ⟨g9, cap9, hv9, _, hcell⟩ := hS5.creds.form (show 0 < r2.creds.length by omega)
  have hq3 : gc2 = g9 := by injection hv9 with a; injection a with a; injection a
  subst hq3
  have d1 : Z2.cell? ⟨gc2, 0, none⟩ = some (.int .i64 (t1.cr : Int)) := (hcell 0 (show 0 < r2.creds.length * 1 by omega)).trans (by show (ns r2.creds)[0]? = _; rw [e2]; rfl)
  have hPl2 := (hS5.lt P List.mem_cons_self).2
  have hTl2 := (hS5.creds.lt gc2 rfl).2
  have hcst := (hQ2.cost t1 (by rw [hr2]; exact List.mem_cons_self) j (by rw [hj]; exact List.mem_cons_self)).2
  refine ⟨av2, cp2, w2, hap2, y1', y2', c2, d1, (World.cell?_alloc_past _ _ _ hPl2).trans c2, (World.cell?_alloc_past _ _ _ hTl2).trans d1, by omega, by omega, by omega, ?_⟩
  refine ⟨_, _, jv2, _, hS6, ?_, hQ2.over hr2 (by omega), ?_, fun z hz => hsp z (Spun.go ?_ hz), hUb.trans hU6⟩
  · have := hSim2.turnOver hr2
    rw [e1, e2] at this
    exact this
  · rw [over_eq hr2]; simp
  · rintro ⟨t', r', j', js', y1, y2, y3⟩
    rw [hr2] at y1
    cases y1
    rw [hj] at y2
    cases y2
    exact hc y3

set_option maxHeartbeats 8000000 in
set_option maxRecDepth 100000 in
theorem rNext_some {B P : Nat} {tv cv jv : Value} {w : World} {q : Qu} {r : Rg} (h : RS B P tv cv jv w r) (hs : Sim q r) (hi : QI q) (hr : q.ring ≠ []) :
    Calls Try.prog 13 #[.pointer (some ⟨P, 0, none⟩)] w fun e w' => ∃ p t s j js, Spun q p ∧ QI p ∧ p.ring = t :: s ∧ t.jobs = j :: js ∧ j.cost ≤ t.cr ∧ e = .returned (.tuple #[jagg j, .bool true]) ∧ ∃ tv' cv' jv' r', RS B P tv' cv' jv' w' r' ∧ Sim p.gone r' ∧ Upd (rids P tv cv jv) (rids P tv' cv' jv') w w' := by
  have hb0 : Below w.heap.size w (w.alloc (.cells #[.int .i64 0, .string ⟨#[]⟩, .int .i64 0] 34)) := (Below.refl _ w).alloc (Nat.le_refl _) _
  have l0 := heap_alloc_new w (.cells #[.int .i64 0, .string ⟨#[]⟩, .int .i64 0] 34)
  have hz0 : (w.alloc (.cells #[.int .i64 0, .string ⟨#[]⟩, .int .i64 0] 34)).heap.size = w.heap.size + 1 := World.size_alloc _ _
  have h1 := h.up hb0
  have HW : Hid (RWay B P (rids P tv cv jv) q (w.alloc (.cells #[.int .i64 0, .string ⟨#[]⟩, .int .i64 0] 34)) (w.alloc (.cells #[.int .i64 0, .string ⟨#[]⟩, .int .i64 0] 34)) q) := ⟨tv, cv, jv, r, h1, hs, hi, hr, fun _ h => h, Upd.refl _ _⟩
  have HR : Hid (w.heap.size ∉ rids P tv cv jv ∧ w.heap.size < (w.alloc (.cells #[.int .i64 0, .string ⟨#[]⟩, .int .i64 0] 34)).heap.size ∧ (w.alloc (.cells #[.int .i64 0, .string ⟨#[]⟩, .int .i64 0] 34)).heap[w.heap.size]? = some (.cells #[.int .i64 0, .string ⟨#[]⟩, .int .i64 0] 34 (0, 0)) ∧ Below w.heap.size w (w.alloc (.cells #[.int .i64 0, .string ⟨#[]⟩, .int .i64 0] 34))) := ⟨fun e => by have := (h.lt _ e).2; omega, by omega, l0, hb0⟩
  clear h h1 hb0 l0 hi hr hz0 hs
  go_enter Try.func13, Try.ntmps13
  go_wp2_with fail
  generalize w.alloc (.cells #[.int .i64 0, .string ⟨#[]⟩, .int .i64 0] 34) = w0 at *
  generalize hJn : w.heap.size = R at *
  generalize hI : rids P tv cv jv = I at *
  have HII : Hid (rids P tv cv jv = I) := hI
  have HJN : Hid (w.heap.size = R) := hJn
  clear hI hJn
  go_loopg [] (mea q) (fun k wr => ∃ p, Hid (RWay B P I q w0 wr p ∧ mea p ≤ k))
  case atStart => exact ⟨q, HW.out, Nat.le_refl _⟩
  case round =>
    obtain ⟨p, HI⟩ := hrel
    clear HW
    obtain ⟨tv1, cv1, jv1, r1, hS, hSim, hQ, hne, hsp, hU⟩ := HI.out.1
    obtain ⟨t, s, hr1⟩ : ∃ t s, p.ring = t :: s := by
      cases e : p.ring with
      | nil => exact absurd e hne
      | cons t s => exact ⟨t, s, rfl⟩
    obtain ⟨gt, capT, gc, capC, htv, hcv, hcT, hcC, d0, d1, e1, e2, l1, l2⟩ := hS.heads hSim hr1
    have HP1 : Hid (QI p ∧ (∀ x, Spun p x → Spun q x)) := ⟨hQ, hsp⟩
    have c1 : wr.cell? ⟨P, 1, none⟩ = some (.slice (some ⟨gt, 0, none⟩) (s.length + 1) capT) := by rw [← htv]; exact hS.c 1 _ rfl
    obtain ⟨n, hn⟩ : ∃ n, n = s.length + 1 := ⟨_, rfl⟩
    rw [← hn] at htv hcv hcT hcC l1 l2 c1
    have hpos : 0 < (n : Int) := by omega
    have HC : Hid (p.beg = false → ∃ Y, Y = (wr.setCell ⟨P, 3, none⟩ (.bool true)) ∧ Y.cell? ⟨P, 0, none⟩ = some (.int .i64 (p.qm : Int)) ∧ Y.cell? ⟨P, 2, none⟩ = some (.slice (some ⟨gc, 0, none⟩) n capC) ∧ Y.cell? ⟨gc, 0, none⟩ = some (.int .i64 (t.cr : Int)) ∧ Y.frozen? ⟨gc, 0, none⟩ = false ∧ t.cr + p.qm ≤ 2000 ∧
        ∃ r2, RS B P tv1 cv1 jv1 (Y.setCell ⟨gc, 0, none⟩ (.int .i64 ((t.cr + p.qm : Nat) : Int))) r2 ∧ Sim p.start r2 ∧ Upd I (rids P tv1 cv1 jv1) w0 (Y.setCell ⟨gc, 0, none⟩ (.int .i64 ((t.cr + p.qm : Nat) : Int)))) := fun hb => by
      obtain ⟨_, hS2, hU2⟩ := hS.turnTo true
      refine ⟨_, rfl, ?_, ?_, ?_⟩
      · have := hS2.c 0 (.int .i64 (r1.qm : Int)) rfl
        rw [hSim.qm] at this
        exact this
      · have := hS2.c 2 _ rfl
        rw [← hcv]
        exact this
      · have hcv2 := hcv
        rw [← l2] at hcv2
        subst hcv2
        obtain ⟨f1, f2, f3, f4⟩ := RS.cred0 (r := { r1 with turn := true }) hS2 e2 (t.cr + p.qm)
        have hlo := hQ.lo hb t (by rw [hr1]; exact List.mem_cons_self)
        have := hQ.b.q2
        refine ⟨f1, f2, by omega, _, f3, ?_, (hU.trans hU2).trans f4⟩
        rw [start_new hr1 hb]
        have := hSim.first hr1 (t.cr + p.qm) true
        rw [e2] at this
        exact this
    have c3 : wr.cell? ⟨P, 3, none⟩ = some (.bool p.beg) := by
      have := hS.c 3 (.bool r1.turn) rfl
      rw [hSim.turn] at this
      exact this
    have f3 : wr.frozen? ⟨P, 3, none⟩ = false := Lib.frozen_of_heap hS.blk 3
    have HS : Hid (∃ r2, RS B P tv1 cv1 jv1 wr r2 ∧ Sim p r2 ∧ Upd I (rids P tv1 cv1 jv1) w0 wr) := ⟨r1, hS, hSim, hU⟩
    clear hS hSim hQ hne hsp hU htv hcv hcT hcC e1 e2 l1 l2 d0 d1
    have HN : Hid (n = s.length + 1) := hn
    clear hn
    cases hb : p.beg with
    | true =>
      rw [hb] at c3
      have HY : Hid (∃ tv2 cv2 jv2 r2, RS B P tv2 cv2 jv2 wr r2 ∧ Sim p.start r2 ∧ Upd I (rids P tv2 cv2 jv2) w0 wr) := by
        obtain ⟨r2, a, b, c⟩ := HS.out
        rw [start_beg hb]
        exact ⟨tv1, cv1, jv1, r2, a, b, c⟩
      clear HC HS hb f3 c1 c3 hpos HN
      clear n capT gt capC gc
      obtain ⟨tv2, cv2, jv2, r2, hS2, hSim2, hU2⟩ := HY.out
      have hQ2 := HP1.out.1.start
      obtain ⟨t1, s1, hr2⟩ : ∃ t1 s1, p.start.ring = t1 :: s1 := start_ring hr1
      obtain ⟨j, js, hj⟩ : ∃ j js, t1.jobs = j :: js := by
        cases e : t1.jobs with
        | nil => exact absurd e (hQ2.ne t1 (by rw [hr2]; exact List.mem_cons_self))
        | cons j js => exact ⟨j, js, rfl⟩
      obtain ⟨gt2, capT2, gc2, capC2, htv, hcv, hcT, hcC, d0, d1, e1, e2, l1, l2⟩ := hS2.heads hSim2 hr2
      obtain ⟨i, hi, hji, hjx, gj, capJ, hjv, d2⟩ := hS2.headJ hSim2 hr2 hj
      obtain ⟨n2, hn2⟩ : ∃ n2, n2 = s1.length + 1 := ⟨_, rfl⟩
      rw [← hn2] at htv hcv hcT hcC l1 l2
      obtain ⟨L, hL⟩ : ∃ L, L = r2.jobs.length := ⟨_, rfl⟩
      rw [← hL] at hjv
      have c1 : wr.cell? ⟨P, 1, none⟩ = some (.slice (some ⟨gt2, 0, none⟩) n2 capT2) := by rw [← htv]; exact hS2.c 1 _ rfl
      have c2 : wr.cell? ⟨P, 2, none⟩ = some (.slice (some ⟨gc2, 0, none⟩) n2 capC2) := by rw [← hcv]; exact hS2.c 2 _ rfl
      have c4 : wr.cell? ⟨P, 4, none⟩ = some (.slice (some ⟨gj, 0, none⟩) L capJ) := by rw [← hjv]; exact hS2.c 4 _ rfl
      have z3 : wr.cell? ⟨P, 3, none⟩ = some (.bool true) := by
        have := hS2.c 3 (.bool r2.turn) rfl
        rw [hSim2.turn, start_true hr1] at this
        exact this
      have zf3 : wr.frozen? ⟨P, 3, none⟩ = false := Lib.frozen_of_heap hS2.blk 3
      have hposI : 0 < (n2 : Int) := by omega
      have hiI : (i : Int) < (L : Int) := by omega
      have hLs : L ≤ 200 := by rw [hL, hSim2.len]; exact hSim2.le
      have hlr : p.start.ring.length ≤ 1000 := hQ2.b.len
      have hlr2 : n2 ≤ 1000 := by rw [hr2] at hlr; simp at hlr; omega
      have HF : Hid (Calls Try.prog 30 #[.pointer (some ⟨P, 0, none⟩), .int .i64 (t1.num : Int)] wr fun e w' => e = .returned (.int .i64 (i : Int)) ∧ ∃ m, w' = wr.drewN m) := by
        have := First_any P t1.num jv2 r2.jobs wr (hS2.c 4 _ rfl) hS2.jobs.readJ (by omega)
        rw [hji] at this
        exact this
      have hfz : wr.frozen? ⟨gc2, 0, none⟩ = false := by
        have hS3 := hS2
        rw [hcv, ← l2] at hS3
        exact (hS3.cred0 e2 0).2.1
      have HX : Hid (RS B P tv2 cv2 jv2 wr r2 ∧ Sim p.start r2 ∧ QI p.start ∧ Upd I (rids P tv2 cv2 jv2) w0 wr ∧ p.start.ring = t1 :: s1 ∧ t1.jobs = j :: js ∧ tv2 = .slice (some ⟨gt2, 0, none⟩) n2 capT2 ∧ cv2 = .slice (some ⟨gc2, 0, none⟩) n2 capC2 ∧ n2 ≤ capT2 ∧ n2 ≤ capC2 ∧ r2.tens = t1.num :: s1.map Tn.num ∧ r2.creds = t1.cr :: s1.map Tn.cr ∧ r2.tens.length = n2 ∧ r2.creds.length = n2 ∧ (∃ hi : i < r2.jobs.length, r2.jobs[i] = j) ∧ n2 = s1.length + 1 ∧ n2 ≤ 1000) := ⟨hS2, hSim2, hQ2, hU2, hr2, hj, htv, hcv, hcT, hcC, e1, e2, l1, l2, ⟨hi, hjx⟩, hn2, hlr2⟩
      clear hS2 hSim2 hQ2 hU2 hr2 hj htv hcv hcT hcC e1 e2 l1 l2 hi hji hjx hn2 hL hjv hLs hlr hlr2 HY hr1
      go_wp2_with fail
      refine HF.out.mono ?_
      rintro e w1 ⟨rfl, m, rfl⟩
      clear HF
      by_cases hc : j.cost ≤ t1.cr
      · have hcI : (j.cost : Int) ≤ (t1.cr : Int) := by omega
        obtain ⟨x9, hx9⟩ : ∃ x9, x9 = t1.cr - j.cost := ⟨_, rfl⟩
        have hx8 : (t1.cr : Int) - (j.cost : Int) = (x9 : Int) := by omega
        have hcr := HX.out.2.2.1.cr t1 (by rw [HX.out.2.2.2.2.1]; exact List.mem_cons_self)
        have hx7 : IntKind.i64.wrap (x9 : Int) = (x9 : Int) := by rw [IntKind.wrap_i64]; omega
        have HXX : Hid (x9 = t1.cr - j.cost ∧ j.cost ≤ t1.cr) := ⟨hx9, hc⟩
        clear hx9 hc hcr
        go_wp2_with fail
        go_region
        go_wp2_with fail
        go_region
        have HT : Hid (Calls Try.prog 34 #[.pointer (some ⟨P, 0, none⟩), .int .i64 (i : Int)] ((wr.drewN (m + 1 + 1)).setCell ⟨gc2, 0, none⟩ (.int .i64 (x9 : Int))) fun e w' => e = .returned (jagg j) ∧ ∃ tv' cv' jv' r', RS B P tv' cv' jv' w' r' ∧ Sim p.start.gone r' ∧ Upd I (rids P tv' cv' jv') w0 w') := by
          obtain ⟨hS2, hSim2, hQ2, hU2, hr2, hj, htv, hcv, hcT, hcC, e1, e2, l1, l2, ⟨hi, hjx⟩, hn2, hlr2⟩ := HX.out
          subst htv
          rw [← l2] at hcv
          subst hcv
          have hS3 : RS B P _ _ jv2 (wr.drewN (m + 1 + 1)) r2 := hS2.keep fun _ _ => rfl
          obtain ⟨_, _, hS4, hU4⟩ := hS3.cred0 e2 x9
          have hSm := hSim2.first hr2 x9 p.start.beg
          rw [e2] at hSm
          have hS5 : RS B P (.slice (some ⟨gt2, 0, none⟩) n2 capT2) (.slice (some ⟨gc2, 0, none⟩) r2.creds.length capC2) jv2 ((wr.drewN (m + 1 + 1)).setCell ⟨gc2, 0, none⟩ (.int .i64 (x9 : Int))) { r2 with creds := x9 :: s1.map Tn.cr, turn := p.start.beg } := by
            rw [← hSim2.turn]
            exact hS4
          have hk0 : 0 < t1.jobs.length := by rw [hj]; simp
          have hj0 : t1.jobs[0] = j := by
            have : t1.jobs[0]? = some j := by rw [hj]; rfl
            exact (List.getElem?_eq_some_iff.1 this).2
          have hlen := hQ2.b.len
          rw [hr2] at hlen
          refine (take_sim (q := { p.start with ring := { t1 with cr := x9 } :: s1, beg := p.start.beg }) hS5 hSm (a := []) (b := s1) rfl hlen 0 hk0 i hi (by show (r2.jobs[i]).name = (t1.jobs[0]'hk0).name; rw [hjx, hj0])).mono ?_
          rintro e w' ⟨he, tv', cv', jv', r', x1, x2, x3⟩
          refine ⟨?_, tv', cv', jv', r', x1, ?_, ((hU2.drewN (m + 1 + 1)).trans hU4).trans x3⟩
          · rw [he]
            show Ending.returned (jagg (t1.jobs[0]'hk0)) = _
            rw [hj0]
          · rw [← gone_rem hr2 hj HXX.out.1]
            exact x2
        clear c1 c2 c4 d0 d1 d2 hfz z3 zf3
        as_aux_lemma =>
          generalize (wr.drewN (m + 1 + 1)).setCell ⟨gc2, 0, none⟩ (.int .i64 (x9 : Int)) = W3 at *
          go_wp2_with fail
          refine HT.out.mono ?_
          rintro e W4 ⟨rfl, tv', cv', jv', r', hS4, hSim4, hU4⟩
          have hR4 : W4.heap[R]? = some (.cells #[.int .i64 0, .string ⟨#[]⟩, .int .i64 0] 34 (0, 0)) := (hU4.block R HR.out.2.1 HR.out.1).trans HR.out.2.2.1
          have hnR : ¬ R ∈ rids P tv' cv' jv' := fun e => by
            rcases hU4.new R e with e | e
            · exact HR.out.1 e
            · have := HR.out.2.1; omega
          have r0 : W4.cell? ⟨R, 0, none⟩ = some (.int .i64 0) := by rw [Lib.cell_of_heap hR4]; rfl
          have r1 : W4.cell? ⟨R, 1, none⟩ = some (.string ⟨#[]⟩) := by rw [Lib.cell_of_heap hR4]; rfl
          have r2' : W4.cell? ⟨R, 2, none⟩ = some (.int .i64 0) := by rw [Lib.cell_of_heap hR4]; rfl
          have f0 : W4.frozen? ⟨R, 0, none⟩ = false := Lib.frozen_of_heap hR4 0
          have f1 : W4.frozen? ⟨R, 1, none⟩ = false := Lib.frozen_of_heap hR4 1
          have f2 : W4.frozen? ⟨R, 2, none⟩ = false := Lib.frozen_of_heap hR4 2
          have hUw : Upd I (rids P tv' cv' jv') w W4 := (Upd.of_below (I := I) (w := w) (w' := w0) (by rw [HJN.out]; exact HR.out.2.2.2)).trans hU4
          have HEnd : Hid _ := take_end (jx := j) hS4 hUw (by rw [HJN.out]; exact Nat.le_refl _) hR4 hnR
          have HSm : Hid (Sim p.start.gone r') := hSim4
          clear hS4 hSim4 hU4 hR4 hnR hUw HT
          unfold jagg
          go_wp2
          obtain ⟨hE, hG⟩ := HEnd.out
          have g0 : (((W4.setCell ⟨R, 0, none⟩ (.int .i64 (j.ten : Int))).setCell ⟨R, 1, none⟩ (.string j.name)).setCell ⟨R, 2, none⟩ (.int .i64 (j.cost : Int))).cell? ⟨R, 0, none⟩ = some (.int .i64 (j.ten : Int)) := by rw [Lib.cell_of_heap hG]; rfl
          have g1 : (((W4.setCell ⟨R, 0, none⟩ (.int .i64 (j.ten : Int))).setCell ⟨R, 1, none⟩ (.string j.name)).setCell ⟨R, 2, none⟩ (.int .i64 (j.cost : Int))).cell? ⟨R, 1, none⟩ = some (.string j.name) := by rw [Lib.cell_of_heap hG]; rfl
          have g2 : (((W4.setCell ⟨R, 0, none⟩ (.int .i64 (j.ten : Int))).setCell ⟨R, 1, none⟩ (.string j.name)).setCell ⟨R, 2, none⟩ (.int .i64 (j.cost : Int))).cell? ⟨R, 2, none⟩ = some (.int .i64 (j.cost : Int)) := by rw [Lib.cell_of_heap hG]; rfl
          refine bodyPost_ret (v := .tuple #[.agg #[.int .i64 (j.ten : Int), .string j.name, .int .i64 (j.cost : Int)], .bool true]) (by simp [results, Try.results13, go_sem, g0, g1, g2]) rfl ?_
          rw [← HII.out] at hE
          obtain ⟨_, _, hQ2, _, hr2, hj, _⟩ := HX.out
          exact ⟨p.start, t1, s1, j, js, HP1.out.2 _ (Spun.stop ⟨t1, s1, j, js, hr2, hj, HXX.out.2⟩), hQ2, hr2, hj, HXX.out.2, rfl, tv', cv', jv', r', hE.1, HSm.out, hE.2⟩
      · have hcI : ¬ (j.cost : Int) ≤ (t1.cr : Int) := by omega
        have HCC : Hid (¬ j.cost ≤ t1.cr) := hc
        clear hc
        go_wp2_with fail
        go_region
        go_wp2_with fail
        as_aux_lemma =>
          have HM : Hid (mea p.start.over < gk) := by
            have := mea_turn HP1.out.1 HX.out.2.2.2.2.1 HX.out.2.2.2.2.2.1 HCC.out
            have := HI.out.2
            show _ < _
            omega
          have hN1 := nx_one HP1.out.2 HX.out HCC.out (m + 1)
          clear c1 c2 c4 d0 d1 d2 hfz z3 zf3 HX HCC HI HP1 hposI hiI hcI
          generalize (wr.drewN (m + 1)).setCell ⟨P, 3, none⟩ (.bool false) = Z at *
          cases hN1 with | intro av1 hN1 =>
          cases hN1 with | intro cp1 hN1 =>
          cases hN1 with | intro w1 hN1 =>
          cases hN1.rest with | intro av2 hN2 =>
          cases hN2 with | intro cp2 hN2 =>
          cases hN2 with | intro w2 hN2 =>
          have HZe : Hid (∃ Z2, Z2 = w1.setCell ⟨P, 1, none⟩ (.slice av1 n2 cp1)) := ⟨_, rfl⟩
          cases HZe.out with | intro Z2 hZ2 =>
          rw [← hZ2] at hN2
          have HZf : Hid (Z2 = w1.setCell ⟨P, 1, none⟩ (.slice av1 n2 cp1)) := hZ2
          clear hZ2 HZe
          have HZ2 : Hid (RWay B P I q w0 (w2.setCell ⟨P, 2, none⟩ (.slice av2 n2 cp2)) p.start.over) := hN2.rest
          have x1 := hN1.ap
          have x2 := hN1.r1
          have x3 := hN1.r2
          have x4 := hN1.c
          have x5 := hN1.d
          have x6 := hN1.ca
          have x7 := hN1.da
          have x8 := hN1.b1
          have x9 := hN1.b2
          have y1 := hN1.bP
          have y2 := hN1.bT
          have v1 := hN2.ap
          have v2 := hN2.r1
          have v3 := hN2.r2
          have v4 := hN2.c
          have v5 := hN2.d
          have v6 := hN2.ca
          have v7 := hN2.da
          have v9 := hN2.b2
          have z1 := hN2.bP
          have z2 := hN2.bT
          clear hN1 hN2
          go_region
          generalize (if n2 = 1 then some (⟨gt2, 0, none⟩ : Addr) else some ⟨gt2, 1, none⟩) = ao3
          rw [← HZf.out]
          clear x1 x2 x3 x4 x5 x6 x7 x9 y1 y2 HZf
          go_wp2_with fail
          as_aux_lemma =>
            refine wp_letter fun Q0 HQ0 => ?_
            refine wp_region_noPanic ?_
            go_region
            refine NoPanic.normal ?_
            refine (HQ0 _ _ _).out ?_
            clear HQ0
            generalize (if n2 = 1 then some (⟨gc2, 0, none⟩ : Addr) else some ⟨gc2, 1, none⟩) = ao4
            clear v1 v2 v3 v4 v5 v6 v7 v9 z1 z2 x8
            go_wp2
            go_roundg (mea p.start.over)
            case measure => exact HM.out
            case rel => exact ⟨p.start.over, HZ2.out, Nat.le_refl _⟩
    | false =>
      rw [hb] at c3
      obtain ⟨Y, hY, a1, a2, a3, a4, a5, r2, hS2, hSim2, hU2⟩ := HC.out hb
      have HY : Hid (∃ tv2 cv2 jv2 r2, RS B P tv2 cv2 jv2 (Y.setCell ⟨gc, 0, none⟩ (.int .i64 ((t.cr + p.qm : Nat) : Int))) r2 ∧ Sim p.start r2 ∧ Upd I (rids P tv2 cv2 jv2) w0 (Y.setCell ⟨gc, 0, none⟩ (.int .i64 ((t.cr + p.qm : Nat) : Int)))) := ⟨tv1, cv1, jv1, r2, hS2, hSim2, hU2⟩
      obtain ⟨x, hx⟩ : ∃ x, x = t.cr + p.qm := ⟨_, rfl⟩
      rw [← hx] at HY
      have hx2 : (t.cr : Int) + (p.qm : Int) = (x : Int) := by omega
      have hxw : IntKind.i64.wrap (x : Int) = (x : Int) := by rw [IntKind.wrap_i64]; omega
      clear HC HS hb hS2 hSim2 hU2 hx a5
      have HYe : Hid (Y = wr.setCell ⟨P, 3, none⟩ (.bool true)) := hY
      clear hY
      go_wp2_with fail
      rw [← HYe.out]
      clear HYe c1 c3 f3
      go_region
      have HY2 : Hid (∃ tv2 cv2 jv2 r2, RS B P tv2 cv2 jv2 (Y.setCell ⟨gc, 0, none⟩ (.int .i64 (x : Int))).drew r2 ∧ Sim p.start r2 ∧ Upd I (rids P tv2 cv2 jv2) w0 (Y.setCell ⟨gc, 0, none⟩ (.int .i64 (x : Int))).drew) := by
        obtain ⟨tv2, cv2, jv2, r2, y1, y2, y3⟩ := HY.out
        exact ⟨tv2, cv2, jv2, r2, y1.keep fun _ _ => rfl, y2, y3.drewN 1⟩
      clear HY a1 a2 a3 a4 hpos
      have HY := HY2
      clear HY2
      generalize (Y.setCell ⟨gc, 0, none⟩ (.int .i64 (x : Int))).drew = Yx at *
      obtain ⟨tv2, cv2, jv2, r2, hS2, hSim2, hU2⟩ := HY.out
      have hQ2 := HP1.out.1.start
      obtain ⟨t1, s1, hr2⟩ : ∃ t1 s1, p.start.ring = t1 :: s1 := start_ring hr1
      obtain ⟨j, js, hj⟩ : ∃ j js, t1.jobs = j :: js := by
        cases e : t1.jobs with
        | nil => exact absurd e (hQ2.ne t1 (by rw [hr2]; exact List.mem_cons_self))
        | cons j js => exact ⟨j, js, rfl⟩
      obtain ⟨gt2, capT2, gc2, capC2, htv, hcv, hcT, hcC, d0, d1, e1, e2, l1, l2⟩ := hS2.heads hSim2 hr2
      obtain ⟨i, hi, hji, hjx, gj, capJ, hjv, d2⟩ := hS2.headJ hSim2 hr2 hj
      obtain ⟨n2, hn2⟩ : ∃ n2, n2 = s1.length + 1 := ⟨_, rfl⟩
      rw [← hn2] at htv hcv hcT hcC l1 l2
      obtain ⟨L, hL⟩ : ∃ L, L = r2.jobs.length := ⟨_, rfl⟩
      rw [← hL] at hjv
      have c1 : Yx.cell? ⟨P, 1, none⟩ = some (.slice (some ⟨gt2, 0, none⟩) n2 capT2) := by rw [← htv]; exact hS2.c 1 _ rfl
      have c2 : Yx.cell? ⟨P, 2, none⟩ = some (.slice (some ⟨gc2, 0, none⟩) n2 capC2) := by rw [← hcv]; exact hS2.c 2 _ rfl
      have c4 : Yx.cell? ⟨P, 4, none⟩ = some (.slice (some ⟨gj, 0, none⟩) L capJ) := by rw [← hjv]; exact hS2.c 4 _ rfl
      have z3 : Yx.cell? ⟨P, 3, none⟩ = some (.bool true) := by
        have := hS2.c 3 (.bool r2.turn) rfl
        rw [hSim2.turn, start_true hr1] at this
        exact this
      have zf3 : Yx.frozen? ⟨P, 3, none⟩ = false := Lib.frozen_of_heap hS2.blk 3
      have hposI : 0 < (n2 : Int) := by omega
      have hiI : (i : Int) < (L : Int) := by omega
      have hLs : L ≤ 200 := by rw [hL, hSim2.len]; exact hSim2.le
      have hlr : p.start.ring.length ≤ 1000 := hQ2.b.len
      have hlr2 : n2 ≤ 1000 := by rw [hr2] at hlr; simp at hlr; omega
      have HF : Hid (Calls Try.prog 30 #[.pointer (some ⟨P, 0, none⟩), .int .i64 (t1.num : Int)] Yx fun e w' => e = .returned (.int .i64 (i : Int)) ∧ ∃ m, w' = Yx.drewN m) := by
        have := First_any P t1.num jv2 r2.jobs Yx (hS2.c 4 _ rfl) hS2.jobs.readJ (by omega)
        rw [hji] at this
        exact this
      have hfz : Yx.frozen? ⟨gc2, 0, none⟩ = false := by
        have hS3 := hS2
        rw [hcv, ← l2] at hS3
        exact (hS3.cred0 e2 0).2.1
      have HX : Hid (RS B P tv2 cv2 jv2 Yx r2 ∧ Sim p.start r2 ∧ QI p.start ∧ Upd I (rids P tv2 cv2 jv2) w0 Yx ∧ p.start.ring = t1 :: s1 ∧ t1.jobs = j :: js ∧ tv2 = .slice (some ⟨gt2, 0, none⟩) n2 capT2 ∧ cv2 = .slice (some ⟨gc2, 0, none⟩) n2 capC2 ∧ n2 ≤ capT2 ∧ n2 ≤ capC2 ∧ r2.tens = t1.num :: s1.map Tn.num ∧ r2.creds = t1.cr :: s1.map Tn.cr ∧ r2.tens.length = n2 ∧ r2.creds.length = n2 ∧ (∃ hi : i < r2.jobs.length, r2.jobs[i] = j) ∧ n2 = s1.length + 1 ∧ n2 ≤ 1000) := ⟨hS2, hSim2, hQ2, hU2, hr2, hj, htv, hcv, hcT, hcC, e1, e2, l1, l2, ⟨hi, hjx⟩, hn2, hlr2⟩
      clear hS2 hSim2 hQ2 hU2 hr2 hj htv hcv hcT hcC e1 e2 l1 l2 hi hji hjx hn2 hL hjv hLs hlr hlr2 HY hr1
      go_wp2_with fail
      refine HF.out.mono ?_
      rintro e w1 ⟨rfl, m, rfl⟩
      clear HF
      by_cases hc : j.cost ≤ t1.cr
      · have hcI : (j.cost : Int) ≤ (t1.cr : Int) := by omega
        obtain ⟨x9, hx9⟩ : ∃ x9, x9 = t1.cr - j.cost := ⟨_, rfl⟩
        have hx8 : (t1.cr : Int) - (j.cost : Int) = (x9 : Int) := by omega
        have hcr := HX.out.2.2.1.cr t1 (by rw [HX.out.2.2.2.2.1]; exact List.mem_cons_self)
        have hx7 : IntKind.i64.wrap (x9 : Int) = (x9 : Int) := by rw [IntKind.wrap_i64]; omega
        have HXX : Hid (x9 = t1.cr - j.cost ∧ j.cost ≤ t1.cr) := ⟨hx9, hc⟩
        clear hx9 hc hcr
        go_wp2_with fail
        go_region
        go_wp2_with fail
        go_region
        have HT : Hid (Calls Try.prog 34 #[.pointer (some ⟨P, 0, none⟩), .int .i64 (i : Int)] ((Yx.drewN (m + 1 + 1)).setCell ⟨gc2, 0, none⟩ (.int .i64 (x9 : Int))) fun e w' => e = .returned (jagg j) ∧ ∃ tv' cv' jv' r', RS B P tv' cv' jv' w' r' ∧ Sim p.start.gone r' ∧ Upd I (rids P tv' cv' jv') w0 w') := by
          obtain ⟨hS2, hSim2, hQ2, hU2, hr2, hj, htv, hcv, hcT, hcC, e1, e2, l1, l2, ⟨hi, hjx⟩, hn2, hlr2⟩ := HX.out
          subst htv
          rw [← l2] at hcv
          subst hcv
          have hS3 : RS B P _ _ jv2 (Yx.drewN (m + 1 + 1)) r2 := hS2.keep fun _ _ => rfl
          obtain ⟨_, _, hS4, hU4⟩ := hS3.cred0 e2 x9
          have hSm := hSim2.first hr2 x9 p.start.beg
          rw [e2] at hSm
          have hS5 : RS B P (.slice (some ⟨gt2, 0, none⟩) n2 capT2) (.slice (some ⟨gc2, 0, none⟩) r2.creds.length capC2) jv2 ((Yx.drewN (m + 1 + 1)).setCell ⟨gc2, 0, none⟩ (.int .i64 (x9 : Int))) { r2 with creds := x9 :: s1.map Tn.cr, turn := p.start.beg } := by
            rw [← hSim2.turn]
            exact hS4
          have hk0 : 0 < t1.jobs.length := by rw [hj]; simp
          have hj0 : t1.jobs[0] = j := by
            have : t1.jobs[0]? = some j := by rw [hj]; rfl
            exact (List.getElem?_eq_some_iff.1 this).2
          have hlen := hQ2.b.len
          rw [hr2] at hlen
          refine (take_sim (q := { p.start with ring := { t1 with cr := x9 } :: s1, beg := p.start.beg }) hS5 hSm (a := []) (b := s1) rfl hlen 0 hk0 i hi (by show (r2.jobs[i]).name = (t1.jobs[0]'hk0).name; rw [hjx, hj0])).mono ?_
          rintro e w' ⟨he, tv', cv', jv', r', x1, x2, x3⟩
          refine ⟨?_, tv', cv', jv', r', x1, ?_, ((hU2.drewN (m + 1 + 1)).trans hU4).trans x3⟩
          · rw [he]
            show Ending.returned (jagg (t1.jobs[0]'hk0)) = _
            rw [hj0]
          · rw [← gone_rem hr2 hj HXX.out.1]
            exact x2
        clear c1 c2 c4 d0 d1 d2 hfz z3 zf3
        as_aux_lemma =>
          generalize (Yx.drewN (m + 1 + 1)).setCell ⟨gc2, 0, none⟩ (.int .i64 (x9 : Int)) = W3 at *
          go_wp2_with fail
          refine HT.out.mono ?_
          rintro e W4 ⟨rfl, tv', cv', jv', r', hS4, hSim4, hU4⟩
          have hR4 : W4.heap[R]? = some (.cells #[.int .i64 0, .string ⟨#[]⟩, .int .i64 0] 34 (0, 0)) := (hU4.block R HR.out.2.1 HR.out.1).trans HR.out.2.2.1
          have hnR : ¬ R ∈ rids P tv' cv' jv' := fun e => by
            rcases hU4.new R e with e | e
            · exact HR.out.1 e
            · have := HR.out.2.1; omega
          have r0 : W4.cell? ⟨R, 0, none⟩ = some (.int .i64 0) := by rw [Lib.cell_of_heap hR4]; rfl
          have r1 : W4.cell? ⟨R, 1, none⟩ = some (.string ⟨#[]⟩) := by rw [Lib.cell_of_heap hR4]; rfl
          have r2' : W4.cell? ⟨R, 2, none⟩ = some (.int .i64 0) := by rw [Lib.cell_of_heap hR4]; rfl
          have f0 : W4.frozen? ⟨R, 0, none⟩ = false := Lib.frozen_of_heap hR4 0
          have f1 : W4.frozen? ⟨R, 1, none⟩ = false := Lib.frozen_of_heap hR4 1
          have f2 : W4.frozen? ⟨R, 2, none⟩ = false := Lib.frozen_of_heap hR4 2
          have hUw : Upd I (rids P tv' cv' jv') w W4 := (Upd.of_below (I := I) (w := w) (w' := w0) (by rw [HJN.out]; exact HR.out.2.2.2)).trans hU4
          have HEnd : Hid _ := take_end (jx := j) hS4 hUw (by rw [HJN.out]; exact Nat.le_refl _) hR4 hnR
          have HSm : Hid (Sim p.start.gone r') := hSim4
          clear hS4 hSim4 hU4 hR4 hnR hUw HT
          unfold jagg
          go_wp2
          obtain ⟨hE, hG⟩ := HEnd.out
          have g0 : (((W4.setCell ⟨R, 0, none⟩ (.int .i64 (j.ten : Int))).setCell ⟨R, 1, none⟩ (.string j.name)).setCell ⟨R, 2, none⟩ (.int .i64 (j.cost : Int))).cell? ⟨R, 0, none⟩ = some (.int .i64 (j.ten : Int)) := by rw [Lib.cell_of_heap hG]; rfl
          have g1 : (((W4.setCell ⟨R, 0, none⟩ (.int .i64 (j.ten : Int))).setCell ⟨R, 1, none⟩ (.string j.name)).setCell ⟨R, 2, none⟩ (.int .i64 (j.cost : Int))).cell? ⟨R, 1, none⟩ = some (.string j.name) := by rw [Lib.cell_of_heap hG]; rfl
          have g2 : (((W4.setCell ⟨R, 0, none⟩ (.int .i64 (j.ten : Int))).setCell ⟨R, 1, none⟩ (.string j.name)).setCell ⟨R, 2, none⟩ (.int .i64 (j.cost : Int))).cell? ⟨R, 2, none⟩ = some (.int .i64 (j.cost : Int)) := by rw [Lib.cell_of_heap hG]; rfl
          refine bodyPost_ret (v := .tuple #[.agg #[.int .i64 (j.ten : Int), .string j.name, .int .i64 (j.cost : Int)], .bool true]) (by simp [results, Try.results13, go_sem, g0, g1, g2]) rfl ?_
          rw [← HII.out] at hE
          obtain ⟨_, _, hQ2, _, hr2, hj, _⟩ := HX.out
          exact ⟨p.start, t1, s1, j, js, HP1.out.2 _ (Spun.stop ⟨t1, s1, j, js, hr2, hj, HXX.out.2⟩), hQ2, hr2, hj, HXX.out.2, rfl, tv', cv', jv', r', hE.1, HSm.out, hE.2⟩
      · have hcI : ¬ (j.cost : Int) ≤ (t1.cr : Int) := by omega
        have HCC : Hid (¬ j.cost ≤ t1.cr) := hc
        clear hc
        go_wp2_with fail
        go_region
        go_wp2_with fail
        as_aux_lemma =>
          have HM : Hid (mea p.start.over < gk) := by
            have := mea_turn HP1.out.1 HX.out.2.2.2.2.1 HX.out.2.2.2.2.2.1 HCC.out
            have := HI.out.2
            show _ < _
            omega
          have hN1 := nx_one HP1.out.2 HX.out HCC.out (m + 1)
          clear c1 c2 c4 d0 d1 d2 hfz z3 zf3 HX HCC HI HP1 hposI hiI hcI
          generalize (Yx.drewN (m + 1)).setCell ⟨P, 3, none⟩ (.bool false) = Z at *
          cases hN1 with | intro av1 hN1 =>
          cases hN1 with | intro cp1 hN1 =>
          cases hN1 with | intro w1 hN1 =>
          cases hN1.rest with | intro av2 hN2 =>
          cases hN2 with | intro cp2 hN2 =>
          cases hN2 with | intro w2 hN2 =>
          have HZe : Hid (∃ Z2, Z2 = w1.setCell ⟨P, 1, none⟩ (.slice av1 n2 cp1)) := ⟨_, rfl⟩
          cases HZe.out with | intro Z2 hZ2 =>
          rw [← hZ2] at hN2
          have HZf : Hid (Z2 = w1.setCell ⟨P, 1, none⟩ (.slice av1 n2 cp1)) := hZ2
          clear hZ2 HZe
          have HZ2 : Hid (RWay B P I q w0 (w2.setCell ⟨P, 2, none⟩ (.slice av2 n2 cp2)) p.start.over) := hN2.rest
          have x1 := hN1.ap
          have x2 := hN1.r1
          have x3 := hN1.r2
          have x4 := hN1.c
          have x5 := hN1.d
          have x6 := hN1.ca
          have x7 := hN1.da
          have x8 := hN1.b1
          have x9 := hN1.b2
          have y1 := hN1.bP
          have y2 := hN1.bT
          have v1 := hN2.ap
          have v2 := hN2.r1
          have v3 := hN2.r2
          have v4 := hN2.c
          have v5 := hN2.d
          have v6 := hN2.ca
          have v7 := hN2.da
          have v9 := hN2.b2
          have z1 := hN2.bP
          have z2 := hN2.bT
          clear hN1 hN2
          go_region
          generalize (if n2 = 1 then some (⟨gt2, 0, none⟩ : Addr) else some ⟨gt2, 1, none⟩) = ao3
          rw [← HZf.out]
          clear x1 x2 x3 x4 x5 x6 x7 x9 y1 y2 HZf
          go_wp2_with fail
          as_aux_lemma =>
            refine wp_letter fun Q0 HQ0 => ?_
            refine wp_region_noPanic ?_
            go_region
            refine NoPanic.normal ?_
            refine (HQ0 _ _ _).out ?_
            clear HQ0
            generalize (if n2 = 1 then some (⟨gc2, 0, none⟩ : Addr) else some ⟨gc2, 1, none⟩) = ao4
            clear v1 v2 v3 v4 v5 v6 v7 v9 z1 z2 x8
            go_wp2
            go_roundg (mea p.start.over)
            case measure => exact HM.out
            case rel => exact ⟨p.start.over, HZ2.out, Nat.le_refl _⟩
end Go.Proofs.Ytfddhdpnoliamaa
