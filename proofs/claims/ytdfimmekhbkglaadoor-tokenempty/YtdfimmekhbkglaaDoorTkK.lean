/- Blanks, and what is left out, are skipped. -/
import Derived.Test.YtdfimmekhbkglaaDoorTkT
namespace Go.Proofs.YtdfimmekhbkglaaDoor
open Go.RowKit Go.Shelf

set_option maxHeartbeats 1000000 in
theorem skip1_any (c : UInt8) (Q P o : Nat) (W : World) (hq : W.cell? ⟨Q, 0, none⟩ = some (.pointer (some ⟨P, 0, none⟩))) (ho : W.cell? ⟨P, 4, none⟩ = some (.int .i64 o)) :
    Calls Tryd.prog 27 #[.int .u8 c.toNat, .pointer (some ⟨Q, 0, none⟩)] W fun e w' => e = .returned (.bool (isBl o c)) ∧ w' = W := by
  have q1 := c_eq c 32
  have q2 := c_eq c 10
  have q1' : ((c.toNat : Int) == 32) = decide (c.toNat = 32) := q1
  have q2' : ((c.toNat : Int) == 10) = decide (c.toNat = 10) := q2
  have e : isBl o c = (decide (c.toNat = 32) || (decide (c.toNat = 10) && decide (0 < o))) := rfl
  rw [e]
  generalize decide (c.toNat = 32) = b1 at *
  generalize decide (c.toNat = 10) = b2 at *
  clear q1 q2 e
  cases b1 with
  | true =>
    go_enter Tryd.func27, Tryd.ntmps27
    go_wp2
    go_ret
    exact ⟨rfl, rfl⟩
  | false =>
    cases b2 with
    | true =>
      go_enter Tryd.func27, Tryd.ntmps27
      go_wp2
      go_ret
      exact ⟨ret_b (by simp), rfl⟩
    | false =>
      go_enter Tryd.func27, Tryd.ntmps27
      go_wp2
      go_ret
      exact ⟨rfl, rfl⟩
theorem says_bl (Q P o : Nat) (W : World) (hq : W.cell? ⟨Q, 0, none⟩ = some (.pointer (some ⟨P, 0, none⟩))) (ho : W.cell? ⟨P, 4, none⟩ = some (.int .i64 o)) : Says 27 #[.pointer (some ⟨Q, 0, none⟩)] W (isBl o) :=
  ⟨enters_of Tryd.func27 (by kernel_rfl) rfl, fun c => skip1_any c Q P o W hq ho⟩

theorem skp_len (o : Nat) : ∀ (f : Nat) (r : List UInt8), skp o f r ≤ r.length := by
  intro f
  induction f with
  | zero => intro r; exact rch_le _ r
  | succ f ih =>
    intro r
    unfold skp
    have h1 := rch_le (isBl o) r
    cases decide (((r.drop (rch (isBl o) r)).getD 0 0).toNat = 35)
    · exact h1
    · have h2 := rch_le isNl (r.drop (rch (isBl o) r))
      have h3 := ih (r.drop (rch (isBl o) r + rch isNl (r.drop (rch (isBl o) r))))
      rw [List.length_drop] at h2 h3
      simp only [cond_true]
      omega
theorem nl_pos (r : List UInt8) (h : (r.getD 0 0).toNat = 35) : 0 < rch isNl r := by
  match r with
  | [] => simp at h
  | c :: r =>
    have hc : c.toNat = 35 := h
    unfold rch isNl
    rw [hc]
    simp
theorem skp_more (o : Nat) : ∀ (f g : Nat) (r : List UInt8), r.length ≤ f → r.length ≤ g → skp o f r = skp o g r := by
  intro f
  induction f with
  | zero =>
    intro g r h1 _
    have : r = [] := List.length_eq_zero_iff.1 (by omega)
    subst this
    cases g with
    | zero => rfl
    | succ g => rfl
  | succ f ih =>
    intro g r h1 h2
    cases g with
    | zero =>
      have : r = [] := List.length_eq_zero_iff.1 (by omega)
      subst this
      rfl
    | succ g =>
      unfold skp
      cases hd : decide (((r.drop (rch (isBl o) r)).getD 0 0).toNat = 35) with
      | false => rfl
      | true =>
        have hp := nl_pos _ (of_decide_eq_true hd)
        simp only [cond_true]
        rw [ih g _ (by rw [List.length_drop]; omega) (by rw [List.length_drop]; omega)]
theorem skp_stop (o f : Nat) (r : List UInt8) (h : ¬ ((r.drop (rch (isBl o) r)).getD 0 0).toNat = 35) : skp o f r = rch (isBl o) r := by
  cases f with
  | zero => rfl
  | succ f =>
    unfold skp
    rw [show decide (((r.drop (rch (isBl o) r)).getD 0 0).toNat = 35) = false from by simpa using h]
    rfl
theorem skp_go (o f : Nat) (r : List UInt8) (hf : r.length ≤ f) (h : ((r.drop (rch (isBl o) r)).getD 0 0).toNat = 35) : skp o f r = rch (isBl o) r + rch isNl (r.drop (rch (isBl o) r)) + skp o f (r.drop (rch (isBl o) r + rch isNl (r.drop (rch (isBl o) r)))) := by
  have h0 : r ≠ [] := by intro e; subst e; simp [rch] at h
  cases f with
  | zero => exact absurd (List.length_eq_zero_iff.1 (by omega)) h0
  | succ f =>
    have hp := nl_pos _ h
    have hl : 0 < r.length := List.length_pos_iff.2 h0
    conv => lhs; unfold skp
    rw [show decide (((r.drop (rch (isBl o) r)).getD 0 0).toNat = 35) = true from by simpa using h]
    simp only [cond_true]
    rw [skp_more o f (f + 1) _ (by rw [List.length_drop]; omega) (by rw [List.length_drop]; omega)]

/-- Where the splitter is, out of memory. -/
def posOf (P : Nat) (w : World) : Nat := match w.cell? ⟨P, 1, none⟩ with | some (.int _ n) => n.toNat | _ => 0
theorem TS.posOf {B P : Nat} {L : List UInt8} {tv iv : Value} {w : World} {p : Sp} (h : TS B P L tv iv w p) : posOf P w = p.pos := by
  unfold Go.Proofs.YtdfimmekhbkglaaDoor.posOf
  rw [h.c1]
  simp

set_option maxHeartbeats 4000000 in
set_option maxRecDepth 100000 in
theorem skip_any {B P : Nat} {L : List UInt8} {tv iv : Value} {w : World} {p : Sp} (h : TS B P L tv iv w p) (hL : L.length ≤ 6000) (hp : p.pos ≤ L.length) :
    Calls Tryd.prog 19 #[.pointer (some ⟨P, 0, none⟩)] w fun e w' => e = .returned (.tuple #[]) ∧ TS B P L tv iv w' (p.skip L) ∧ Below B w w' ∧ ∀ g : Nat, g < w.heap.size → g ≠ P → w'.heap[g]? = w.heap[g]? := by
  have hBl : B ≤ w.heap.size := by have := h.hB; have := h.lt; omega
  have H0 : Hid (TS B P L tv iv (w.alloc (.cells #[.pointer (some ⟨P, 0, none⟩)] 42)) p ∧ Below B w (w.alloc (.cells #[.pointer (some ⟨P, 0, none⟩)] 42)) ∧ (w.alloc (.cells #[.pointer (some ⟨P, 0, none⟩)] 42)).heap[w.heap.size]? = some (.cells #[.pointer (some ⟨P, 0, none⟩)] 42 (0, 0))) := ⟨h.up ((Below.refl _ _).alloc (Nat.le_refl _) _), (Below.refl _ _).alloc hBl _, heap_alloc_new w _⟩
  have hskip : p.skip L = { p with pos := p.pos + skp p.opn L.length (L.drop p.pos) } := rfl
  rw [hskip]
  have HQ : Hid (P < w.heap.size ∧ B ≤ P) := ⟨h.lt, h.hB⟩
  have HK0 : Hid (∀ g : Nat, g < w.heap.size → (w.alloc (.cells #[.pointer (some ⟨P, 0, none⟩)] 42)).heap[g]? = w.heap[g]?) := fun g hg => heap_al w _ g hg
  have hen : ∀ args w, (callFunc 27 args).run Tryd.prog w = .ok (.enter 27 args) w := enters_of Tryd.func27 (by kernel_rfl) rfl
  have hmf : ∀ (fn : Fn) (first cap : Array Value) (w : World), (Instr.makeFunc fn first cap).run Tryd.prog w = .ok (.func fn first cap) w := fun _ _ _ _ => rfl
  generalize hQ : w.heap.size = Q at *
  clear h hskip
  go_enter Tryd.func19, Tryd.ntmps19
  go_wp2
  go_loopw [2] (fun _ wr => ∃ x : Nat, x ≤ L.length ∧ Hid (p.pos + skp p.opn L.length (L.drop p.pos) = x + skp p.opn L.length (L.drop x)) ∧ Hid (TS B P L tv iv wr { p with pos := x } ∧ Below B w wr ∧ wr.heap[Q]? = some (.cells #[.pointer (some ⟨P, 0, none⟩)] 42 (0, 0)) ∧ ∀ g : Nat, g < Q → g ≠ P → wr.heap[g]? = w.heap[g]?)) (fun _ wr => L.length - posOf P wr)
  case atStart => exact ⟨p.pos, hp, rfl, H0.out.1, H0.out.2.1, H0.out.2.2, fun g hg _ => HK0.out g hg⟩
  case round =>
    obtain ⟨x, hx, HE, HT⟩ := hrel
    clear H0 HK0
    have q0 : wr.cell? ⟨Q, 0, none⟩ = some (.pointer (some ⟨P, 0, none⟩)) := by rw [Lib.cell_of_heap HT.out.2.2.1]; rfl
    have HPQ : Hid (Q ≠ P) := by have := HQ.out.1; show _ ≠ _; omega
    have HTk : Hid (Calls Tryd.prog 26 #[.pointer (some ⟨P, 0, none⟩), .func (.func 27) #[] #[.pointer (some ⟨Q, 0, none⟩)]] wr fun e w' => (∃ t, e = .returned (.string t)) ∧ TS B P L tv iv w' { p with pos := x + rch (isBl p.opn) (L.drop x) } ∧ Below B wr w' ∧ ∀ g : Nat, g ≠ P → w'.heap[g]? = wr.heap[g]?) :=
      (take_cap HT.out.1 hL hx 27 (.pointer (some ⟨Q, 0, none⟩)) (isBl p.opn) (fun W hW => by
        obtain ⟨n, rfl⟩ := hW
        exact says_bl Q P p.opn _ q0 HT.out.1.c4)).mono fun e w' ⟨a, b, c, d⟩ => ⟨⟨_, a⟩, b, c, d⟩
    have hle1 := rch_le (isBl p.opn) (L.drop x)
    rw [List.length_drop] at hle1
    have HST : Hid (¬ (L.getD (x + rch (isBl p.opn) (L.drop x)) 0).toNat = 35 → x + skp p.opn L.length (L.drop x) = x + rch (isBl p.opn) (L.drop x)) := fun hne => by
      rw [skp_stop p.opn L.length (L.drop x) (by rw [List.drop_drop, at_drop]; exact hne)]
    have HGO : Hid ((L.getD (x + rch (isBl p.opn) (L.drop x)) 0).toNat = 35 → x + skp p.opn L.length (L.drop x) = x + rch (isBl p.opn) (L.drop x) + rch isNl (L.drop (x + rch (isBl p.opn) (L.drop x))) + skp p.opn L.length (L.drop (x + rch (isBl p.opn) (L.drop x) + rch isNl (L.drop (x + rch (isBl p.opn) (L.drop x)))))) := fun he => by
      have := skp_go p.opn L.length (L.drop x) (by rw [List.length_drop]; omega) (by rw [List.drop_drop, at_drop]; exact he)
      rw [List.drop_drop, List.drop_drop, ← Nat.add_assoc] at this
      omega
    generalize rch (isBl p.opn) (L.drop x) = k at *
    obtain ⟨x1, hx1⟩ : ∃ x1, x1 = x + k := ⟨_, rfl⟩
    rw [← hx1] at HTk HST HGO
    have hx1l : x1 ≤ L.length := by omega
    go_wp2_with fail
    refine HTk.out.mono ?_
    rintro e w1 ⟨⟨t1, rfl⟩, hts1, hb1, hk1⟩
    have HT1 : Hid (TS B P L tv iv w1 { p with pos := x1 } ∧ Below B w w1 ∧ w1.heap[Q]? = some (.cells #[.pointer (some ⟨P, 0, none⟩)] 42 (0, 0)) ∧ ∀ g : Nat, g < Q → g ≠ P → w1.heap[g]? = w.heap[g]?) := ⟨hts1, HT.out.2.1.trans hb1, (hk1 Q HPQ.out).trans HT.out.2.2.1, fun g hg hp => (hk1 g hp).trans (HT.out.2.2.2 g hg hp)⟩
    have q1 : w1.cell? ⟨Q, 0, none⟩ = some (.pointer (some ⟨P, 0, none⟩)) := by rw [Lib.cell_of_heap HT1.out.2.2.1]; rfl
    have HSe : Hid (Calls Tryd.prog 20 #[.pointer (some ⟨P, 0, none⟩), .int .u8 (35 : Nat)] w1 fun e w' => e = .returned (.bool (decide ((L.getD x1 0).toNat = 35))) ∧ ∃ n, w' = w1.drewN n) := sees_any hts1 hx1l 35 (by decide)
    clear hts1 hb1 hk1 q0 HTk
    by_cases hsee : (L.getD x1 0).toNat = 35
    · rw [show decide ((L.getD x1 0).toNat = 35) = true from by simpa using hsee] at HSe
      have HGo := HGO.out hsee
      have hnp : 0 < rch isNl (L.drop x1) := nl_pos _ (by rw [at_drop]; exact hsee)
      have hle2 := rch_le isNl (L.drop x1)
      rw [List.length_drop] at hle2
      have HTk2 : Hid (∀ n, Calls Tryd.prog 26 #[.pointer (some ⟨P, 0, none⟩), .func (.func 28) #[] #[]] (w1.drewN n) fun e w' => (∃ t, e = .returned (.string t)) ∧ TS B P L tv iv w' { p with pos := x1 + rch isNl (L.drop x1) } ∧ Below B (w1.drewN n) w' ∧ ∀ g : Nat, g ≠ P → w'.heap[g]? = w1.heap[g]?) := fun n =>
        (take_any (HT1.out.1.drewN n) hL hx1l 28 isNl (fun W _ => says_nl W)).mono fun e w' ⟨a, b, c, d⟩ => ⟨⟨_, a⟩, b, c, d⟩
      have HGo' : Hid _ := HGo
      generalize rch isNl (L.drop x1) = m at *
      clear hsee HGO HST HGo
      go_wp2_with fail
      refine HSe.out.mono ?_
      rintro e w' ⟨rfl, n, rfl⟩
      go_wp2_with fail
      refine (HTk2.out n).mono ?_
      rintro e w2 ⟨⟨t2, rfl⟩, hts2, hb2, hk2⟩
      have HT2 : Hid (TS B P L tv iv w2 { p with pos := x1 + m } ∧ Below B w w2 ∧ w2.heap[Q]? = some (.cells #[.pointer (some ⟨P, 0, none⟩)] 42 (0, 0)) ∧ ∀ g : Nat, g < Q → g ≠ P → w2.heap[g]? = w.heap[g]?) := ⟨hts2, (below_drewN HT1.out.2.1 n).trans hb2, (hk2 Q HPQ.out).trans HT1.out.2.2.1, fun g hg hp => (hk2 g hp).trans (HT1.out.2.2.2 g hg hp)⟩
      clear hts2 hb2 hk2
      go_wp2
      refine ⟨⟨x1 + m, by omega, HE.out.trans HGo'.out, HT2⟩, ?_⟩
      rw [HT2.out.1.posOf, HT.out.1.posOf]
      show L.length - (x1 + m) < L.length - x
      omega
    · rw [show decide ((L.getD x1 0).toNat = 35) = false from by simpa using hsee] at HSe
      have HEnd : Hid (p.pos + skp p.opn L.length (L.drop p.pos) = x1) := HE.out.trans (HST.out hsee)
      clear hsee HGO HST
      go_wp2_with fail
      refine HSe.out.mono ?_
      rintro e w' ⟨rfl, n, rfl⟩
      go_wp2
      refine bodyPost_ret (results_none rfl _ _ _) rfl ?_
      refine ⟨rfl, ?_, below_drewN HT1.out.2.1 n, fun g hg hp => HT1.out.2.2.2 g hg hp⟩
      rw [HEnd.out]
      exact HT1.out.1.drewN n
end Go.Proofs.YtdfimmekhbkglaaDoor
