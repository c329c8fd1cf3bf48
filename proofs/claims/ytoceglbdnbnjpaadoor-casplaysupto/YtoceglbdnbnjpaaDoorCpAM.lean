/- The store and the document's Kept side by side: each call of either. -/
import Derived.Test.YtoceglbdnbnjpaaDoorCpZM
import Derived.Test.YtoceglbdnbnjpaaDoorCpWM
import Derived.Test.YtoceglbdnbnjpaaDoorCsFdM
import Derived.Test.YtoceglbdnbnjpaaDoorCsChM
namespace Go.Proofs.YtoceglbdnbnjpaaDoor
open Go.RowKit Go.Shelf

/-- Both, apart from each other. -/
def KB (B P M R rm n : Nat) (E : List Ent) (L : List Kt) (w : World) : Prop := ∃ tn I tv pv, CS B P M rm tn E I w ∧ KD B R (rm : Int) tv pv L w ∧ (∀ g ∈ rid R (krs tv pv L), g ∉ I) ∧ tn ≤ n ∧ (∀ e ∈ E, e.dg = smB e.tx) ∧ (∀ e ∈ E, e.pins ≤ n) ∧ B ≤ w.heap.size

section
variable {B P M R rm n : Nat} {E E' : List Ent} {L L' : List Kt} {w w' : World}
theorem KB.up (h : KB B P M R rm n E L w) (hb : Below w.heap.size w w') : KB B P M R rm n E L w' := by
  obtain ⟨tn, I, tv, pv, h1, h2, h3, h4, h5, h6, h7⟩ := h
  exact ⟨tn, I, tv, pv, h1.up hb, h2.up hb, h3, h4, h5, h6, Nat.le_trans h7 hb.size⟩
theorem KB.more {m : Nat} (h : KB B P M R rm n E L w) (hm : n ≤ m) : KB B P M R rm m E L w := by
  obtain ⟨tn, I, tv, pv, h1, h2, h3, h4, h5, h6, h7⟩ := h
  exact ⟨tn, I, tv, pv, h1, h2, h3, by omega, h5, fun e he => Nat.le_trans (h6 e he) hm, h7⟩
theorem KB.size (h : KB B P M R rm n E L w) : B ≤ w.heap.size := by
  obtain ⟨tn, I, tv, pv, h1, h2, h3, h4, h5, h6, h7⟩ := h
  exact h7
theorem KB.dg (h : KB B P M R rm n E L w) : ∀ e ∈ E, e.dg = smB e.tx := by
  obtain ⟨tn, I, tv, pv, h1, h2, h3, h4, h5, h6, h7⟩ := h
  exact h5
theorem KB.dok (h : KB B P M R rm n E L w) : ∀ e ∈ E, digOk e.dg = true := fun e he => by
  rw [h.dg e he]
  exact sm_dig _
theorem KB.sz (h : KB B P M R rm n E L w) : ∀ e ∈ E, e.tx.size ≤ 100000 := by
  obtain ⟨tn, I, tv, pv, ⟨v, l, h1, _⟩, h2, h3, h4, h5, h6, h7⟩ := h
  exact h1.pl.sz
theorem KB.pi (h : KB B P M R rm n E L w) : ∀ e ∈ E, e.pins ≤ n := by
  obtain ⟨tn, I, tv, pv, h1, h2, h3, h4, h5, h6, h7⟩ := h
  exact h6
theorem KB.len (h : KB B P M R rm n E L w) : E.length ≤ n := by
  obtain ⟨tn, I, tv, pv, ⟨v, l, h1, _⟩, h2, h3, h4, h5, h6, h7⟩ := h
  exact Nat.le_trans h1.pl.len h4
theorem prs_sz (h : ∀ e ∈ E, e.tx.size ≤ 100000) : ∀ x ∈ prs E, x.1.size ≤ 100000 := fun x hx => by
  obtain ⟨e, he, rfl⟩ := List.mem_map.1 hx
  exact h e he
/-- The store is turned. -/
theorem KB.store {tn tn' m : Nat} {I I' : List Nat} {tv pv : Value} (h2 : KD B R (rm : Int) tv pv L w) (h3 : ∀ g ∈ rid R (krs tv pv L), g ∉ I) (hB : B ≤ w.heap.size) (h1 : CS B P M rm tn E I w) (k1 : CS B P M rm tn' E' I' w') (hu : Upd I I' w w') (ht : tn' ≤ m) (hd : ∀ e ∈ E', e.dg = smB e.tx) (hp : ∀ e ∈ E', e.pins ≤ m) :
    KB B P M R rm m E' L w' ∧ Below B w w' :=
  ⟨⟨tn', I', tv, pv, k1, DS.keep h2 fun g hg => hu.block g (DS.lt h2 g hg).2 (h3 g hg), fun g hg hi => by
    rcases hu.new g hi with e | e
    · exact h3 g hg e
    · have := (DS.lt h2 g hg).2; omega, ht, hd, hp, Nat.le_trans hB hu.size⟩, hu.below (fun g hg => (h1.lt g hg).1) hB⟩
/-- The document's is turned. -/
theorem KB.docu {tn : Nat} {I : List Nat} {tv pv tv' pv' : Value} (h1 : CS B P M rm tn E I w) (h2 : KD B R (rm : Int) tv pv L w) (h3 : ∀ g ∈ rid R (krs tv pv L), g ∉ I) (ht : tn ≤ n) (hd : ∀ e ∈ E, e.dg = smB e.tx) (hp : ∀ e ∈ E, e.pins ≤ n) (hB : B ≤ w.heap.size) (k1 : KD B R (rm : Int) tv' pv' L' w') (hu : Upd (rid R (krs tv pv L)) (rid R (krs tv' pv' L')) w w') :
    KB B P M R rm n E L' w' ∧ Below B w w' :=
  ⟨⟨tn, I, tv', pv', h1.keep fun g hg => hu.block g (h1.lt g hg).2 (fun hh => h3 g hh hg), k1, fun g hg hi => by
    rcases hu.new g hg with e | e
    · exact h3 g e hi
    · have := (h1.lt g hi).2; omega, ht, hd, hp, Nat.le_trans hB hu.size⟩, hu.below (fun g hg => (DS.lt h2 g hg).1) hB⟩

/-- What the document's Put does. -/
def PutK (rm : Nat) (tx : ByteArray) (L : List Kt) (k : Int) (L' : List Kt) : Prop :=
  (k = 2 ∧ L' = L ∧ (100000 < tx.size ∨ (tx.size ≤ 100000 ∧ kat L (smB tx) = none ∧ rm < kus true L + tx.size))) ∨
  (k = 0 ∧ tx.size ≤ 100000 ∧ ((∃ i, ∃ hi : i < L.length, kat L (smB tx) = some i ∧ L' = kcut L i ++ [L[i]]) ∨ (kat L (smB tx) = none ∧ kus true L + tx.size ≤ rm ∧ L' = kgon rm tx.size L.length L ++ [(tx, 0)])))

theorem prs_get (E : List Ent) (i : Nat) (hi : i < E.length) : (prs E)[i]'(by rw [prs_len]; exact hi) = ((E[i]).tx, (E[i]).pins) := by simp [prs]
/-- The first place of a digest, told by the store's list. -/
theorem kat_mid {E1 E2 : List Ent} {e : Ent} (hdg : ∀ y ∈ E1 ++ e :: E2, y.dg = smB y.tx) (hd : (E1 ++ e :: E2).Pairwise fun a b => a.dg ≠ b.dg) : kat (prs (E1 ++ e :: E2)) e.dg = some E1.length := by
  have hl : (prs (E1 ++ e :: E2)).length = (E1 ++ e :: E2).length := prs_len _
  have hg : ∀ (j : Nat) (hj : j < (prs (E1 ++ e :: E2)).length), smB ((prs (E1 ++ e :: E2))[j]).1 = ((E1 ++ e :: E2)[j]'(by omega)).dg := fun j hj => by
    rw [hdg _ (List.getElem_mem _), prs_get _ j (by omega)]
  refine kat_hit (by rw [hl]; simp) ?_ fun j hj hji => ?_
  · rw [hg]
    simp
  · rw [hg]
    have hm : (E1 ++ e :: E2)[j]'(by omega) ∈ E1 := by
      rw [List.getElem_append_left hji]
      exact List.getElem_mem _
    exact mid_dg hd _ (List.mem_append_left _ hm)
theorem gon_mem (rm n : Nat) : ∀ (f : Nat) (E : List Ent) (y : Ent), y ∈ gonF rm n f E → y ∈ E
  | 0, _, _, h => h
  | f + 1, E, y, h => by
    unfold gonF at h
    split at h
    · exact h
    · have h2 := gon_mem rm n f _ y h
      have hdel : ∀ (E : List Ent) (y : Ent), y ∈ delF E → y ∈ E := by
        intro E
        induction E with
        | nil => intro y h; exact h
        | cons e r ih =>
          intro y h
          unfold delF at h
          split at h
          · exact List.mem_cons_of_mem _ h
          · rcases List.mem_cons.1 h with rfl | h
            · exact List.mem_cons_self
            · exact List.mem_cons_of_mem _ (ih y h)
      exact hdel E y h2
/-- A text is put into the store. -/
theorem PutA (h : KB B P M R rm n E (prs E) w) (hR : Roots w) (hn : n ≤ 800) (tx : ByteArray) (hs : tx.size ≤ 1048576) :
    Calls Tryd.prog 14 #[kp P, .string tx] w fun r w' => ∃ k E', r = .returned (.tuple #[.string (putS tx k), .int .i64 k]) ∧ KB B P M R rm (n + 1) E' (prs E) w' ∧ Below B w w' ∧ PutK rm tx (prs E) k (prs E') := by
  obtain ⟨tn, I, tv, pv, h1, h2, h3, h4, h5, h6, h7⟩ := h
  have hdn : E.Pairwise fun a b => a.dg ≠ b.dg := by
    obtain ⟨v, l, q, _⟩ := h1
    exact q.pl.dn
  refine (Put_any h1 h7 hR tx (by omega) (by omega)).mono fun r w' ⟨k, tn', E', I', q1, q2, q3, q4⟩ => ?_
  have hall : (tn' ≤ n + 1) ∧ (∀ e ∈ E', e.dg = smB e.tx) ∧ (∀ e ∈ E', e.pins ≤ n + 1) ∧ PutK rm tx (prs E) k (prs E') := by
    rcases q4 with ⟨rfl, rfl, rfl, q⟩ | ⟨rfl, rfl, hsz, q⟩
    · refine ⟨by omega, h5, fun e he => Nat.le_trans (h6 e he) (by omega), .inl ⟨rfl, rfl, ?_⟩⟩
      by_cases hl : 100000 < tx.size
      · exact .inl hl
      · rcases q with q | ⟨q, q'⟩
        · exact .inl q
        · exact .inr ⟨by omega, kat_neg h5 _ q, by rw [kus_prsT]; exact q'⟩
    · rcases q with ⟨E1, e, E2, rfl, hd, rfl⟩ | ⟨q, q', b, rfl⟩
      · refine ⟨by omega, fun y hy => ?_, fun y hy => ?_, .inr ⟨rfl, hsz, .inl ⟨E1.length, by rw [prs_len]; simp, ?_, ?_⟩⟩⟩
        · rcases List.mem_append.1 hy with hy | hy
          · exact h5 y (mid_sub.subset hy)
          · rw [List.mem_singleton] at hy
            subst hy
            exact h5 e (by simp)
        · rcases List.mem_append.1 hy with hy | hy
          · exact Nat.le_trans (h6 y (mid_sub.subset hy)) (by omega)
          · rw [List.mem_singleton] at hy
            subst hy
            exact Nat.le_trans (h6 e (by simp)) (by omega)
        · rw [← hd]
          exact kat_mid h5 hdn
        · rw [prs_use]
          congr 2
          simp [prs]
      · refine ⟨by omega, fun y hy => ?_, fun y hy => ?_, .inr ⟨rfl, hsz, .inr ⟨kat_neg h5 _ q, by rw [kus_prsT]; exact q', ?_⟩⟩⟩
        · rcases List.mem_append.1 hy with hy | hy
          · exact h5 y (gon_mem _ _ _ _ _ hy)
          · rw [List.mem_singleton] at hy
            subst hy
            rfl
        · rcases List.mem_append.1 hy with hy | hy
          · exact Nat.le_trans (h6 y (gon_mem _ _ _ _ _ hy)) (by omega)
          · rw [List.mem_singleton] at hy
            subst hy
            exact Nat.zero_le _
        · rw [prs_app, prs_gon, prs_len]
          rfl
  obtain ⟨a1, a2, a3, a4⟩ := hall
  obtain ⟨b1, b2⟩ := KB.store h2 h3 h7 h1 q2 q3 a1 a2 a3
  exact ⟨k, E', q1, b1, b2, a4⟩
/-- A text is put into the document's. -/
theorem PutB (h : KB B P M R rm n E' L w) (hl : L.length ≤ 800) (hz : ∀ x ∈ L, x.1.size ≤ 100000) (tx : ByteArray) (hs : tx.size ≤ 1048576) (k : Int) (hk : PutK rm tx L k (prs E')) :
    Calls Tryd.prog 15 #[.pointer (some ⟨R, 0, none⟩), .string tx] w fun r w' => r = .returned (.int .i64 k) ∧ KB B P M R rm n E' (prs E') w' ∧ Below B w w' := by
  obtain ⟨tn, I, tv, pv, h1, h2, h3, h4, h5, h6, h7⟩ := h
  have hfin : ∀ r w' (r0 : Ending), (r = r0 ∧ KFin B R (rm : Int) (rid R (krs tv pv L)) w (prs E') w') → r = r0 ∧ KB B P M R rm n E' (prs E') w' ∧ Below B w w' := fun r w' r0 ⟨q1, tv', pv', q2, q3⟩ => ⟨q1, KB.docu h1 h2 h3 h4 h5 h6 h7 q2 q3⟩
  rcases hk with ⟨rfl, hL, hk | ⟨hsz, hk1, hk2⟩⟩ | ⟨rfl, hsz, ⟨i, hi, hk1, hL⟩ | ⟨hk1, hk2, hL⟩⟩
  · refine (KPut_long (R := R) (w := w) tx hk (by omega)).mono fun r w' ⟨q1, q2⟩ => ⟨q1, ?_⟩
    subst q2
    rw [hL]
    exact ⟨⟨tn, I, tv, pv, h1, h2, h3, h4, h5, h6, h7⟩, Below.refl _ _⟩
  · refine (KPut_no h2 (by omega) hz tx hsz hk1 hk2).mono fun r w' ⟨q1, q2⟩ => ⟨q1, ?_⟩
    rw [hL]
    exact ⟨KB.up ⟨tn, I, tv, pv, h1, h2, h3, h4, h5, h6, h7⟩ q2, q2.mono h7⟩
  · rw [hL] at hfin
    rw [hL]
    exact (KPut_there h2 (by omega) hz tx hsz i hi hk1).mono fun r w' q => hfin r w' _ q
  · rw [hL] at hfin
    rw [hL]
    exact (KPut_new h2 (by omega) hz tx hsz hk1 hk2).mono fun r w' q => hfin r w' _ q
/-- A text that is there is got. -/
theorem GetA (h : KB B P M R rm n E (prs E) w) (hn : n ≤ 800) (d : ByteArray) (i : Nat) (hi : i < E.length) (hd : (E[i]).dg = d) :
    Calls Tryd.prog 17 #[kp P, .string d] w fun r w' => r = .returned (.tuple #[.string (E[i]).tx, .int .i64 0]) ∧ ∃ E', KB B P M R rm (n + 1) E' (prs E) w' ∧ Below B w w' ∧ prs E' = kcut (prs E) i ++ [(prs E)[i]'(by rw [prs_len]; exact hi)] := by
  have hdo := h.dok
  obtain ⟨tn, I, tv, pv, h1, h2, h3, h4, h5, h6, h7⟩ := h
  obtain ⟨e, he⟩ : ∃ e, e = E[i] := ⟨_, rfl⟩
  have hsp : E = E.take i ++ e :: E.drop (i + 1) := by
    rw [he]
    simp
  have hlen : (E.take i).length = i := by rw [List.length_take]; omega
  have heq : (prs E)[i]'(by rw [prs_len]; exact hi) = (e.tx, e.pins) := by rw [he]; simp [prs]
  have hkc := prs_use (E.take i) (E.drop (i + 1)) e tn
  rw [← hsp, hlen] at hkc
  rw [heq, ← he, ← hd, ← he]
  generalize E.take i = E1 at *
  generalize E.drop (i + 1) = E2 at *
  clear heq he
  subst hsp
  refine (Get_yes h1 (hdo e (by simp)) (by omega)).mono fun r w' ⟨q1, I', q2, q3⟩ => ⟨q1, usE E1 E2 e tn, ?_⟩
  obtain ⟨b1, b2⟩ := KB.store (m := n + 1) h2 h3 h7 h1 q2 q3 (by omega) (fun y hy => by
    rcases List.mem_append.1 hy with hy | hy
    · exact h5 y (mid_sub.subset hy)
    · rw [List.mem_singleton] at hy
      subst hy
      exact h5 e (by simp)) (fun y hy => by
    rcases List.mem_append.1 hy with hy | hy
    · exact Nat.le_trans (h6 y (mid_sub.subset hy)) (by omega)
    · rw [List.mem_singleton] at hy
      subst hy
      exact Nat.le_trans (h6 e (by simp)) (by omega))
  exact ⟨b1, b2, hkc⟩
/-- It is used. -/
theorem UseB (h : KB B P M R rm n E' L w) (hl : L.length ≤ 800) (i : Nat) (hi : i < L.length) (hL : prs E' = kcut L i ++ [L[i]]) :
    Calls Tryd.prog 18 #[.pointer (some ⟨R, 0, none⟩), .int .i64 (i : Int)] w fun r w' => r = .returned (.tuple #[]) ∧ KB B P M R rm n E' (prs E') w' ∧ Below B w w' := by
  obtain ⟨tn, I, tv, pv, h1, h2, h3, h4, h5, h6, h7⟩ := h
  refine (KUse_any h2 (by omega) i hi).mono fun r w' ⟨q1, tv', pv', q2, q3⟩ => ⟨q1, ?_⟩
  rw [hL]
  exact KB.docu h1 h2 h3 h4 h5 h6 h7 q2 q3
/-- The pins of one are others. -/
theorem prs_pin (E1 E2 : List Ent) (e : Ent) (q : Nat) : prs (piN E1 E2 e q) = (prs (E1 ++ e :: E2)).set E1.length (e.tx, q) := by
  unfold piN
  rw [prs_app, prs_app, List.set_append_right _ _ (by rw [prs_len]; exact Nat.le_refl _), prs_len, Nat.sub_self]
  rfl
theorem pin_store {tn m q : Nat} {I I' : List Nat} {tv pv : Value} {E1 E2 : List Ent} {e : Ent} (h2 : KD B R (rm : Int) tv pv L w) (h3 : ∀ g ∈ rid R (krs tv pv L), g ∉ I) (hB : B ≤ w.heap.size) (h1 : CS B P M rm tn (E1 ++ e :: E2) I w) (k1 : CS B P M rm tn (piN E1 E2 e q) I' w') (hu : Upd I I' w w') (ht : tn ≤ m) (hd : ∀ y ∈ E1 ++ e :: E2, y.dg = smB y.tx) (hp : ∀ y ∈ E1 ++ e :: E2, y.pins ≤ m) (hq : q ≤ m) :
    KB B P M R rm m (piN E1 E2 e q) L w' ∧ Below B w w' := by
  refine KB.store h2 h3 hB h1 k1 hu ht (fun y hy => ?_) (fun y hy => ?_)
  · rcases pin_mem.1 hy with rfl | hy
    · exact hd e (by simp)
    · exact hd y (mid_sub.subset hy)
  · rcases pin_mem.1 hy with rfl | hy
    · exact hq
    · exact hp y (mid_sub.subset hy)
/-- One that is there is pinned. -/
theorem PinA (h : KB B P M R rm n E (prs E) w) (hn : n ≤ 800) (d : ByteArray) (i : Nat) (hi : i < E.length) (hd : (E[i]).dg = d) :
    Calls Tryd.prog 19 #[kp P, .string d] w fun r w' => r = .returned (.int .i64 0) ∧ ∃ E', KB B P M R rm (n + 1) E' (prs E) w' ∧ Below B w w' ∧ prs E' = (prs E).set i ((E[i]).tx, (E[i]).pins + 1) := by
  have hdo := h.dok
  obtain ⟨tn, I, tv, pv, h1, h2, h3, h4, h5, h6, h7⟩ := h
  obtain ⟨e, he⟩ : ∃ e, e = E[i] := ⟨_, rfl⟩
  have hsp : E = E.take i ++ e :: E.drop (i + 1) := by
    rw [he]
    simp
  have hlen : (E.take i).length = i := by rw [List.length_take]; omega
  have hkc := prs_pin (E.take i) (E.drop (i + 1)) e (e.pins + 1)
  rw [← hsp, hlen] at hkc
  rw [← he, ← hd, ← he]
  generalize E.take i = E1 at *
  generalize E.drop (i + 1) = E2 at *
  clear he
  subst hsp
  have hpe := h6 e (by simp)
  by_cases h0 : e.pins = 0
  · refine (Pin_first h1 (hdo e (by simp)) h0 (by omega)).mono fun r w' ⟨q1, I', q2, q3⟩ => ⟨q1, piN E1 E2 e (e.pins + 1), ?_⟩
    rw [h0] at hkc ⊢
    obtain ⟨b1, b2⟩ := pin_store (m := n + 1) h2 h3 h7 h1 q2 q3 (by omega) h5 (fun y hy => Nat.le_trans (h6 y hy) (by omega)) (by omega)
    exact ⟨b1, b2, hkc⟩
  · refine (Pin_more h1 (hdo e (by simp)) h0 (by omega)).mono fun r w' ⟨q1, I', q2, q3⟩ => ⟨q1, piN E1 E2 e (e.pins + 1), ?_⟩
    obtain ⟨b1, b2⟩ := pin_store (m := n + 1) h2 h3 h7 h1 q2 q3 (by omega) h5 (fun y hy => Nat.le_trans (h6 y hy) (by omega)) (by omega)
    exact ⟨b1, b2, hkc⟩
/-- One that is there is unpinned. -/
theorem UnpA (h : KB B P M R rm n E (prs E) w) (hn : n ≤ 800) (d : ByteArray) (i : Nat) (hi : i < E.length) (hd : (E[i]).dg = d) (h0 : (E[i]).pins ≠ 0) :
    Calls Tryd.prog 20 #[kp P, .string d] w fun r w' => r = .returned (.int .i64 0) ∧ ∃ E', KB B P M R rm (n + 1) E' (prs E) w' ∧ Below B w w' ∧ prs E' = (prs E).set i ((E[i]).tx, (E[i]).pins - 1) := by
  have hdo := h.dok
  obtain ⟨tn, I, tv, pv, h1, h2, h3, h4, h5, h6, h7⟩ := h
  obtain ⟨e, he⟩ : ∃ e, e = E[i] := ⟨_, rfl⟩
  have hsp : E = E.take i ++ e :: E.drop (i + 1) := by
    rw [he]
    simp
  have hlen : (E.take i).length = i := by rw [List.length_take]; omega
  have hkc := prs_pin (E.take i) (E.drop (i + 1)) e (e.pins - 1)
  rw [← hsp, hlen] at hkc
  rw [← he, ← hd, ← he]
  rw [← he] at h0
  generalize E.take i = E1 at *
  generalize E.drop (i + 1) = E2 at *
  clear he
  subst hsp
  have hpe := h6 e (by simp)
  by_cases h2' : e.pins = 1
  · refine (Unpin_last h1 h7 (hdo e (by simp)) h2' (by omega)).mono fun r w' ⟨q1, I', q2, q3⟩ => ⟨q1, piN E1 E2 e (e.pins - 1), ?_⟩
    have hz : e.pins - 1 = 0 := by omega
    rw [hz] at hkc ⊢
    obtain ⟨b1, b2⟩ := pin_store (m := n + 1) h2 h3 h7 h1 q2 q3 (by omega) h5 (fun y hy => Nat.le_trans (h6 y hy) (by omega)) (by omega)
    exact ⟨b1, b2, hkc⟩
  · refine (Unpin_more h1 (hdo e (by simp)) (by omega)).mono fun r w' ⟨q1, I', q2, q3⟩ => ⟨q1, piN E1 E2 e (e.pins - 1), ?_⟩
    obtain ⟨b1, b2⟩ := pin_store (m := n + 1) h2 h3 h7 h1 q2 q3 (by omega) h5 (fun y hy => Nat.le_trans (h6 y hy) (by omega)) (by omega)
    exact ⟨b1, b2, hkc⟩
theorem UnpZ (h : KB B P M R rm n E L w) (d : ByteArray) (i : Nat) (hi : i < E.length) (hd : (E[i]).dg = d) (h0 : (E[i]).pins = 0) :
    Calls Tryd.prog 20 #[kp P, .string d] w fun r w' => r = .returned (.int .i64 4) ∧ w' = w := by
  have hdo := h.dok
  obtain ⟨tn, I, tv, pv, h1, h2, h3, h4, h5, h6, h7⟩ := h
  obtain ⟨e, he⟩ : ∃ e, e = E[i] := ⟨_, rfl⟩
  have hsp : E = E.take i ++ e :: E.drop (i + 1) := by
    rw [he]
    simp
  rw [← hd, ← he]
  rw [← he] at h0
  generalize E.take i = E1 at *
  generalize E.drop (i + 1) = E2 at *
  clear he
  subst hsp
  exact Unpin_none h1 (hdo e (by simp)) h0
/-- A cell of the document's pins is turned. -/
theorem KB.setP (h : KB B P M R rm n E' L w) (i q : Nat) (hi : i < L.length) : ∃ g cap, w.cell? ⟨R, 2, none⟩ = some (.slice (some ⟨g, 0, none⟩) L.length cap) ∧ w.cell? ⟨g, i, none⟩ = some (.int .i64 ((L[i]).2 : Int)) ∧ w.frozen? ⟨g, i, none⟩ = false ∧ KB B P M R rm n E' (L.set i ((L[i]).1, q)) (w.setCell ⟨g, i, none⟩ (.int .i64 (q : Int))) ∧ Below B w (w.setCell ⟨g, i, none⟩ (.int .i64 (q : Int))) := by
  obtain ⟨tn, I, tv, pv, h1, h2, h3, h4, h5, h6, h7⟩ := h
  obtain ⟨g, cap, hv, hc⟩ := h2.p i hi
  have c2 := h2.c2
  subst hv
  have hset := DS.setIn (l1 := [⟨tv, 9, 1, L.length, ktx L⟩]) (l2 := []) (r := ⟨.slice (some ⟨g, 0, none⟩) L.length cap, 3, 1, L.length, kpn L⟩) h2 (g := g) (cap := cap) rfl (by show 0 < L.length; omega) i (.int .i64 (q : Int))
  obtain ⟨f1, f2, f3⟩ := hset
  have hx : (kpn L).set i (.int .i64 (q : Int)) = kpn (L.set i ((L[i]).1, q)) := by
    unfold kpn
    rw [List.map_set]
  have ht : ktx (L.set i ((L[i]).1, q)) = ktx L := by
    unfold ktx
    rw [List.map_set]
    refine List.ext_getElem (by simp) fun j h1 h2 => ?_
    by_cases e : i = j
    · subst e
      simp
    · rw [List.getElem_set_ne e]
  have hk : KD B R (rm : Int) tv (.slice (some ⟨g, 0, none⟩) L.length cap) (L.set i ((L[i]).1, q)) (w.setCell ⟨g, i, none⟩ (.int .i64 (q : Int))) := by
    unfold KD krs
    rw [ht, ← hx, List.length_set]
    exact f2
  refine ⟨g, cap, c2, hc, f1, KB.docu h1 h2 h3 h4 h5 h6 h7 hk ?_⟩
  exact f3
end
end Go.Proofs.YtoceglbdnbnjpaaDoor
