/- A queue and the document's ring, side by side in memory. -/
import Derived.Test.YtfddhdpnoliamaaQuPd
import Derived.Test.YtfddhdpnoliamaaQuRz
import Derived.Test.YtfddhdpnoliamaaQuRx
namespace Go.Proofs.Ytfddhdpnoliamaa
open Go.RowKit Go.Shelf

structure St (B P R : Nat) (F : List (Nat × Obj)) (W : World) (q : Qu) (r : Rg) : Prop where
  ex : ∃ rv cs tv cv jv, QS B P rv cs W q ∧ RS B R tv cv jv W r ∧ (∀ g ∈ ids P rv cs, g ∉ rids R tv cv jv) ∧ ∀ x ∈ F, W.heap[x.1]? = some x.2 ∧ x.1 ∉ ids P rv cs ∧ x.1 ∉ rids R tv cv jv

section
variable {B P R : Nat} {W W' : World} {q q' : Qu} {r r' : Rg} {rv rv' tv tv' cv cv' jv jv' : Value} {cs cs' : List Ce}
theorem St.ofQ {F : List (Nat × Obj)} (h1 : QS B P rv cs W q) (h2 : RS B R tv cv jv W r) (h3 : ∀ g ∈ ids P rv cs, g ∉ rids R tv cv jv) (h4 : ∀ x ∈ F, W.heap[x.1]? = some x.2 ∧ x.1 ∉ ids P rv cs ∧ x.1 ∉ rids R tv cv jv) (hq : QS B P rv' cs' W' q') (hu : Upd (ids P rv cs) (ids P rv' cs') W W') : St B P R F W' q' r ∧ Below B W W' :=
  ⟨⟨rv', cs', tv, cv, jv, hq, h2.keep (fun g hg => hu.block g (h2.lt g hg).2 fun e => h3 g e hg), fun g hg hg2 => by
    rcases hu.new g hg with e | e
    · exact h3 g e hg2
    · have := (h2.lt g hg2).2
      omega, fun x hx => by
    obtain ⟨a1, a2, a3⟩ := h4 x hx
    have hl : x.1 < W.heap.size := (Array.getElem?_eq_some_iff.1 a1).1
    exact ⟨(hu.block x.1 hl a2).trans a1, fun e => by
      rcases hu.new x.1 e with e | e
      · exact a2 e
      · omega, a3⟩⟩, hu.below (fun g hg => (h1.lt g hg).1) (by have := h1.lt P List.mem_cons_self; omega)⟩
theorem St.ofR {F : List (Nat × Obj)} (h1 : QS B P rv cs W q) (h2 : RS B R tv cv jv W r) (h3 : ∀ g ∈ ids P rv cs, g ∉ rids R tv cv jv) (h4 : ∀ x ∈ F, W.heap[x.1]? = some x.2 ∧ x.1 ∉ ids P rv cs ∧ x.1 ∉ rids R tv cv jv) (hr : RS B R tv' cv' jv' W' r') (hu : Upd (rids R tv cv jv) (rids R tv' cv' jv') W W') : St B P R F W' q r' ∧ Below B W W' :=
  ⟨⟨rv, cs, tv', cv', jv', h1.keep (fun g hg => hu.block g (h1.lt g hg).2 (h3 g hg)), hr, fun g hg hg2 => by
    rcases hu.new g hg2 with e | e
    · exact h3 g hg e
    · have := (h1.lt g hg).2
      omega, fun x hx => by
    obtain ⟨a1, a2, a3⟩ := h4 x hx
    have hl : x.1 < W.heap.size := (Array.getElem?_eq_some_iff.1 a1).1
    exact ⟨(hu.block x.1 hl a3).trans a1, a2, fun e => by
      rcases hu.new x.1 e with e | e
      · exact a3 e
      · omega⟩⟩, hu.below (fun g hg => (h2.lt g hg).1) (by have := h2.lt R List.mem_cons_self; omega)⟩
theorem St.up {F : List (Nat × Obj)} (h : St B P R F W q r) (hb : Below W.heap.size W W') : St B P R F W' q r := by
  obtain ⟨rv, cs, tv, cv, jv, h1, h2, h3, h4⟩ := h.ex
  exact ⟨rv, cs, tv, cv, jv, h1.up hb, h2.up hb, h3, fun x hx => ⟨(hb.block x.1 (Array.getElem?_eq_some_iff.1 (h4 x hx).1).1).trans (h4 x hx).1, (h4 x hx).2⟩⟩
theorem St.lo {F : List (Nat × Obj)} (h : St B P R F W q r) : B ≤ W.heap.size := by
  obtain ⟨rv, cs, tv, cv, jv, h1, h2, h3⟩ := h.ex
  have := h1.lt P List.mem_cons_self
  omega
/-- A block that is told besides. -/
theorem St.add {F : List (Nat × Obj)} (h : St B P R F W q r) (hb : Below W.heap.size W W') {J : Nat} {o : Obj} (hJ : W'.heap[J]? = some o) (hl : W.heap.size ≤ J) : St B P R ((J, o) :: F) W' q r := by
  obtain ⟨rv, cs, tv, cv, jv, h1, h2, h3, h4⟩ := h.ex
  refine ⟨rv, cs, tv, cv, jv, h1.up hb, h2.up hb, h3, fun x hx => ?_⟩
  rcases List.mem_cons.1 hx with rfl | hx
  · exact ⟨hJ, fun e => by have := (h1.lt _ e).2; omega, fun e => by have := (h2.lt _ e).2; omega⟩
  · exact ⟨(hb.block x.1 (Array.getElem?_eq_some_iff.1 (h4 x hx).1).1).trans (h4 x hx).1, (h4 x hx).2⟩
theorem St.no {F : List (Nat × Obj)} (h : St B P R F W q r) : St B P R [] W q r := by
  obtain ⟨rv, cs, tv, cv, jv, h1, h2, h3, h4⟩ := h.ex
  exact ⟨rv, cs, tv, cv, jv, h1, h2, h3, fun x hx => (by cases hx)⟩
theorem St.blk {F : List (Nat × Obj)} (h : St B P R F W q r) {J : Nat} {o : Obj} (hx : (J, o) ∈ F) : W.heap[J]? = some o := by
  obtain ⟨rv, cs, tv, cv, jv, h1, h2, h3, h4⟩ := h.ex
  exact (h4 _ hx).1
end

section
variable {B P R : Nat} {F : List (Nat × Obj)} {W : World} {q : Qu} {r : Rg}
theorem St.put (h : St B P R F W q r) (hi : QI q) (x : Int) (s : ByteArray) (y : Int) (hs : s.size ≤ maxLen) :
    Calls Try.prog 10 #[.pointer (some ⟨P, 0, none⟩), .agg #[.int .i64 x, .string s, .int .i64 y]] W fun e w' => e = .returned (.int .i64 (putE q x s y)) ∧ St B P R F w' (putQ q x s y) r ∧ Below B W w' := by
  obtain ⟨rv, cs, tv, cv, jv, h1, h2, h3, h4⟩ := h.ex
  refine (Put_any h1 hi.b x s y hs).mono ?_
  rintro e w' ⟨he, rv', cs', hq', hu⟩
  exact ⟨he, St.ofQ h1 h2 h3 h4 hq' hu⟩
theorem St.rput (h : St B P R F W q r) (x : Int) (s : ByteArray) (y : Int) (hs : s.size ≤ maxLen) (hn : r.jobs.length ≤ 200) (ht : r.tens.length ≤ 1000) (hc : r.creds.length = r.tens.length) :
    Calls Try.prog 11 #[.pointer (some ⟨R, 0, none⟩), .agg #[.int .i64 x, .string s, .int .i64 y]] W fun e w' => e = .returned (.int .i64 (rE r x s y)) ∧ St B P R F w' q (rputQ r x s y) ∧ Below B W w' := by
  obtain ⟨rv, cs, tv, cv, jv, h1, h2, h3, h4⟩ := h.ex
  refine (rPut_any h2 x s y hs hn ht hc).mono ?_
  rintro e w' ⟨he, tv', cv', jv', hr', hu⟩
  exact ⟨he, St.ofR h1 h2 h3 h4 hr' hu⟩
theorem St.next0 (h : St B P R F W q r) (hi : QI q) (hr : q.ring = []) :
    Calls Try.prog 12 #[.pointer (some ⟨P, 0, none⟩)] W fun e w' => e = .returned (.tuple #[.agg #[.int .i64 0, .string ⟨#[]⟩, .int .i64 0], .bool false]) ∧ St B P R F w' q r ∧ Below B W w' := by
  have hlo := h.lo
  refine (Next_none h.ex.choose_spec.choose_spec.choose_spec.choose_spec.choose_spec.1 hi hr).mono ?_
  rintro e w' ⟨he, _, hb⟩
  exact ⟨he, h.up hb, hb.mono hlo⟩
theorem St.next (h : St B P R F W q r) (hi : QI q) (hr : q.ring ≠ []) :
    Calls Try.prog 12 #[.pointer (some ⟨P, 0, none⟩)] W fun e w' => ∃ p t s j js, Spun q p ∧ QI p ∧ p.ring = t :: s ∧ t.jobs = j :: js ∧ e = .returned (.tuple #[jagg j, .bool true]) ∧ St B P R F w' p.gone r ∧ Below B W w' := by
  obtain ⟨rv, cs, tv, cv, jv, h1, h2, h3, h4⟩ := h.ex
  refine (Next_some h1 hi hr).mono ?_
  rintro e w' ⟨p, t, s, j, js, a1, a2, a3, a4, _, a6, rv', cs', hq', hu⟩
  exact ⟨p, t, s, j, js, a1, a2, a3, a4, a6, St.ofQ h1 h2 h3 h4 hq' hu⟩
theorem St.rnext0 (h : St B P R F W q r) (hr : r.tens = []) :
    Calls Try.prog 13 #[.pointer (some ⟨R, 0, none⟩)] W fun e w' => e = .returned (.tuple #[.agg #[.int .i64 0, .string ⟨#[]⟩, .int .i64 0], .bool false]) ∧ St B P R F w' q r ∧ Below B W w' := by
  obtain ⟨rv, cs, tv, cv, jv, h1, h2, h3, h4⟩ := h.ex
  refine (rNext_none h2 hr).mono ?_
  rintro e w' ⟨he, hr', hu⟩
  exact ⟨he, St.ofR h1 h2 h3 h4 hr' hu⟩
theorem St.rnext {q0 : Qu} (h : St B P R F W q r) (hs : Sim q0 r) (hi : QI q0) (hr : q0.ring ≠ []) :
    Calls Try.prog 13 #[.pointer (some ⟨R, 0, none⟩)] W fun e w' => ∃ p t s j js r', Spun q0 p ∧ QI p ∧ p.ring = t :: s ∧ t.jobs = j :: js ∧ e = .returned (.tuple #[jagg j, .bool true]) ∧ Sim p.gone r' ∧ St B P R F w' q r' ∧ Below B W w' := by
  obtain ⟨rv, cs, tv, cv, jv, h1, h2, h3, h4⟩ := h.ex
  refine (rNext_some h2 hs hi hr).mono ?_
  rintro e w' ⟨p, t, s, j, js, a1, a2, a3, a4, _, a6, tv', cv', jv', r', hr', hsm, hu⟩
  exact ⟨p, t, s, j, js, r', a1, a2, a3, a4, a6, hsm, St.ofR h1 h2 h3 h4 hr' hu⟩
theorem St.drop0 (h : St B P R F W q r) (hi : QI q) (s : ByteArray) (hs : hasN q.ring s = false) :
    Calls Try.prog 14 #[.pointer (some ⟨P, 0, none⟩), .string s] W fun e w' => e = .returned (.bool false) ∧ St B P R F w' q r ∧ Below B W w' := by
  have hlo := h.lo
  refine (Drop_no h.ex.choose_spec.choose_spec.choose_spec.choose_spec.choose_spec.1 hi s hs).mono ?_
  rintro e w' ⟨he, _, hb⟩
  exact ⟨he, h.up hb, hb.mono hlo⟩
theorem St.drop (h : St B P R F W q r) (hi : QI q) (s : ByteArray) (hs : hasN q.ring s = true) :
    Calls Try.prog 14 #[.pointer (some ⟨P, 0, none⟩), .string s] W fun e w' => e = .returned (.bool true) ∧ ∃ q', Left q s q' ∧ St B P R F w' q' r ∧ Below B W w' := by
  obtain ⟨rv, cs, tv, cv, jv, h1, h2, h3, h4⟩ := h.ex
  refine (Drop_ex h1 hi s hs).mono ?_
  rintro e w' ⟨he, rv', cs', q', hq', hl, hu⟩
  exact ⟨he, q', hl, St.ofQ h1 h2 h3 h4 hq' hu⟩
theorem St.rdrop0 {q0 : Qu} (h : St B P R F W q r) (hsm : Sim q0 r) (s : ByteArray) (hs : hasN q0.ring s = false) :
    Calls Try.prog 15 #[.pointer (some ⟨R, 0, none⟩), .string s] W fun e w' => e = .returned (.bool false) ∧ St B P R F w' q r ∧ Below B W w' := by
  obtain ⟨rv, cs, tv, cv, jv, h1, h2, h3, h4⟩ := h.ex
  refine (rDrop_no h2 (by rw [hsm.len]; exact hsm.le) s (by
    by_cases e : 0 ≤ jat r.jobs (fun j => eqN j.name s)
    · have := (hsm.has s).2 e
      rw [hs] at this
      cases this
    · omega)).mono ?_
  rintro e w' ⟨he, hr', hu⟩
  exact ⟨he, St.ofR h1 h2 h3 h4 hr' hu⟩
theorem St.rdrop {q0 q1 : Qu} (h : St B P R F W q r) (hsm : Sim q0 r) (hi : QI q0) (s : ByteArray) (hl : Left q0 s q1) :
    Calls Try.prog 15 #[.pointer (some ⟨R, 0, none⟩), .string s] W fun e w' => e = .returned (.bool true) ∧ ∃ r', Sim q1 r' ∧ St B P R F w' q r' ∧ Below B W w' := by
  obtain ⟨rv, cs, tv, cv, jv, h1, h2, h3, h4⟩ := h.ex
  obtain ⟨a, t, b, k, hk, hr, hn, _, rfl⟩ := hl
  refine (rDrop_yes h2 hsm hr hi.b.len k hk s hn).mono ?_
  rintro e w' ⟨he, tv', cv', jv', r', hr', hsm', hu⟩
  exact ⟨he, r', hsm', St.ofR h1 h2 h3 h4 hr' hu⟩

/-- The names of a tenant's jobs, by the queue. -/
def wnms (q : Qu) (x : Int) : List ByteArray := match q.ring.find? (fun t => decide ((t.num : Int) = x)) with | none => [] | some t => t.jobs.map Jb.name
theorem Sim.wnms (hs : Sim q r) (x : Int) : nmsOf r.jobs x = Go.Proofs.Ytfddhdpnoliamaa.wnms q x := by
  unfold nmsOf Go.Proofs.Ytfddhdpnoliamaa.wnms
  cases e : q.ring.find? (fun t => decide ((t.num : Int) = x)) with
  | none =>
    have h0 : r.jobs.filter (fun j => decide ((j.ten : Int) = x)) = [] := by
      rw [List.filter_eq_nil_iff]
      intro j hj hx
      obtain ⟨t, ht, e2⟩ := hs.own j hj
      have := List.find?_eq_none.1 e t ht
      have hx2 : (j.ten : Int) = x := of_decide_eq_true hx
      rw [← e2] at hx2
      simp [hx2] at this
    rw [h0]
    rfl
  | some t =>
    have ht := List.mem_of_find?_eq_some e
    have hx : (t.num : Int) = x := by have := List.find?_some e; exact of_decide_eq_true this
    show (r.jobs.filter (fun j => decide ((j.ten : Int) = x))).map Jb.name = t.jobs.map Jb.name
    rw [← hs.jobs t ht]
    congr 1
    congr 1
    funext j
    unfold ofT
    by_cases h9 : j.ten = t.num
    · rw [h9]; simp [hx]
    · have : ¬ (j.ten : Int) = x := by omega
      simp [h9, this]
theorem St.rwait (h : St B P R F W q r) (hs : Sim q r) (x : Int) :
    Calls Try.prog 18 #[.pointer (some ⟨R, 0, none⟩), .int .i64 x] W fun e w' => ∃ v', e = .returned v' ∧ IsTexts w' v' (wnms q x) ∧ Below W.heap.size W w' := by
  obtain ⟨rv, cs, tv, cv, jv, h1, h2, h3, h4⟩ := h.ex
  have hle : r.jobs.length ≤ 200 := by rw [hs.len]; exact hs.le
  refine (rWaiting_any R x jv r.jobs W (h2.c 4 _ rfl) h2.jobs.readJ (by omega)).mono ?_
  rintro e w' ⟨v', he, ho, hb⟩
  refine ⟨v', he, ?_, hb⟩
  rw [hs.wnms] at ho
  refine own_texts ho ?_
  rw [← hs.wnms]
  unfold nmsOf
  rw [List.length_map]
  exact Nat.le_trans (List.length_filter_le _ _) (by omega)
theorem St.wait (h : St B P R F W q r) (hi : QI q) (x : Int) :
    Calls Try.prog 17 #[.pointer (some ⟨P, 0, none⟩), .int .i64 x] W fun e w' => ∃ v', e = .returned v' ∧ IsTexts w' v' (wnms q x) ∧ Below W.heap.size W w' := by
  obtain ⟨rv, cs, tv, cv, jv, h1, h2, h3, h4⟩ := h.ex
  have hln := ring_len h1
  have hlr := hi.b.len
  cases hp : q.ring.findIdx? (fun t => decide ((t.num : Int) = x)) with
  | none =>
    have hpl : plc x q.ring = -1 := by unfold plc; rw [hp]
    have hw : Go.Proofs.Ytfddhdpnoliamaa.wnms q x = [] := by
      unfold Go.Proofs.Ytfddhdpnoliamaa.wnms
      have : q.ring.find? (fun t => decide ((t.num : Int) = x)) = none := by
        rw [List.find?_eq_none]
        intro t ht
        have := List.findIdx?_eq_none_iff.1 hp t ht
        simpa using this
      rw [this]
    refine (Waiting_none h1 hi.b.q1 (by omega) x hpl).mono ?_
    rintro e w' ⟨rfl, hb⟩
    refine ⟨_, rfl, ?_, hb⟩
    rw [hw]
    exact ⟨by simp, none, 0, rfl, .inl rfl⟩
  | some k =>
    obtain ⟨hk, hk1, hk2⟩ := List.findIdx?_eq_some_iff_getElem.1 hp
    have hkc : k < cs.length := by omega
    have hra := ring_at h1 k hkc
    rw [List.getElem?_eq_getElem hk] at hra
    have ht : q.ring[k] = (cs[k]).t := Option.some.inj hra
    have hsp : cs = cs.take k ++ cs[k] :: cs.drop (k + 1) := by
      conv => lhs; rw [← List.take_append_drop k cs, List.drop_eq_getElem_cons hkc]
    have h1' : QS B P rv (cs.take k ++ cs[k] :: cs.drop (k + 1)) W q := by rw [← hsp]; exact h1
    have hkl : (cs.take k).length = k := by rw [List.length_take]; omega
    have hpl : plc x q.ring = ((cs.take k).length : Nat) := by unfold plc; rw [hp, hkl]
    have htm : (cs[k]).t ∈ q.ring := by rw [← ht]; exact List.getElem_mem hk
    have hjl : (cs[k]).t.jobs.length ≤ 1000 := by have := size_mem htm; have := hi.b.jobs; omega
    have hw : Go.Proofs.Ytfddhdpnoliamaa.wnms q x = (cs[k]).t.jobs.map Jb.name := by
      unfold Go.Proofs.Ytfddhdpnoliamaa.wnms
      have : q.ring.find? (fun t => decide ((t.num : Int) = x)) = some (cs[k]).t := by
        rw [List.find?_eq_some_iff_getElem]
        exact ⟨by rw [← ht]; exact hk1, k, hk, ht, fun j hj => by simpa using hk2 j hj⟩
      rw [this]
    refine (Waiting_some h1' hi.b.q1 (by rw [hkl, List.length_drop]; omega) (by omega) x hpl).mono ?_
    rintro e w' ⟨v', he, ho, hb⟩
    refine ⟨v', he, ?_, hb⟩
    rw [hw]
    exact own_texts ho (by rw [List.length_map]; omega)
end
end Go.Proofs.Ytfddhdpnoliamaa
