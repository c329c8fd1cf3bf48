/- What wire's nodesError answers, and what it asks of each node. -/
import Derived.Test.YtbddppbgkhcafaaPackR
import Derived.Test.YtbddppbgkhcafaaNames
import Derived.Deep.RegionHeld3
namespace Go.Proofs.Ytbddppbgkhcafaa
open Go.RowKit Go.Shelf

/-- A node: its name, its kind, its digest. -/
abbrev Nd : Type := ByteArray × Int × ByteArray
abbrev Nv (n : Nd) : Value := .agg #[.string n.1, .int .i64 n.2.1, .string n.2.2]
def kindNo (k : Int) : Bool := (k != 1) && (k != 2) && (k != 3)

set_option maxHeartbeats 1000000 in
theorem isNoKind_any (k : Int) (w : World) : Calls Try.prog 45 #[.int .i64 k] w fun e w' => e = .returned (.bool (kindNo k)) ∧ w' = w := by
  by_cases h1 : k = 1
  · subst h1
    go_enter Try.func45, Try.ntmps45
    go_wp2
    go_ret
    exact ⟨rfl, rfl⟩
  by_cases h2 : k = 2
  · subst h2
    go_enter Try.func45, Try.ntmps45
    go_wp2
    go_ret
    exact ⟨rfl, rfl⟩
  by_cases h3 : k = 3
  · subst h3
    go_enter Try.func45, Try.ntmps45
    go_wp2
    go_ret
    exact ⟨rfl, rfl⟩
  have e1 : (k != 1) = true := by rw [bne_iff_ne]; exact h1
  have e2 : (k != 2) = true := by rw [bne_iff_ne]; exact h2
  have e3 : (k != 3) = true := by rw [bne_iff_ne]; exact h3
  have HK : Hid (kindNo k = true) := by show _ = _; simp [kindNo, e1, e2, e3]
  clear h1 h2 h3
  go_enter Try.func45, Try.ntmps45
  go_wp2
  go_ret
  exact ⟨by rw [HK.out]; rfl, rfl⟩

def ndE (n : Nd) : Int := if nameOk n.1 = false then 1 else if digOk n.2.2 = false then 1 else if kindNo n.2.1 = true then 7 else 0

set_option maxHeartbeats 1000000 in
theorem nodeError_any (a d : ByteArray) (k : Int) (w : World) (ha : a.size ≤ maxLen) :
    Calls Try.prog 25 #[.agg #[.string a, .int .i64 k, .string d]] w fun e w' => e = .returned (.int .i64 (ndE (a, k, d))) ∧ Below w.heap.size w w' := by
  have HB : Hid (Below w.heap.size w (w.alloc (.cells #[.string a, .int .i64 k, .string d] 41))) := (Below.refl _ _).alloc (Nat.le_refl _) _
  by_cases h1 : nameOk a = true
  · by_cases h2 : digOk d = true
    · by_cases h3 : kindNo k = true
      · have HR : Hid (ndE (a, k, d) = 7) := by show _ = _; simp [ndE, h1, h2, h3]
        go_enter Try.func25, Try.ntmps25
        go_wp2_with fail
        refine (IsName_any a _ ha).mono ?_
        rintro e w1 ⟨rfl, rfl⟩
        rw [h1]
        go_wp2_with fail
        refine (Is_any d _).mono ?_
        rintro e w1 ⟨rfl, rfl⟩
        rw [h2]
        go_wp2_with fail
        refine (isNoKind_any k _).mono ?_
        rintro e w1 ⟨rfl, rfl⟩
        rw [h3]
        go_wp2
        go_ret
        exact ⟨by rw [HR.out]; rfl, HB.out⟩
      · have h3' : kindNo k = false := by simpa using h3
        have HR : Hid (ndE (a, k, d) = 0) := by show _ = _; simp [ndE, h1, h2, h3']
        clear h3
        go_enter Try.func25, Try.ntmps25
        go_wp2_with fail
        refine (IsName_any a _ ha).mono ?_
        rintro e w1 ⟨rfl, rfl⟩
        rw [h1]
        go_wp2_with fail
        refine (Is_any d _).mono ?_
        rintro e w1 ⟨rfl, rfl⟩
        rw [h2]
        go_wp2_with fail
        refine (isNoKind_any k _).mono ?_
        rintro e w1 ⟨rfl, rfl⟩
        rw [h3']
        go_wp2
        go_ret
        exact ⟨by rw [HR.out]; rfl, HB.out⟩
    · have h2' : digOk d = false := by simpa using h2
      have HR : Hid (ndE (a, k, d) = 1) := by show _ = _; simp [ndE, h2']
      clear h2
      go_enter Try.func25, Try.ntmps25
      go_wp2_with fail
      refine (IsName_any a _ ha).mono ?_
      rintro e w1 ⟨rfl, rfl⟩
      rw [h1]
      go_wp2_with fail
      refine (Is_any d _).mono ?_
      rintro e w1 ⟨rfl, rfl⟩
      rw [h2']
      go_wp2
      go_ret
      exact ⟨by rw [HR.out]; rfl, HB.out⟩
  · have h1' : nameOk a = false := by simpa using h1
    have HR : Hid (ndE (a, k, d) = 1) := by show _ = _; simp [ndE, h1']
    clear h1
    go_enter Try.func25, Try.ntmps25
    go_wp2_with fail
    refine (IsName_any a _ ha).mono ?_
    rintro e w1 ⟨rfl, rfl⟩
    rw [h1']
    go_wp2
    go_ret
    exact ⟨by rw [HR.out]; rfl, HB.out⟩

theorem nodeName_any (a d : ByteArray) (k : Int) (w : World) :
    Calls Try.prog 27 #[.agg #[.string a, .int .i64 k, .string d]] w fun e w' => e = .returned (.string a) ∧ Below w.heap.size w w' := by
  have HB : Hid (Below w.heap.size w (w.alloc (.cells #[.string a, .int .i64 k, .string d] 41))) := (Below.refl _ _).alloc (Nat.le_refl _) _
  go_enter Try.func27, Try.ntmps27
  go_wp2
  go_ret
  exact ⟨rfl, HB.out⟩

/-- The nodes ns lie in block g from offset o on. -/
def NdAt (g o : Nat) (ns : List Nd) (w : World) : Prop := ∀ j (hj : j < ns.length), w.cell? ⟨g, o + j * 3, none⟩ = some (.string ns[j].1) ∧ w.cell? ⟨g, o + j * 3 + 1, none⟩ = some (.int .i64 ns[j].2.1) ∧ w.cell? ⟨g, o + j * 3 + 2, none⟩ = some (.string ns[j].2.2)
theorem NdAt.below {B g o : Nat} {ns : List Nd} {w w' : World} (h : NdAt g o ns w) (hb : Below B w w') (hg : g < B) : NdAt g o ns w' := fun j hj =>
  ⟨(hb.cell (p := ⟨g, o + j * 3, none⟩) hg).trans (h j hj).1, (hb.cell (p := ⟨g, o + j * 3 + 1, none⟩) hg).trans (h j hj).2.1, (hb.cell (p := ⟨g, o + j * 3 + 2, none⟩) hg).trans (h j hj).2.2⟩

/-- From some place on: the first that is wrong. -/
def ndEs : List Nd → Int
  | [] => 0
  | n :: l => if ndE n = 0 then ndEs l else ndE n

theorem ndEs_yes (ns : List Nd) (h : ∀ j (hj : j < ns.length), ndE ns[j] = 0) : ndEs ns = 0 := by
  induction ns with
  | nil => rfl
  | cons n l ih =>
    have h0 : ndE n = 0 := h 0 (by simp)
    show (if ndE n = 0 then ndEs l else ndE n) = 0
    rw [if_pos h0]
    exact ih (fun j hj => h (j + 1) (by simp; omega))
theorem ndEs_no (ns : List Nd) (k : Nat) (hk : k < ns.length) (h : ∀ j (hj : j < ns.length), j < k → ndE ns[j] = 0) (hne : ndE ns[k] ≠ 0) : ndEs ns = ndE ns[k] := by
  induction ns generalizing k with
  | nil => simp at hk
  | cons n l ih =>
    show (if ndE n = 0 then ndEs l else ndE n) = _
    cases k with
    | zero => exact if_neg (show ¬ ndE n = 0 from hne)
    | succ k =>
      have h0 : ndE n = 0 := h 0 (by simp) (by omega)
      rw [if_pos h0]
      exact ih k (by simpa using hk) (fun j hj hjk => h (j + 1) (by simp; omega) (by omega)) hne

def less (a b : ByteArray) : Bool := Op.bytesLess a.toList b.toList
/-- Do names rise? -/
def riseB : List ByteArray → Bool
  | [] => true
  | [_] => true
  | a :: b :: l => less a b && riseB (b :: l)
theorem riseB_yes (l : List ByteArray) (h : ∀ j (hj : j + 1 < l.length), less l[j] l[j + 1] = true) : riseB l = true := by
  induction l with
  | nil => rfl
  | cons a l ih =>
    cases l with
    | nil => rfl
    | cons b l =>
      have h0 := h 0 (by simp)
      have h1 := ih (fun j hj => h (j + 1) (by simp at hj ⊢; omega))
      show (less a b && riseB (b :: l)) = true
      rw [h1, Bool.and_true]; exact h0
theorem riseB_no (l : List ByteArray) (j : Nat) (hj : j + 1 < l.length) (h : less l[j] l[j + 1] = false) : riseB l = false := by
  induction l generalizing j with
  | nil => simp at hj
  | cons a l ih =>
    cases l with
    | nil => simp at hj
    | cons b l =>
      show (less a b && riseB (b :: l)) = false
      cases j with
      | zero => rw [show less a b = false from h, Bool.false_and]
      | succ j => rw [ih j (by simp at hj ⊢; omega) h, Bool.and_false]

set_option maxHeartbeats 2000000 in
set_option maxRecDepth 100000 in
theorem rises_any (g o cap : Nat) (ns : List Nd) (w : World) (hn : ns.length ≤ 60) (hc : NdAt g o ns w) (hg : g < w.heap.size) :
    Calls Try.prog 26 #[.slice (some ⟨g, o, none⟩) ns.length cap, .func (.func 27) #[] #[]] w fun e w' => e = .returned (.bool (riseB (ns.map (·.1)))) ∧ Below w.heap.size w w' := by
  have HC : Hid (NdAt g o ns w) := hc
  have hn1 : (ns.length : Int) ≤ 60 := by omega
  clear hc
  go_enter Try.func26, Try.ntmps26
  go_wp2
  go_loopw [5] (fun i wr => ∃ k : Nat, 1 ≤ k ∧ k ≤ max 1 ns.length ∧ i = .int .i64 k ∧ (∀ j, (hj : j + 1 < ns.length) → j + 1 < k → less ns[j].1 ns[j + 1].1 = true) ∧ Below w.heap.size w wr) (fun i _ => ns.length - (intOf i).toNat)
  case atStart => exact ⟨1, by omega, by omega, rfl, by omega, Below.refl _ _⟩
  case round =>
    obtain ⟨k, hk1, hk, rfl, hlo, hb⟩ := hrel
    have HL : Hid _ := hlo
    have HB : Hid (Below w.heap.size w wr) := hb
    have hsz := hb.size
    clear hlo hb
    by_cases hlt : k < ns.length
    · obtain ⟨m, rfl⟩ : ∃ m, k = m + 1 := ⟨k - 1, by omega⟩
      obtain ⟨a0, a1, a2⟩ := HC.out.below HB.out hg m (by omega)
      obtain ⟨b0, b1, b2⟩ := HC.out.below HB.out hg (m + 1) hlt
      have i1 : (0 : Int) ≤ (m : Int) := by omega
      have i2 : (m : Int) < ns.length := by omega
      have i3 : (0 : Int) ≤ (m : Int) + 1 := by omega
      have i4 : (m : Int) + 1 < ns.length := by omega
      have i5 : IntKind.i64.wrap ((m : Int) + 1 - 1) = m := by rw [wraps_i64 _ (by omega) (by omega)]; omega
      have i6 : IntKind.i64.wrap (m : Int) = m := wraps_i64 _ (by omega) (by omega)
      have i7 : ((m : Int) + 1).toNat = m + 1 := by omega
      generalize hx : ns[m] = x at a0 a1 a2
      generalize hy : ns[m + 1] = y at b0 b1 b2
      obtain ⟨xa, xk, xd⟩ := x
      obtain ⟨ya, yk, yd⟩ := y
      have HX : Hid (ns[m] = (xa, xk, xd)) := hx
      have HY : Hid (ns[m + 1] = (ya, yk, yd)) := hy
      simp only at a0 a1 a2 b0 b1 b2
      have hgr : g < wr.heap.size := by omega
      clear hx hy
      by_cases hls : Op.bytesLess xa.toList ya.toList = true
      · have HLS : Hid _ := hls
        go_wp2_with fail
        go_region_held3 (fun w' => w'.cell? ⟨g, o + m * 3, none⟩ = some (.string xa) ∧ w'.cell? ⟨g, o + m * 3 + 1, none⟩ = some (.int .i64 xk) ∧ w'.cell? ⟨g, o + m * 3 + 2, none⟩ = some (.string xd) ∧ w'.cell? ⟨g, o + (m + 1) * 3, none⟩ = some (.string ya) ∧ w'.cell? ⟨g, o + (m + 1) * 3 + 1, none⟩ = some (.int .i64 yk) ∧ w'.cell? ⟨g, o + (m + 1) * 3 + 2, none⟩ = some (.string yd) ∧ g < w'.heap.size)
          (first | (simp [go_sem, *]; done) | (go_split_ands; refine ⟨?_, ?_, ?_, ?_, ?_, ?_, ?_⟩ <;> first | (exact Nat.lt_of_lt_of_le (by assumption) hb2.size) | (rw [hb2.cell (p := ⟨g, _, none⟩) (by assumption)]; assumption) | (exact Nat.lt_of_lt_of_le (by assumption) hb1.size) | (rw [hb1.cell (p := ⟨g, _, none⟩) (by assumption)]; assumption)))
          (first
            | (go_at_call_of 27 (Value.agg #[.string xa, .int .i64 xk, .string xd]); refine (nodeName_any xa xd xk _).mono ?_; rintro e w1 ⟨rfl, hb1⟩)
            | (go_at_call_of 27 (Value.agg #[.string ya, .int .i64 yk, .string yd]); refine (nodeName_any ya yd yk _).mono ?_; rintro e w2 ⟨rfl, hb2⟩))
        have hb3 : Below w.heap.size w w2 := by
          have b0 : Below w.heap.size w wr.drew := HB.out.drew
          have b1 := b0.trans (hb1.mono b0.size)
          exact b1.trans (hb2.mono b1.size)
        have HB3 : Hid _ := hb3
        clear hb1 hb2 hb3
        go_wp2
        refine ⟨⟨m + 2, by omega, by omega, by go_num, fun j hj hjk => ?_, HB3.out⟩, by simp [intOf]; omega⟩
        by_cases h : j + 1 < m + 1
        · exact HL.out j hj h
        · obtain rfl : j = m := by omega
          rw [HX.out, HY.out]
          exact HLS.out
      · have hls' : Op.bytesLess xa.toList ya.toList = false := by simpa using hls
        have HLS : Hid _ := hls'
        clear hls
        go_wp2_with fail
        go_region_held3 (fun w' => w'.cell? ⟨g, o + m * 3, none⟩ = some (.string xa) ∧ w'.cell? ⟨g, o + m * 3 + 1, none⟩ = some (.int .i64 xk) ∧ w'.cell? ⟨g, o + m * 3 + 2, none⟩ = some (.string xd) ∧ w'.cell? ⟨g, o + (m + 1) * 3, none⟩ = some (.string ya) ∧ w'.cell? ⟨g, o + (m + 1) * 3 + 1, none⟩ = some (.int .i64 yk) ∧ w'.cell? ⟨g, o + (m + 1) * 3 + 2, none⟩ = some (.string yd) ∧ g < w'.heap.size)
          (first | (simp [go_sem, *]; done) | (go_split_ands; refine ⟨?_, ?_, ?_, ?_, ?_, ?_, ?_⟩ <;> first | (exact Nat.lt_of_lt_of_le (by assumption) hb2.size) | (rw [hb2.cell (p := ⟨g, _, none⟩) (by assumption)]; assumption) | (exact Nat.lt_of_lt_of_le (by assumption) hb1.size) | (rw [hb1.cell (p := ⟨g, _, none⟩) (by assumption)]; assumption)))
          (first
            | (go_at_call_of 27 (Value.agg #[.string xa, .int .i64 xk, .string xd]); refine (nodeName_any xa xd xk _).mono ?_; rintro e w1 ⟨rfl, hb1⟩)
            | (go_at_call_of 27 (Value.agg #[.string ya, .int .i64 yk, .string yd]); refine (nodeName_any ya yd yk _).mono ?_; rintro e w2 ⟨rfl, hb2⟩))
        have hb3 : Below w.heap.size w w2 := by
          have b0 : Below w.heap.size w wr.drew := HB.out.drew
          have b1 := b0.trans (hb1.mono b0.size)
          exact b1.trans (hb2.mono b1.size)
        have HB3 : Hid _ := hb3
        clear hb1 hb2 hb3
        go_wp2
        go_ret
        refine ⟨?_, HB3.out⟩
        rw [riseB_no (ns.map (·.1)) m (by simpa using hlt) (by simp only [List.getElem_map]; rw [HX.out, HY.out]; exact HLS.out)]
        rfl
    · go_wp2
      go_ret
      refine ⟨?_, HB.out⟩
      rw [riseB_yes (ns.map (·.1)) (fun j hj => by simp only [List.getElem_map]; exact HL.out j (by simpa using hj) (by simp at hj; omega))]
      rfl

def neC (ns : List Nd) : Int := if 60 < ns.length then 2 else if ndEs ns = 0 then (if riseB (ns.map (·.1)) = true then 0 else 6) else ndEs ns

set_option maxHeartbeats 1000000 in
theorem ne_many (a : Option Addr) (n cap : Nat) (w : World) (hn : 60 < n) :
    Calls Try.prog 11 #[.slice a n cap] w fun e w' => e = .returned (.int .i64 2) ∧ w' = w := by
  have hn1 : 60 < (n : Int) := by omega
  go_enter Try.func11, Try.ntmps11
  go_wp2
  go_ret
  exact ⟨rfl, rfl⟩

set_option maxHeartbeats 2000000 in
set_option maxRecDepth 100000 in
theorem ne_some (g o cap : Nat) (ns : List Nd) (w : World) (hn : ns.length ≤ 60) (hc : NdAt g o ns w) (hg : g < w.heap.size) (hm : ∀ n ∈ ns, n.1.size ≤ maxLen) :
    Calls Try.prog 11 #[.slice (some ⟨g, o, none⟩) ns.length cap] w fun e w' => e = .returned (.int .i64 (neC ns)) ∧ Below w.heap.size w w' := by
  have HC : Hid (NdAt g o ns w) := hc
  have HM : Hid _ := hm
  have hn1 : (ns.length : Int) ≤ 60 := by omega
  clear hc hm
  go_enter Try.func11, Try.ntmps11
  go_wp2
  go_loopw [11] (fun i wr => ∃ k : Nat, k ≤ ns.length ∧ i = .int .i64 k ∧ (∀ j, (hj : j < ns.length) → j < k → ndE ns[j] = 0) ∧ Below w.heap.size w wr) (fun i _ => ns.length - (intOf i).toNat)
  case atStart => exact ⟨0, by omega, rfl, by omega, Below.refl _ _⟩
  case round =>
    obtain ⟨k, hk, rfl, hlo, hb⟩ := hrel
    have HL : Hid _ := hlo
    have HB : Hid (Below w.heap.size w wr) := hb
    have hsz := hb.size
    clear hlo hb
    by_cases hlt : k < ns.length
    · obtain ⟨a0, a1, a2⟩ := HC.out.below HB.out hg k hlt
      have hx := HM.out _ (List.getElem_mem hlt)
      generalize hx' : ns[k] = x at a0 a1 a2 hx
      obtain ⟨xa, xk, xd⟩ := x
      have HX : Hid (ns[k] = (xa, xk, xd)) := hx'
      simp only at a0 a1 a2 hx
      have i2 : (k : Int) < ns.length := by omega
      have hb1 : Below w.heap.size w (wr.alloc (.cells #[.string xa, .int .i64 xk, .string xd] 41)) := HB.out.alloc hsz _
      have HB1 : Hid _ := hb1
      have HS : Hid (xa.size ≤ maxLen) := hx
      clear hx hx' hb1
      go_wp2_with fail
      refine (nodeError_any xa xd xk _ HS.out).mono ?_
      rintro e w2 ⟨rfl, hb2⟩
      have HB2 : Hid (Below w.heap.size w w2) := HB1.out.trans (hb2.mono HB1.out.size)
      clear hb2
      by_cases h0 : ndE (xa, xk, xd) = 0
      · rw [h0]
        have H0 : Hid _ := h0
        clear h0
        go_wp2
        refine ⟨⟨k + 1, by omega, by go_num, fun j hj hjk => ?_, HB2.out⟩, by simp [intOf]; omega⟩
        by_cases h : j < k
        · exact HL.out j hj h
        · obtain rfl : j = k := by omega
          rw [HX.out]; exact H0.out
      · generalize hr : ndE (xa, xk, xd) = r at h0 ⊢
        have HR : Hid (ndE (xa, xk, xd) = r) := hr
        have hne : (r != 0) = true := by rw [bne_iff_ne]; exact h0
        have H0 : Hid (r ≠ 0) := h0
        clear hr h0
        go_wp2
        go_ret
        refine ⟨?_, HB2.out⟩
        have e1 := ndEs_no ns k hlt HL.out (by rw [HX.out, HR.out]; exact H0.out)
        rw [HX.out, HR.out] at e1
        unfold neC
        rw [if_neg (by omega), if_neg (by rw [e1]; exact H0.out), e1]
        rfl
    · have hok := ndEs_yes ns (fun j hj => HL.out j hj (by omega))
      have HOK : Hid _ := hok
      clear hok
      go_wp2_with fail
      refine (rises_any g o cap ns wr hn (HC.out.below HB.out hg) (by omega)).mono ?_
      rintro e w2 ⟨rfl, hb2⟩
      have HB2 : Hid (Below w.heap.size w w2) := HB.out.trans (hb2.mono HB.out.size)
      clear hb2
      by_cases h0 : riseB (ns.map (·.1)) = true
      · rw [h0]
        have H0 : Hid _ := h0
        clear h0
        go_wp2
        go_ret
        refine ⟨?_, HB2.out⟩
        unfold neC
        rw [if_neg (by omega), if_pos HOK.out, if_pos H0.out]
        rfl
      · have h0' : riseB (ns.map (·.1)) = false := by simpa using h0
        rw [h0']
        have H0 : Hid _ := h0
        clear h0 h0'
        go_wp2
        go_ret
        refine ⟨?_, HB2.out⟩
        unfold neC
        rw [if_neg (by omega), if_pos HOK.out, if_neg H0.out]
        rfl

set_option maxHeartbeats 2000000 in
set_option maxRecDepth 100000 in
theorem rises_zero (a : Option Addr) (cap : Nat) (w : World) : Calls Try.prog 26 #[.slice a 0 cap, .func (.func 27) #[] #[]] w fun e w' => e = .returned (.bool true) ∧ w' = w := by
  go_enter Try.func26, Try.ntmps26
  go_wp2
  refine wp_loop_rounds 1 ?_
  rw [rounds_succ]
  go_wp2
  go_ret
  exact ⟨rfl, rfl⟩

set_option maxHeartbeats 2000000 in
set_option maxRecDepth 100000 in
theorem ne_zero (a : Option Addr) (cap : Nat) (w : World) :
    Calls Try.prog 11 #[.slice a 0 cap] w fun e w' => e = .returned (.int .i64 0) ∧ w' = w := by
  go_enter Try.func11, Try.ntmps11
  go_wp2
  refine wp_loop_rounds 1 ?_
  rw [rounds_succ]
  go_wp2_with fail
  refine (rises_zero a cap w).mono ?_
  rintro e w2 ⟨rfl, rfl⟩
  go_wp2
  go_ret
  exact ⟨rfl, rfl⟩

/-- These nodes are in v. -/
def IsNodes (w : World) (v : Value) (ns : List Nd) : Prop :=
  ns.length ≤ 4611686018427387904 ∧ (∀ n ∈ ns, n.1.size ≤ maxLen ∧ n.2.2.size ≤ maxLen) ∧ ∃ a cap, v = .slice a ns.length cap ∧ (ns = [] ∨ ∃ g o, a = some ⟨g, o, none⟩ ∧ g < w.heap.size ∧ NdAt g o ns w)

theorem ne_any (v : Value) (ns : List Nd) (w : World) (h : IsNodes w v ns) :
    Calls Try.prog 11 #[v] w fun e w' => e = .returned (.int .i64 (neC ns)) ∧ Below w.heap.size w w' := by
  obtain ⟨_, hm, a, cap, rfl, hs⟩ := h
  by_cases hn : 60 < ns.length
  · refine (ne_many a ns.length cap w hn).mono ?_
    rintro e w' ⟨rfl, rfl⟩
    exact ⟨by unfold neC; rw [if_pos hn], Below.refl _ _⟩
  rcases hs with rfl | ⟨g, o, rfl, hg, hc⟩
  · refine (ne_zero a cap w).mono ?_
    rintro e w' ⟨rfl, rfl⟩
    exact ⟨rfl, Below.refl _ _⟩
  · exact ne_some g o cap ns w (by omega) hc hg (fun n h => (hm n h).1)
end Go.Proofs.Ytbddppbgkhcafaa
