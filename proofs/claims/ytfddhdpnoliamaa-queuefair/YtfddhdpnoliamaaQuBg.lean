/- One tenant alone; what must be in any case. -/
import Derived.Test.YtfddhdpnoliamaaQuZ
namespace Go.Proofs.Ytfddhdpnoliamaa
open Go.RowKit Go.Shelf

theorem start_one {q : Qu} {n c : Nat} {l : List Jb} (h : q.ring = [⟨n, c, l⟩]) : ∃ c', q.start.ring = [⟨n, c', l⟩] := by
  cases hb : q.beg with
  | true => rw [start_beg hb]; exact ⟨c, h⟩
  | false => rw [start_new h hb]; exact ⟨c + q.qm, rfl⟩
theorem Spun.one {q r : Qu} (hs : Spun q r) : ∀ {n c : Nat} {l : List Jb}, q.ring = [⟨n, c, l⟩] → ∃ c', r.ring = [⟨n, c', l⟩] := by
  have key := Spun.ind (M := fun q r => ∀ (n c : Nat) (l : List Jb), q.ring = [⟨n, c, l⟩] → ∃ c', r.ring = [⟨n, c', l⟩])
    (fun q _ n c l h => start_one h)
    (fun q r _ ih n c l h => by
      obtain ⟨c', h'⟩ := start_one h
      exact ih n c' l (by rw [over_eq h']; rfl)) hs
  exact fun {n c l} h => key n c l h
theorem Spun.qm {q r : Qu} (hs : Spun q r) : r.qm = q.qm := by
  have h1 : ∀ q : Qu, q.start.qm = q.qm := fun q => by unfold Qu.start; cases q.ring with
    | nil => rfl
    | cons t s => simp only; split <;> rfl
  have h2 : ∀ q : Qu, q.over.qm = q.qm := fun q => by unfold Qu.over; cases q.ring <;> rfl
  exact Spun.ind (M := fun q r => r.qm = q.qm) (fun q _ => h1 q) (fun q r _ ih => by rw [ih, h2, h1]) hs

theorem Put_ok {B P : Nat} {rv : Value} {cs : List Ce} {w : World} {q : Qu} (h : QS B P rv cs w q) (hi : QI q) (j : Jb) (h1 : 1 ≤ j.ten) (h2 : j.ten ≤ 20) (h3 : 1 ≤ j.cost) (h4 : j.cost ≤ 1000) (hn : nameOk j.name = true) (hh : hasN q.ring j.name = false) (hs : sizeL q.ring < 200) :
    Calls Try.prog 10 #[.pointer (some ⟨P, 0, none⟩), .agg #[.int .i64 j.ten, .string j.name, .int .i64 j.cost]] w fun e w' => e = .returned (.int .i64 0) ∧ ∃ rv' cs', QS B P rv' cs' w' { q with ring := addR j q.ring } ∧ QI { q with ring := addR j q.ring } ∧ Upd (ids P rv cs) (ids P rv' cs') w w' := by
  have hsz : j.name.size ≤ 20 := by
    unfold nameOk at hn
    simp at hn
    omega
  have hje : jobE j.ten j.name j.cost = 0 := by unfold jobE; rw [if_neg (by omega), if_neg (by rw [hn]; decide)]
  have hpe : putE q j.ten j.name j.cost = 0 := by unfold putE; rw [if_neg (by rw [hje]; decide), if_neg (by rw [hh]; decide), if_neg (by omega)]
  have hpq : putQ q j.ten j.name j.cost = { q with ring := addR j q.ring } := by
    unfold putQ; rw [if_pos hpe]
    have : (⟨(j.ten : Int).toNat, j.name, (j.cost : Int).toNat⟩ : Jb) = j := by cases j; simp
    rw [this]
  have := Put_any h hi.b j.ten j.name j.cost (by unfold maxLen; omega)
  rw [hpe, hpq] at this
  refine this.mono ?_
  rintro e w' ⟨he, rv', cs', hq, hu⟩
  exact ⟨he, rv', cs', hq, hi.add j h3 h4 (by omega), hu⟩

def jobA : Jb := ⟨1, ⟨#[97]⟩, 3⟩
theorem jobA_ok : nameOk jobA.name = true := by
  have e : jobA.name.toList = [97] := by rw [Lib.toList_data]; rfl
  unfold nameOk
  rw [e]
  decide

set_option maxHeartbeats 4000000 in
set_option maxRecDepth 100000 in
theorem begun_any (w : World) : Calls Try.prog 7 #[] w fun e w' => e = .returned (.bool true) ∧ Below w.heap.size w w' := by
  have HNw : Hid (Calls Try.prog 8 #[.int .i64 5] w fun e w' => e = .returned (.tuple #[.pointer (some ⟨w.heap.size, 0, none⟩), .int .i64 0]) ∧ QS w.heap.size w.heap.size (.slice none 0 0) [] w' ⟨5, [], false⟩ ∧ Below w.heap.size w w' ∧ w'.heap.size = w.heap.size + 1) := New_yes 5 w (by decide) (by decide)
  go_enter Try.func7, Try.ntmps7
  go_wp2_with fail
  refine HNw.out.mono ?_
  rintro e w1 ⟨rfl, hq1, hb1, hz1⟩
  have HP : Hid (Calls Try.prog 10 #[.pointer (some ⟨w.heap.size, 0, none⟩), .agg #[.int .i64 1, .string ⟨#[97]⟩, .int .i64 3]] w1 fun e w' => e = .returned (.int .i64 0) ∧ ∃ rv' cs', QS w.heap.size w.heap.size rv' cs' w' ⟨5, [⟨1, 0, [jobA]⟩], false⟩ ∧ QI ⟨5, [⟨1, 0, [jobA]⟩], false⟩ ∧ Upd (ids w.heap.size (.slice none 0 0) []) (ids w.heap.size rv' cs') w1 w') := Put_ok hq1 (QI.new 5 (by decide) (by decide)) jobA (by decide) (by decide) (by decide) (by decide) jobA_ok rfl (by decide)
  have HB1 : Hid (Below w.heap.size w w1 ∧ w.heap.size ≤ w1.heap.size) := ⟨hb1, by omega⟩
  clear hq1 hb1 hz1 HNw
  go_wp2_with fail
  refine HP.out.mono ?_
  rintro e w2 ⟨rfl, rv', cs', hq2, hi2, hu2⟩
  have hb2 : Below w.heap.size w1 w2 := hu2.below (fun g hg => by simp [ids, ob, Value.ownBlock] at hg; omega) HB1.out.2
  have HB2 : Hid (Below w.heap.size w w2 ∧ w.heap.size ≤ w2.heap.size) := ⟨HB1.out.1.trans hb2, Nat.le_trans HB1.out.2 hb2.size⟩
  have HNx : Hid (Calls Try.prog 12 #[.pointer (some ⟨w.heap.size, 0, none⟩)] w2 fun e w' => e = .returned (.tuple #[.agg #[.int .i64 1, .string ⟨#[97]⟩, .int .i64 3], .bool true]) ∧ Below w.heap.size w w' ∧ w.heap.size ≤ w'.heap.size) := by
    refine (Next_some hq2 hi2 (by simp)).mono ?_
    rintro e w' ⟨r, t, s, j, js, hs, hir, hr, hj, hc, rfl, rv3, cs3, hq3, hu3⟩
    obtain ⟨c', hr'⟩ := hs.one (n := 1) (c := 0) (l := [jobA]) rfl
    rw [hr'] at hr
    cases hr
    cases hj
    have hb3 : Below w.heap.size w2 w' := hu3.below (fun g hg => (hq2.lt g hg).1) HB2.out.2
    exact ⟨rfl, HB2.out.1.trans hb3, Nat.le_trans HB2.out.2 hb3.size⟩
  clear hq2 hi2 hu2 hb2 HP HB1
  go_wp2_with fail
  refine HNx.out.mono ?_
  rintro e w3 ⟨rfl, hb3, hz3⟩
  have HB3 : Hid (Below w.heap.size w (w3.alloc (.cells #[.int .i64 1, .string ⟨#[97]⟩, .int .i64 3] 34))) := hb3.alloc hz3 _
  have l3 := heap_alloc_new w3 (.cells #[.int .i64 1, .string ⟨#[97]⟩, .int .i64 3] 34)
  have k3 : (w3.alloc (.cells #[.int .i64 1, .string ⟨#[97]⟩, .int .i64 3] 34)).cell? ⟨w3.heap.size, 1, none⟩ = some (.string ⟨#[97]⟩) := by rw [Lib.cell_of_heap l3]; rfl
  clear hb3 hz3 l3 HNx HB2
  go_wp2
  go_ret
  exact ⟨rfl, HB3.out⟩
end Go.Proofs.Ytfddhdpnoliamaa
