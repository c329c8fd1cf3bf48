/- The document's ring, plain, and how it lies in memory; the places of jobs. -/
import Derived.Test.YtfddhdpnoliamaaQuBg
namespace Go.Proofs.Ytfddhdpnoliamaa
open Go.RowKit Go.Shelf

structure Rg where
  qm : Nat
  tens : List Nat
  creds : List Nat
  turn : Bool
  jobs : List Jb

/-- A list of jobs that can be read at a slice. -/
def RowJ (W : World) (v : Value) (l : List Jb) : Prop := ∃ ao c, v = .slice ao l.length c ∧ (0 < l.length → ∃ g, ao = some ⟨g, 0, none⟩ ∧ ∀ j, j < l.length * 3 → W.cell? ⟨g, j, none⟩ = (jcs l)[j]?)
theorem RowJ.drewN {W : World} {v : Value} {l : List Jb} (h : RowJ W v l) (n : Nat) : RowJ (W.drewN n) v l := by
  obtain ⟨ao, c, hv, h⟩ := h
  refine ⟨ao, c, hv, fun hl => ?_⟩
  obtain ⟨g, hg, hc⟩ := h hl
  exact ⟨g, hg, fun j hj => hc j hj⟩

def jat (l : List Jb) (p : Jb → Bool) : Int := match l.findIdx? p with | none => -1 | some i => (i : Int)

theorem jat_hit (l : List Jb) (p : Jb → Bool) (k : Nat) (h : k < l.length) (hno : ∀ j (_ : j < k) (h2 : j < l.length), ¬ p l[j] = true) (hp : p l[k] = true) : jat l p = (k : Int) := by
  have : l.findIdx? p = some k := by
    rw [List.findIdx?_eq_some_iff_getElem]
    exact ⟨h, hp, fun j hj => hno j hj (by omega)⟩
  unfold jat
  rw [this]
theorem jat_none (l : List Jb) (p : Jb → Bool) (hno : ∀ j (h2 : j < l.length), ¬ p l[j] = true) : jat l p = -1 := by
  have : l.findIdx? p = none := by
    rw [List.findIdx?_eq_none_iff]
    intro x hx
    obtain ⟨j, hj, rfl⟩ := List.getElem_of_mem hx
    have := hno j hj
    simpa using this
  unfold jat
  rw [this]

set_option maxHeartbeats 2000000 in
set_option maxRecDepth 100000 in
theorem JobAt_any (P : Nat) (s : ByteArray) (v : Value) (l : List Jb) (w : World) (hv : w.cell? ⟨P, 4, none⟩ = some v) (hl : RowJ w v l) (hn : l.length ≤ 100000) :
    Calls Try.prog 29 #[.pointer (some ⟨P, 0, none⟩), .string s] w fun e w' => e = .returned (.int .i64 (jat l (fun j => eqN j.name s))) ∧ ∃ m, w' = w.drewN m := by
  obtain ⟨ao, c, rfl, hc⟩ := hl
  have HC : Hid (0 < l.length → ∃ g, ao = some ⟨g, 0, none⟩ ∧ ∀ j, j < l.length * 3 → w.cell? ⟨g, j, none⟩ = (jcs l)[j]?) := hc
  clear hc
  go_enter Try.func29, Try.ntmps29
  go_wp2
  go_loopw [5] (fun v wr => ∃ k : Nat, k ≤ l.length ∧ v = .int .i64 (k : Int) ∧ (∀ j (h : j < k) (h2 : j < l.length), ¬ eqN l[j].name s = true) ∧ ∃ m, wr = w.drewN m) (fun v _ => l.length - (intOf v).toNat)
  case atStart => exact ⟨0, Nat.zero_le _, rfl, fun j h => by omega, 0, rfl⟩
  case round =>
    obtain ⟨k, hk, rfl, hno, m, rfl⟩ := hrel
    have HN : Hid (∀ j (h : j < k) (h2 : j < l.length), ¬ eqN l[j].name s = true) := hno
    clear hno
    by_cases hlt : k < l.length
    · have hki : (k : Int) < (l.length : Int) := by omega
      obtain ⟨g, rfl, hcell⟩ := HC.out (by omega)
      have c0 : w.cell? ⟨g, k * 3 + 1, none⟩ = some (.string l[k].name) := (hcell (k * 3 + 1) (by omega)).trans (jcs_at l k hlt 1 (by omega))
      obtain ⟨k1, hk1⟩ : ∃ k1, k1 = k + 1 := ⟨_, rfl⟩
      have hk2 : (k : Int) + 1 = (k1 : Int) := by omega
      have hw2 : IntKind.i64.wrap (k1 : Int) = (k1 : Int) := by rw [IntKind.wrap_i64]; omega
      have HK : Hid (k1 = k + 1) := hk1
      have HX : Hid (∀ b : Bool, eqN l[k].name s = b → b = true → jat l (fun j => eqN j.name s) = (k : Int)) := fun b hb hbt => jat_hit l (fun j => eqN j.name s) k hlt HN.out (by rw [← hbt, ← hb])
      have HY : Hid (¬ eqN l[k].name s = true → ∀ j (h : j < k1) (h2 : j < l.length), ¬ eqN l[j].name s = true) := fun hb j hj h2 => by
        rcases Nat.lt_or_ge j k with h | h
        · exact HN.out j h h2
        · have e : j = k := by omega
          subst e
          exact hb
      clear hcell hk1
      by_cases hb : eqN l[k].name s = true
      · have HJ : Hid (jat l (fun j => eqN j.name s) = (k : Int)) := HX.out true hb rfl
        have he : (l[k].name.toList == s.toList) = true := hb
        clear HX HY hb
        generalize l[k].name = x1 at *
        go_wp2
        go_ret
        exact ⟨by rw [HJ.out]; rfl, m, rfl⟩
      · have HJ := HY.out hb
        have HJ2 : Hid (∀ j (h : j < k1) (h2 : j < l.length), ¬ eqN l[j].name s = true) := HJ
        have he : (l[k].name.toList == s.toList) = false := Bool.eq_false_iff.2 hb
        clear HJ HX HY hb
        generalize l[k].name = x1 at *
        go_wp2
        refine ⟨⟨k1, by rw [HK.out]; exact hlt, rfl, HJ2.out, m, rfl⟩, ?_⟩
        have := HK.out
        simp [intOf]; omega
    · have hki : ¬ (k : Int) < (l.length : Int) := by omega
      have hX : jat l (fun j => eqN j.name s) = -1 := jat_none l (fun j => eqN j.name s) (fun j h => HN.out j (by omega) h)
      go_wp2
      go_ret
      exact ⟨rfl, m, rfl⟩
set_option maxHeartbeats 2000000 in
set_option maxRecDepth 100000 in
theorem First_any (P : Nat) (tn : Int) (v : Value) (l : List Jb) (w : World) (hv : w.cell? ⟨P, 4, none⟩ = some v) (hl : RowJ w v l) (hn : l.length ≤ 100000) :
    Calls Try.prog 30 #[.pointer (some ⟨P, 0, none⟩), .int .i64 tn] w fun e w' => e = .returned (.int .i64 (jat l (fun j => decide ((j.ten : Int) = tn)))) ∧ ∃ m, w' = w.drewN m := by
  obtain ⟨ao, c, rfl, hc⟩ := hl
  have HC : Hid (0 < l.length → ∃ g, ao = some ⟨g, 0, none⟩ ∧ ∀ j, j < l.length * 3 → w.cell? ⟨g, j, none⟩ = (jcs l)[j]?) := hc
  clear hc
  go_enter Try.func30, Try.ntmps30
  go_wp2
  go_loopw [5] (fun v wr => ∃ k : Nat, k ≤ l.length ∧ v = .int .i64 (k : Int) ∧ (∀ j (h : j < k) (h2 : j < l.length), ¬ decide ((l[j].ten : Int) = tn) = true) ∧ ∃ m, wr = w.drewN m) (fun v _ => l.length - (intOf v).toNat)
  case atStart => exact ⟨0, Nat.zero_le _, rfl, fun j h => by omega, 0, rfl⟩
  case round =>
    obtain ⟨k, hk, rfl, hno, m, rfl⟩ := hrel
    have HN : Hid (∀ j (h : j < k) (h2 : j < l.length), ¬ decide ((l[j].ten : Int) = tn) = true) := hno
    clear hno
    by_cases hlt : k < l.length
    · have hki : (k : Int) < (l.length : Int) := by omega
      obtain ⟨g, rfl, hcell⟩ := HC.out (by omega)
      have c0 : w.cell? ⟨g, k * 3, none⟩ = some (.int .i64 (l[k].ten : Int)) := (hcell (k * 3) (by omega)).trans (jcs_at l k hlt 0 (by omega))
      obtain ⟨k1, hk1⟩ : ∃ k1, k1 = k + 1 := ⟨_, rfl⟩
      have hk2 : (k : Int) + 1 = (k1 : Int) := by omega
      have hw2 : IntKind.i64.wrap (k1 : Int) = (k1 : Int) := by rw [IntKind.wrap_i64]; omega
      have HK : Hid (k1 = k + 1) := hk1
      have HX : Hid (∀ b : Bool, decide ((l[k].ten : Int) = tn) = b → b = true → jat l (fun j => decide ((j.ten : Int) = tn)) = (k : Int)) := fun b hb hbt => jat_hit l (fun j => decide ((j.ten : Int) = tn)) k hlt HN.out (by rw [← hbt, ← hb])
      have HY : Hid (¬ decide ((l[k].ten : Int) = tn) = true → ∀ j (h : j < k1) (h2 : j < l.length), ¬ decide ((l[j].ten : Int) = tn) = true) := fun hb j hj h2 => by
        rcases Nat.lt_or_ge j k with h | h
        · exact HN.out j h h2
        · have e : j = k := by omega
          subst e
          exact hb
      clear hcell hk1
      by_cases hb : decide ((l[k].ten : Int) = tn) = true
      · have HJ : Hid (jat l (fun j => decide ((j.ten : Int) = tn)) = (k : Int)) := HX.out true hb rfl
        have he : (l[k].ten : Int) = tn := of_decide_eq_true hb
        clear HX HY hb
        generalize (l[k].ten : Int) = x1 at *
        go_wp2
        go_ret
        exact ⟨by rw [HJ.out]; rfl, m, rfl⟩
      · have HJ := HY.out hb
        have HJ2 : Hid (∀ j (h : j < k1) (h2 : j < l.length), ¬ decide ((l[j].ten : Int) = tn) = true) := HJ
        have he : ¬ (l[k].ten : Int) = tn := fun e => hb (decide_eq_true e)
        clear HJ HX HY hb
        generalize (l[k].ten : Int) = x1 at *
        go_wp2
        refine ⟨⟨k1, by rw [HK.out]; exact hlt, rfl, HJ2.out, m, rfl⟩, ?_⟩
        have := HK.out
        simp [intOf]; omega
    · have hki : ¬ (k : Int) < (l.length : Int) := by omega
      have hX : jat l (fun j => decide ((j.ten : Int) = tn)) = -1 := jat_none l (fun j => decide ((j.ten : Int) = tn)) (fun j h => HN.out j (by omega) h)
      go_wp2
      go_ret
      exact ⟨rfl, m, rfl⟩
end Go.Proofs.Ytfddhdpnoliamaa
