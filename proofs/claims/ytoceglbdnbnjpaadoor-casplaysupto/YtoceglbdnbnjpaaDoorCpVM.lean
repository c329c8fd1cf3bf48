/- The document's Kept: a text is put. -/
import Derived.Test.YtoceglbdnbnjpaaDoorCpUM
import Derived.Deep.QuietTactic
import Derived.BigQuiet
namespace Go.Proofs.YtoceglbdnbnjpaaDoor
open Go.RowKit Go.Shelf Go.Sort
attribute [local go_sem ↓] appS_eq

/-- The first one that isn't pinned goes. -/
def kdel : List Kt → List Kt
  | [] => []
  | e :: r => if e.2 = 0 then r else e :: kdel r
/-- Texts go till there is room for so many bytes more. -/
def kgon (rm n : Nat) : Nat → List Kt → List Kt
  | 0, E => E
  | f + 1, E => if kus false E + n ≤ rm then E else kgon rm n f (kdel E)
theorem kus_cons (b : Bool) (x : Kt) (r : List Kt) : kus b (x :: r) = (if b = true ∧ x.2 = 0 then 0 else x.1.size) + kus b r := by unfold kus; rw [List.map_cons, List.sum_cons]
theorem kus_app (b : Bool) (x y : List Kt) : kus b (x ++ y) = kus b x + kus b y := by unfold kus; rw [List.map_append, List.sum_append]
theorem kdel_cut : ∀ (L : List Kt) (i : Nat) (hi : i < L.length), (∀ (j : Nat) (hj : j < L.length), j < i → (L[j]).2 ≠ 0) → (L[i]).2 = 0 → kdel L = kcut L i
  | [], i, hi, _, _ => by cases hi
  | x :: r, 0, _, _, h0 => by
    have h0 : x.2 = 0 := h0
    simp [kdel, kcut, h0]
  | x :: r, i + 1, hi, h1, h0 => by
    have h2 : x.2 ≠ 0 := h1 0 (by simp) (by omega)
    have ih := kdel_cut r i (by simpa using hi) (fun j hj hji => h1 (j + 1) (by simpa using hj) (by omega)) h0
    show (if x.2 = 0 then r else x :: kdel r) = _
    rw [if_neg h2, ih]
    simp [kcut]
theorem kus_all : ∀ (L : List Kt), (∀ x ∈ L, x.2 ≠ 0) → kus false L = kus true L
  | [], _ => rfl
  | x :: r, h => by
    rw [kus_cons, kus_cons, kus_all r (fun y hy => h y (by simp [hy])), if_neg (by simp), if_neg (by simp [h x (by simp)])]
theorem kus_cut (L : List Kt) (i : Nat) (hi : i < L.length) (h0 : (L[i]).2 = 0) : kus true (kcut L i) = kus true L := by
  have e : L = L.take i ++ L[i] :: L.drop (i + 1) := by rw [← List.drop_eq_getElem_cons hi, List.take_append_drop]
  have e2 : kus true L = kus true (L.take i ++ L[i] :: L.drop (i + 1)) := by rw [← e]
  rw [e2, kus_app, kus_cons, if_pos ⟨rfl, h0⟩, Nat.zero_add]
  unfold kcut
  rw [kus_app]
theorem kus_le (b : Bool) : ∀ (L : List Kt), (∀ x ∈ L, x.1.size ≤ 100000) → kus b L ≤ L.length * 100000
  | [], _ => Nat.zero_le _
  | x :: r, h => by
    have ih := kus_le b r (fun y hy => h y (by simp [hy]))
    have hx := h x (by simp)
    rw [kus_cons, List.length_cons, Nat.succ_mul, Nat.add_comm]
    refine Nat.add_le_add ih ?_
    split
    · exact Nat.zero_le _
    · exact hx
theorem kgon_end {rm n f : Nat} {L : List Kt} (h : kus false L + n ≤ rm) : kgon rm n f L = L := by
  cases f with
  | zero => rfl
  | succ f => show (if _ then _ else _) = _; rw [if_pos h]

/-- While texts go. -/
structure KG (rm n : Nat) (L L' : List Kt) (i : Nat) : Prop where
  pin : ∀ (j : Nat) (hj : j < L'.length), j < i → (L'[j]).2 ≠ 0
  le : i ≤ L'.length
  us : kus true L' + n ≤ rm
  sub : ∀ x ∈ L', x ∈ L
  len : L'.length ≤ L.length
  gon : ∃ f, L'.length ≤ f ∧ kgon rm n L.length L = kgon rm n f L'
theorem KG.start {rm n : Nat} {L : List Kt} (h : kus true L + n ≤ rm) : KG rm n L L 0 := ⟨fun _ _ h => by omega, Nat.zero_le _, h, fun _ h => h, Nat.le_refl _, ⟨L.length, Nat.le_refl _, rfl⟩⟩
theorem KG.fin {rm n i : Nat} {L L' : List Kt} (h : KG rm n L L' i) (hu : kus false L' + n ≤ rm) : L' = kgon rm n L.length L := by
  obtain ⟨f, _, e⟩ := h.gon
  rw [e, kgon_end hu]
theorem KG.lt {rm n i : Nat} {L L' : List Kt} (h : KG rm n L L' i) (hu : ¬ kus false L' + n ≤ rm) : i < L'.length := by
  by_cases e : i < L'.length
  · exact e
  · exfalso
    have := h.le
    have e2 : i = L'.length := by omega
    have := kus_all L' (fun x hx => by
      obtain ⟨j, hj, rfl⟩ := List.getElem_of_mem hx
      exact h.pin j hj (by omega))
    have := h.us
    omega
theorem KG.next {rm n i : Nat} {L L' : List Kt} (h : KG rm n L L' i) (hi : i < L'.length) (hp : (L'[i]).2 ≠ 0) : KG rm n L L' (i + 1) := ⟨fun j hj hji => by
    by_cases e : j < i
    · exact h.pin j hj e
    · have : j = i := by omega
      subst this
      exact hp, hi, h.us, h.sub, h.len, h.gon⟩
theorem KG.take {rm n i : Nat} {L L' : List Kt} (h : KG rm n L L' i) (hu : ¬ kus false L' + n ≤ rm) (hi : i < L'.length) (hp : (L'[i]).2 = 0) : KG rm n L (kcut L' i) i := by
  have hl := kcut_len hi
  refine ⟨fun j hj hji => ?_, by omega, by rw [kus_cut L' i hi hp]; exact h.us, fun x hx => h.sub x (kcut_mem hx), by have := h.len; omega, ?_⟩
  · have e : (kcut L' i)[j]? = L'[j]? := by
      unfold kcut
      rw [List.getElem?_append_left (by rw [List.length_take]; omega), List.getElem?_take_of_lt hji]
    rw [List.getElem?_eq_getElem hj, List.getElem?_eq_getElem (by omega)] at e
    rw [Option.some.inj e]
    exact h.pin j (by omega) hji
  · obtain ⟨f, hf, e⟩ := h.gon
    cases f with
    | zero => omega
    | succ f =>
      refine ⟨f, by omega, ?_⟩
      rw [e]
      show (if _ then _ else _) = _
      rw [if_neg hu, kdel_cut L' i hi h.pin hp]

section
variable {B R rm : Nat} {tv pv : Value} {L : List Kt} {w : World}
theorem bl_drewN {b : Nat} {w w1 : World} (h : Below b w w1) (n : Nat) : Below b w (w1.drewN n) := ⟨h.os, h.tape, h.output, h.size, h.block⟩
theorem KFin.below {I : List Nat} {K : List Kt} {w1 W : World} {r : Int} (h : KFin B R r I w1 K W) (hb : Below w.heap.size w w1) : KFin B R r I w K W := by
  obtain ⟨a, b, h1, h2⟩ := h
  exact ⟨a, b, h1, (Upd.of_below hb).trans h2⟩
set_option maxHeartbeats 4000000 in
set_option maxRecDepth 100000 in
theorem KPut_long (s : ByteArray) (h : 100000 < s.size) (hs : s.size ≤ 140737488351300) : Calls Tryd.prog 15 #[.pointer (some ⟨R, 0, none⟩), .string s] w fun e w' => e = .returned (.int .i64 2) ∧ w' = w := by
  have hi : (100000 : Int) < (s.size : Int) := by omega
  clear h hs
  go_enter Tryd.func15, Tryd.ntmps15
  go_wp2
  go_ret
  exact ⟨rfl, rfl⟩

set_option maxHeartbeats 4000000 in
set_option maxRecDepth 100000 in
theorem KPut_there (h : KD B R (rm : Int) tv pv L w) (hn : L.length ≤ 1000) (hz : ∀ x ∈ L, x.1.size ≤ 100000) (s : ByteArray) (hs : s.size ≤ 100000) (i : Nat) (hi : i < L.length) (hat : kat L (smB s) = some i) :
    Calls Tryd.prog 15 #[.pointer (some ⟨R, 0, none⟩), .string s] w fun e w' => e = .returned (.int .i64 0) ∧ KFin B R (rm : Int) (rid R (krs tv pv L)) w (kcut L i ++ [L[i]]) w' := by
  have HS : Hid (Calls Tryd.prog 11 #[.string s] w fun e w' => e = .returned (.string (smB s)) ∧ Below w.heap.size w w') := RSm_any s w (by omega)
  have HA : Hid (∀ w1, Below w.heap.size w w1 → Calls Tryd.prog 13 #[.pointer (some ⟨R, 0, none⟩), .string (smB s)] w1 fun e w' => e = .returned (.int .i64 (i : Int)) ∧ Below w1.heap.size w1 w') := fun w1 hb => by
    have := KAt_any (h.up hb) (by omega) (fun x hx => by have := hz x hx; omega) (smB s)
    unfold katI at this
    rw [hat] at this
    exact this
  have HU : Hid (∀ w1, Below w.heap.size w w1 → Calls Tryd.prog 18 #[.pointer (some ⟨R, 0, none⟩), .int .i64 (i : Int)] w1 fun e w' => e = .returned (.tuple #[]) ∧ KFin B R (rm : Int) (rid R (krs tv pv L)) w1 (kcut L i ++ [L[i]]) w') := fun w1 hb => KUse_any (h.up hb) hn i hi
  have hsi : ¬ (100000 : Int) < (s.size : Int) := by omega
  have hi0 : (0 : Int) ≤ (i : Int) := by omega
  generalize smB s = d at HS HA
  generalize L[i] = li at HU ⊢
  clear hs hat hz hn h hi
  go_enter Tryd.func15, Tryd.ntmps15
  go_wp2_with fail
  refine HS.out.mono ?_
  rintro e w1 ⟨rfl, hb1⟩
  have HB1 : Hid (Below w.heap.size w w1) := hb1
  clear hb1
  go_wp2_with fail
  refine (HA.out w1 HB1.out).mono ?_
  rintro e w2 ⟨rfl, hb2⟩
  have HB2 : Hid (Below w.heap.size w w2) := bl_tr HB1.out hb2
  clear hb2
  go_wp2_with fail
  refine (HU.out w2 HB2.out).mono ?_
  rintro e w3 ⟨rfl, hk⟩
  have HK : Hid (KFin B R (rm : Int) (rid R (krs tv pv L)) w (kcut L i ++ [li]) w3) := hk.below HB2.out
  clear hk
  go_wp2
  go_ret
  exact ⟨rfl, HK.out⟩

set_option maxHeartbeats 4000000 in
set_option maxRecDepth 100000 in
theorem KPut_no (h : KD B R (rm : Int) tv pv L w) (hn : L.length ≤ 1000) (hz : ∀ x ∈ L, x.1.size ≤ 100000) (s : ByteArray) (hs : s.size ≤ 100000) (hat : kat L (smB s) = none) (hu : rm < kus true L + s.size) :
    Calls Tryd.prog 15 #[.pointer (some ⟨R, 0, none⟩), .string s] w fun e w' => e = .returned (.int .i64 2) ∧ Below w.heap.size w w' := by
  have HS : Hid (Calls Tryd.prog 11 #[.string s] w fun e w' => e = .returned (.string (smB s)) ∧ Below w.heap.size w w') := RSm_any s w (by omega)
  have HA : Hid (∀ w1, Below w.heap.size w w1 → Calls Tryd.prog 13 #[.pointer (some ⟨R, 0, none⟩), .string (smB s)] w1 fun e w' => e = .returned (.int .i64 (-1)) ∧ Below w1.heap.size w1 w') := fun w1 hb => by
    have := KAt_any (h.up hb) (by omega) (fun x hx => by have := hz x hx; omega) (smB s)
    unfold katI at this
    rw [hat] at this
    exact this
  have hul := kus_le true L hz
  have hul2 : kus true L ≤ 100000000 := Nat.le_trans hul (Nat.mul_le_mul_right 100000 hn)
  obtain ⟨u, eu⟩ : ∃ u, u = kus true L := ⟨_, rfl⟩
  have HU : Hid (∀ w1, Below w.heap.size w w1 → Calls Tryd.prog 24 #[.pointer (some ⟨R, 0, none⟩), .bool true] w1 fun e w' => e = .returned (.int .i64 (u : Int)) ∧ w' = w1) := fun w1 hb => by
    rw [eu]
    exact KUsed_any (h.up hb) (by omega) (fun x hx => by have := hz x hx; omega) true
  have H0 : Hid (∀ w1, Below w.heap.size w w1 → w1.cell? ⟨R, 0, none⟩ = some (.int .i64 (rm : Int))) := fun w1 hb => (h.up hb).c0
  rw [← eu] at hu hul2
  obtain ⟨t, et⟩ : ∃ t, t = u + s.size := ⟨_, rfl⟩
  have e1 : (u : Int) + (s.size : Int) = (t : Int) := by omega
  have e2 : IntKind.i64.wrap (t : Int) = (t : Int) := by rw [IntKind.wrap_i64]; omega
  have e3 : (rm : Int) < (t : Int) := by omega
  have hsi : ¬ (100000 : Int) < (s.size : Int) := by omega
  generalize smB s = d at HS HA
  clear hs hat hz hn h hu hul hul2 eu et
  go_enter Tryd.func15, Tryd.ntmps15
  go_wp2_with fail
  refine HS.out.mono ?_
  rintro e w1 ⟨rfl, hb1⟩
  have HB1 : Hid (Below w.heap.size w w1) := hb1
  clear hb1
  go_wp2_with fail
  refine (HA.out w1 HB1.out).mono ?_
  rintro e w2 ⟨rfl, hb2⟩
  have HB2 : Hid (Below w.heap.size w w2) := bl_tr HB1.out hb2
  clear hb2
  have c0 := H0.out w2 HB2.out
  go_wp2_with fail
  go_quiet ((go_at_call 24; refine Calls.quiet_of_same (HU.out _ (bl_drewN HB2.out _))))
  go_wp2
  go_ret
  exact ⟨rfl, bl_drewN HB2.out _⟩
end
end Go.Proofs.YtoceglbdnbnjpaaDoor
