/- Lists of texts that came in, and the program's Root of them. -/
import Derived.Test.YtagelkaenbdlaaaDoorDgFind
import Derived.Test.YtagelkaenbdlaaaDoorShaDoor
import Derived.OpenShut
import Derived.ShutString
import Derived.ChangeOld
import Derived.SliceStrings
namespace Go.Proofs.YtagelkaenbdlaaaDoor
open Go.ChangeShapes Go.WideShapes Go.ChangeAt Go.RowKit
open Go.ChangeMaps (open_string shut_string)

theorem own : ownKnob Tryd.prog.godebug = none := by kernel_rfl
theorem laidOut : laidOutB Tryd.prog = true := by kernel_rfl
theorem bytesS : Tryd.prog.bytesOf 9 = 16 := by kernel_rfl

/-- A slice of these texts. -/
def Tx (w : World) (v : Value) (ss : List ByteArray) : Prop :=
  ss.length ≤ 4611686018427387904 ∧ ((ss = [] ∧ ∃ a cap, v = .slice a 0 cap) ∨ (0 < ss.length ∧ ∃ g o cap, v = .slice (some ⟨g, o, none⟩) ss.length cap ∧ ss.length ≤ cap ∧ Row w g o ss))
def okD (ss : List ByteArray) : Prop := ss.length ≤ 2000 ∧ ∀ s ∈ ss, s.size ≤ 100000
theorem Tx.up {w w' : World} {v : Value} {ss : List ByteArray} (h : Tx w v ss) (hb : Below w.heap.size w w') : Tx w' v ss := by
  refine ⟨h.1, ?_⟩
  rcases h.2 with h1 | ⟨h0, g, o, cap, hv, hc, hr⟩
  · exact Or.inl h1
  · exact Or.inr ⟨h0, g, o, cap, hv, hc, hr.up hb (World.block_lt_of_cell? w ⟨g, o + 0, none⟩ (hr 0 h0))⟩
theorem Tx.shape {w : World} {v : Value} {ss : List ByteArray} (h : Tx w v ss) : ∃ a cap, v = .slice a ss.length cap := by
  rcases h.2 with ⟨rfl, a, cap, hv⟩ | ⟨_, g, o, cap, hv, _⟩
  · exact ⟨a, cap, hv⟩
  · exact ⟨_, cap, hv⟩
theorem Tx.cf {w : World} {v : Value} {ss : List ByteArray} (h : Tx w v ss) (b : Bool) (hb : b = true ↔ ∃ s ∈ ss, 100000 < s.size) :
    Calls Tryd.prog 47 #[v, .func (.func 49) #[] #[]] w fun e w' => e = .returned (.bool b) ∧ w' = w := by
  rcases h.2 with ⟨rfl, a, cap, rfl⟩ | ⟨h0, g, o, cap, rfl, hc, hr⟩
  · cases b with
    | true => obtain ⟨s, hs, _⟩ := hb.1 rfl; cases hs
    | false => exact dcf_zero a cap w
  · cases b with
    | true => exact dcf_some g o cap ss w h.1 hr (hb.1 rfl)
    | false =>
      refine dcf_none g o cap ss w h.1 hr fun s hs => ?_
      rcases Nat.lt_or_ge 100000 s.size with h2 | h2
      · exact absurd (hb.2 ⟨s, hs, h2⟩) (by simp)
      · exact h2

set_option maxHeartbeats 1000000 in
theorem tooMany_any (v : Value) (ss : List ByteArray) (w : World) (h : Tx w v ss) (b : Bool) (hb : b = true ↔ ¬ okD ss) :
    Calls Tryd.prog 41 #[v] w fun e w' => e = .returned (.bool b) ∧ w' = w := by
  have H : Hid (Tx w v ss) := h
  obtain ⟨a, cap, rfl⟩ := h.shape
  by_cases hl : ss.length ≤ 2000
  · have hli : (ss.length : Int) ≤ 2000 := by omega
    have HC : Hid (Calls Tryd.prog 47 #[.slice a ss.length cap, .func (.func 49) #[] #[]] w fun e w' => e = .returned (.bool b) ∧ w' = w) := H.out.cf b ⟨fun hbt => by
        have := hb.1 hbt
        refine Classical.byContradiction fun hne => this ⟨hl, fun s hs => Nat.le_of_not_lt fun h2 => hne ⟨s, hs, h2⟩⟩,
      fun ⟨s, hs, h2⟩ => hb.2 fun hok => by have := hok.2 s hs; omega⟩
    clear hb h
    go_enter Tryd.func41, Tryd.ntmps41
    go_wp2_with fail
    refine HC.out.mono ?_
    rintro e w' ⟨rfl, rfl⟩
    go_wp2
    go_ret
    refine ⟨?_, rfl⟩
    simp
    omega
  · have hli : (2000 : Int) < (ss.length : Int) := by omega
    have hbt : b = true := hb.2 fun hok => hl hok.1
    subst hbt
    clear hb h
    go_enter Tryd.func41, Tryd.ntmps41
    go_wp2
    go_ret
    exact ⟨rfl, rfl⟩

set_option maxHeartbeats 1000000 in
theorem Root_no (v : Value) (ss : List ByteArray) (w : World) (h : Tx w v ss) (hno : ¬ okD ss) :
    Calls Tryd.prog 12 #[v] w fun e w' => e = .returned (.tuple #[.string ⟨#[]⟩, .int .i64 2]) ∧ w' = w := by
  have HT : Hid (Calls Tryd.prog 41 #[v] w fun e w' => e = .returned (.bool true) ∧ w' = w) := tooMany_any v ss w h true (by simp [hno])
  obtain ⟨a, cap, rfl⟩ := h.shape
  clear h hno
  go_enter Tryd.func12, Tryd.ntmps12
  go_wp2_with fail
  refine HT.out.mono ?_
  rintro e w' ⟨rfl, rfl⟩
  go_wp2
  go_ret2
  exact ⟨rfl, rfl⟩

theorem root_tx (v : Value) (ss : List ByteArray) (w : World) (h : Tx w v ss) (hok : okD ss) (hr : Roots w) :
    Calls Tryd.prog 42 #[v] w fun e w' => e = .returned (.string (rootB ss)) ∧ Below w.heap.size w w' := by
  rcases h.2 with ⟨rfl, a, cap, rfl⟩ | ⟨h0, g, o, cap, rfl, hc, hrow⟩
  · exact root_zero a cap w hr
  · exact root_any ss.length g o cap ss w (Nat.le_refl _) h0 hok.1 hc hok.2 hrow hr

set_option maxHeartbeats 1000000 in
theorem Root_yes (v : Value) (ss : List ByteArray) (w : World) (h : Tx w v ss) (hok : okD ss) (hr : Roots w) :
    Calls Tryd.prog 12 #[v] w fun e w' => e = .returned (.tuple #[.string (rootB ss), .int .i64 0]) ∧ Below w.heap.size w w' := by
  have HT : Hid (Calls Tryd.prog 41 #[v] w fun e w' => e = .returned (.bool false) ∧ w' = w) := tooMany_any v ss w h false (by simp [hok])
  have HR : Hid (Calls Tryd.prog 42 #[v] w fun e w' => e = .returned (.string (rootB ss)) ∧ Below w.heap.size w w') := root_tx v ss w h hok hr
  obtain ⟨a, cap, rfl⟩ := h.shape
  generalize rootB ss = y at HR
  clear h hok hr
  go_enter Tryd.func12, Tryd.ntmps12
  go_wp2_with fail
  refine HT.out.mono ?_
  rintro e w' ⟨rfl, rfl⟩
  go_wp2_with fail
  refine HR.out.mono ?_
  rintro e w1 ⟨rfl, hb1⟩
  have B1 : Hid (Below _ _ w1) := hb1
  clear hb1
  go_wp2
  go_ret2
  exact ⟨rfl, B1.out⟩


set_option maxRecDepth 100000 in
/-- A slice of texts that came in. -/
theorem arg_tx {H : Type} {enc : TypeId × Value → H} {W : World} {v : Value} {d : DataW H} {p : List MemPlace} {base : Nat}
    (hv : Value.okWide Tryd.prog W .any base 25 v) (h : DataW.Trod enc Tryd.prog W 0 (fun _ => true) true 25 v d p) (hr : ∀ elems sp, d = .slice elems sp → elems.length ≤ 4611686018427387904) : ∃ ss, Tx W v ss := by
  obtain ⟨a, len, cap, rfl⟩ := okWide_slice Tryd.underlying25 hv
  obtain ⟨fuel, hf⟩ := h
  rcases open_strings Tryd.underlying25 Tryd.underlying9 (by kernel_rfl) hf with ⟨hcs, _⟩ | ⟨x, l, c, ss, hcs, _, hl, hm, hz, hx, hcell, hws⟩
  · simp [Value.cells] at hcs
    obtain ⟨rfl, rfl, rfl⟩ := hcs
    exact ⟨[], by decide, Or.inl ⟨rfl, none, 0, rfl⟩⟩
  · simp [Value.cells] at hcs
    obtain ⟨rfl, rfl, rfl⟩ := hcs
    have hz' : ss.length = cap := by simpa using hz
    have hlen : (ss.take len).length = len := by rw [List.length_take]; omega
    have hb : len ≤ 4611686018427387904 := by
      have := hr _ _ (congrArg Prod.fst hx)
      simp [Go.ChangeShapes.strs] at this
      omega
    by_cases h0 : len = 0
    · exact ⟨[], by decide, Or.inl ⟨rfl, some x, cap, by rw [h0]⟩⟩
    · refine ⟨ss.take len, by rw [hlen]; exact hb, Or.inr ⟨by omega, ?_⟩⟩
      obtain ⟨b, off, spot⟩ := x
      have hspot : spot = none := by simpa [Addr.add] using World.cell?_spot (hcell 0 (by omega))
      subst hspot
      refine ⟨b, off, cap, by rw [hlen], by omega, fun j hj => ?_⟩
      rw [hlen] at hj
      rw [← Go.WideShapes.add_plain, hcell j (by omega)]
      simp [List.getD, List.getElem?_eq_getElem (show j < ss.length by omega)]
theorem arg_len {H : Type} {ts : List TypeId} {ds : List (DataW H)} (hsz : (DataW.weightsEach Tryd.prog ts ds).all (· ≤ reachBytes) = true) (j : Nat) (d : DataW H) (ht : ts[j]? = some 25) (hd : ds[j]? = some d) :
    ∀ elems sp, d = .slice elems sp → elems.length ≤ 4611686018427387904 := fun elems sp he => by
  have h1 := sized_slice hsz (j := j) (t := 25) ht (by rw [hd, he]) Tryd.underlying25
  have h2 := reachBytes_lt
  rw [bytesS] at h1
  omega
end Go.Proofs.YtagelkaenbdlaaaDoor
