/- Is a text of a list too long for a root? -/
import Derived.Test.YtcdgdmhlbgbklaaGreatDoorChecked
import Derived.Test.YtcdgdmhlbgbklaaGreatDoorTie
import Derived.Test.YtcdgdmhlbgbklaaGreatDoorCards
import Derived.ProofKit
import Derived.OpenShut
import Derived.ShutString
import Derived.ChangeOld
import Derived.Below
import Derived.Lay
import Derived.HandedShaped
import Derived.SevenTiedAt
import Derived.Stop.Joined
import Derived.Shelf.Vars
import Derived.SliceStrings
import Derived.Deep.RegionHeld3
import Derived.Test.YtcdgdmhlbgbklaaGreatDoorTg10
namespace Go.Proofs.YtcdgdmhlbgbklaaGreatDoor.Dg
open Go.RowKit

theorem disTooLong_any (s : ByteArray) (w : World) : Calls Tryz.prog 57 #[.string s] w fun e w' => e = .returned (.bool (decide (100000 < s.size))) ∧ w' = w := by
  go_enter Tryz.func57, Tryz.ntmps57
  go_wp2
  go_ret
  exact ⟨by simp; omega, rfl⟩

set_option maxHeartbeats 1000000 in
set_option maxRecDepth 100000 in
theorem didx_none (g o cap : Nat) (ss : List ByteArray) (w : World) (hn : ss.length ≤ 4611686018427387904) (hcell : ∀ j (hj : j < ss.length), w.cell? ⟨g, o + j, none⟩ = some (.string ss[j])) (hs : ∀ s ∈ ss, s.size ≤ 100000) :
    Calls Tryz.prog 95 #[.slice (some ⟨g, o, none⟩) ss.length cap, .func (.func 57) #[] #[]] w fun e w' => e = .returned (.int .i64 (-1)) ∧ w' = w := by
  have HC : Hid _ := hcell
  have HS : Hid _ := hs
  have hn1 : (ss.length : Int) ≤ 4611686018427387904 := by omega
  clear hcell hs
  go_enter Tryz.func95, Tryz.ntmps95
  go_wp2
  go_loop [8] (fun i => ∃ k : Nat, k ≤ ss.length ∧ i = .int .i64 k) (fun i => ss.length - (intOf i).toNat)
  case atStart => exact ⟨0, Nat.zero_le _, rfl⟩
  case round =>
    obtain ⟨k, hk, rfl⟩ := hrel
    by_cases hlt : k < ss.length
    · have hc := HC.out k hlt
      have hb : decide (100000 < (ss[k]).size) = false := by have := HS.out _ (List.getElem_mem hlt); simp; omega
      go_wp2_with (go_at_call 57; refine (disTooLong_any _ _).mono ?_; rintro e w' ⟨rfl, rfl⟩; rw [hb])
      exact ⟨⟨k + 1, by omega, by go_num⟩, by simp [intOf]; omega⟩
    · go_wp2
      go_ret
      exact ⟨rfl, rfl⟩

set_option maxHeartbeats 1000000 in
set_option maxRecDepth 100000 in
theorem didx_some (g o cap : Nat) (ss : List ByteArray) (w : World) (hn : ss.length ≤ 4611686018427387904) (hcell : ∀ j (hj : j < ss.length), w.cell? ⟨g, o + j, none⟩ = some (.string ss[j])) (hs : ∃ s ∈ ss, 100000 < s.size) :
    Calls Tryz.prog 95 #[.slice (some ⟨g, o, none⟩) ss.length cap, .func (.func 57) #[] #[]] w fun e w' => (∃ k : Nat, e = .returned (.int .i64 k)) ∧ w' = w := by
  have HC : Hid _ := hcell
  have HS : Hid _ := hs
  have hn1 : (ss.length : Int) ≤ 4611686018427387904 := by omega
  clear hcell hs
  go_enter Tryz.func95, Tryz.ntmps95
  go_wp2
  go_loop [8] (fun i => ∃ k : Nat, k ≤ ss.length ∧ i = .int .i64 k ∧ ∀ j (hj : j < ss.length), j < k → ss[j].size ≤ 100000) (fun i => ss.length - (intOf i).toNat)
  case atStart => exact ⟨0, Nat.zero_le _, rfl, by omega⟩
  case round =>
    obtain ⟨k, hk, rfl, hlo⟩ := hrel
    have HL : Hid _ := hlo
    clear hlo
    by_cases hlt : k < ss.length
    · have hc := HC.out k hlt
      by_cases hb : 100000 < (ss[k]).size
      · have hb' : decide (100000 < (ss[k]).size) = true := by simpa using hb
        clear hb
        go_wp2_with (go_at_call 57; refine (disTooLong_any _ _).mono ?_; rintro e w' ⟨rfl, rfl⟩; rw [hb'])
        go_ret
        exact ⟨⟨k, rfl⟩, rfl⟩
      · have hb' : decide (100000 < (ss[k]).size) = false := by simpa using hb
        have HB : Hid _ := hb
        clear hb
        go_wp2_with (go_at_call 57; refine (disTooLong_any _ _).mono ?_; rintro e w' ⟨rfl, rfl⟩; rw [hb'])
        refine ⟨⟨k + 1, by omega, by go_num, fun j hj hjk => ?_⟩, by simp [intOf]; omega⟩
        by_cases h : j < k
        · exact HL.out j hj h
        · obtain rfl : j = k := by omega
          exact Nat.le_of_not_lt HB.out
    · exfalso
      obtain ⟨s, hs, hlong⟩ := HS.out
      obtain ⟨j, hj, rfl⟩ := List.getElem_of_mem hs
      have := HL.out j hj (by omega)
      omega

set_option maxHeartbeats 1000000 in
theorem dcf_none (g o cap : Nat) (ss : List ByteArray) (w : World) (hn : ss.length ≤ 4611686018427387904) (hcell : ∀ j (hj : j < ss.length), w.cell? ⟨g, o + j, none⟩ = some (.string ss[j])) (hs : ∀ s ∈ ss, s.size ≤ 100000) :
    Calls Tryz.prog 51 #[.slice (some ⟨g, o, none⟩) ss.length cap, .func (.func 57) #[] #[]] w fun e w' => e = .returned (.bool false) ∧ w' = w := by
  have HC : Hid _ := hcell
  have HS : Hid _ := hs
  clear hcell hs
  go_enter Tryz.func51, Tryz.ntmps51
  go_wp2_with (go_at_call 95; refine (didx_none g o cap ss _ hn HC.out HS.out).mono ?_; rintro e w' ⟨rfl, rfl⟩)
  go_ret
  exact ⟨rfl, rfl⟩

set_option maxHeartbeats 1000000 in
theorem dcf_some (g o cap : Nat) (ss : List ByteArray) (w : World) (hn : ss.length ≤ 4611686018427387904) (hcell : ∀ j (hj : j < ss.length), w.cell? ⟨g, o + j, none⟩ = some (.string ss[j])) (hs : ∃ s ∈ ss, 100000 < s.size) :
    Calls Tryz.prog 51 #[.slice (some ⟨g, o, none⟩) ss.length cap, .func (.func 57) #[] #[]] w fun e w' => e = .returned (.bool true) ∧ w' = w := by
  have HC : Hid _ := hcell
  have HS : Hid _ := hs
  clear hcell hs
  go_enter Tryz.func51, Tryz.ntmps51
  go_wp2_with (go_at_call 95; refine (didx_some g o cap ss _ hn HC.out HS.out).mono ?_; rintro e w' ⟨⟨k, rfl⟩, rfl⟩)
  go_ret
  exact ⟨rfl, rfl⟩

set_option maxHeartbeats 1000000 in
set_option maxRecDepth 100000 in
theorem dcf_zero (a : Option Addr) (cap : Nat) (w : World) :
    Calls Tryz.prog 51 #[.slice a 0 cap, .func (.func 57) #[] #[]] w fun e w' => e = .returned (.bool false) ∧ w' = w := by
  go_enter Tryz.func51, Tryz.ntmps51
  go_wp2
  refine wp_loop_rounds 1 ?_
  rw [rounds_succ]
  go_wp2
  go_ret
  exact ⟨rfl, rfl⟩
end Go.Proofs.YtcdgdmhlbgbklaaGreatDoor.Dg

/- A law whose row lists variables of the program: its wrap, the world's shape kept. -/
namespace Go.Proofs.YtcdgdmhlbgbklaaGreatDoor.Dg
open Go.ChangeShapes Go.WideShapes Go.ChangeAt Go.RowKit

/-- What is asked of a call in a world that can be met. -/
def Meets {H : Type} (enc : TypeId × Value → H) (f : FuncId) (fn : Func) (s : ChangeSpec) (laid : List (String × DataW Unit)) : Prop :=
  ∀ (W : World) (base : Nat) (args : Array Value) (ds gs : List (DataW H)) (before : List MemPlace),
    (∀ (j : Nat) t v, fn.params[j]? = some t → args[j]? = some v → Value.okWide Tryz.prog W .any base t v) →
    DataW.Whole enc Tryz.prog fn.params.toList s.vars false W args.toList ds gs before →
    (DataW.weightsEach Tryz.prog (fn.params.toList ++ s.plain.varTypes Tryz.prog) (ds ++ gs)).all (· ≤ reachBytes) = true →
    laidMetH Tryz.prog laid W → W.ShapedOpen Tryz.prog →
    Calls Tryz.prog f args W fun e W' => ∃ v, e = .returned v ∧ s.post enc Tryz.prog fn false true false false W args v W'

set_option maxRecDepth 100000 in
theorem returns_laid {H : Type} {enc : TypeId × Value → H} {os : Os} {f : FuncId} {fn : Func} {s : ChangeSpec} {conds : List PathCond} {laid : List (String × DataW Unit)}
    (own : ownKnob Tryz.prog.godebug = none) (started : os.Started) (noInit : Tryz.checked.prog.inits.idxOf? f = none) (hfn : Tryz.checked.prog.funcs[f]? = some fn)
    (start : ∃ (w : World) (tape : Tape) (i : Input), w.os = os ∧ (w.forCall tape i).Shaped Tryz.checked.prog ∧ i.vars = [] ∧ Input.okWide Tryz.checked.prog (w.forCall tape i) .any w.heap.size f i ∧
      ((s.pre enc Tryz.checked.prog fn conds false (w.forCall tape i).memory i.args ∧ laidMetH Tryz.prog laid (w.forCall tape i).memory) ∧ sizedMet enc Tryz.checked.prog fn (OpenSpec.ofChange s) false (w.forCall tape i).memory i.args) ∧ Assume.holds {} Tryz.checked.prog (lone (Frame.enter Tryz.checked.prog f i.args .normal) [] (w.forCall tape i)))
    (meets : Meets enc f fn s laid) :
    ReturnsInHanded {} Tryz.checked os f .any (fun w args => (s.pre enc Tryz.prog fn conds false w args ∧ laidMetH Tryz.prog laid w) ∧ sizedMet enc Tryz.prog fn (OpenSpec.ofChange s) false w args) (s.post enc Tryz.prog fn false true false false) := by
  refine returnsInHanded_of_calls own started noInit start fun w tape i _ shape _ wide met _ => ?_
  obtain ⟨_, _, _, fn', h, _, _, _, _, vals⟩ := wide
  cases Option.some.inj (h.symm.trans hfn)
  obtain ⟨⟨⟨ds, gs, before, whole, _⟩, lies⟩, sized⟩ := met
  refine (meets (w.forCall tape i) w.heap.size i.args ds gs before vals (DataW.Whole.of_heap (w' := w.forCall tape i) (by rfl) whole) (sized.weights whole) (laidMetH.of_heap (by rfl) lies) shape).mono ?_
  rintro e W' ⟨v, rfl, post⟩
  exact ChangeSpec.post_blind post
end Go.Proofs.YtcdgdmhlbgbklaaGreatDoor.Dg

/- Lists of texts that came in, and the program's Root of them. -/
namespace Go.Proofs.YtcdgdmhlbgbklaaGreatDoor.Dg
open Go.ChangeShapes Go.WideShapes Go.ChangeAt Go.RowKit
open Go.ChangeMaps (open_string shut_string)

theorem laidOut : laidOutB Tryz.prog = true := by kernel_rfl
theorem bytesS : Tryz.prog.bytesOf 9 = 16 := by kernel_rfl

/-- A slice of these texts. -/
def Tx (w : World) (v : Value) (ss : List ByteArray) : Prop :=
  ss.length ≤ 4611686018427387904 ∧ ((ss = [] ∧ ∃ a cap, v = .slice a 0 cap) ∨ (0 < ss.length ∧ ∃ g o cap, v = .slice (some ⟨g, o, none⟩) ss.length cap ∧ ss.length ≤ cap ∧ Row w g o ss))
def okD (ss : List ByteArray) : Prop := ss.length ≤ 2000 ∧ ∀ s ∈ ss, s.size ≤ 100000
theorem Tx.up {w w' : World} {v : Value} {ss : List ByteArray} (h : Tx w v ss) (hb : Below w.heap.size w w') : Tx w' v ss := by
  refine ⟨h.1, ?_⟩
  rcases h.2 with h1 | ⟨h0, g, o, cap, hv, hc, hr⟩
  · exact Or.inl h1
  · exact Or.inr ⟨h0, g, o, cap, hv, hc, hr.up hb (World.block_lt_of_cell? w ⟨g, o + 0, none⟩ (hr 0 h0))⟩
theorem Tx.shape {w : World} {v : Value} {ss : List ByteArray} (h : Tx w v ss) : ∃ a cap, v = .slice a ss.length cap := by
  rcases h.2 with ⟨rfl, a, cap, hv⟩ | ⟨_, g, o, cap, hv, _⟩
  · exact ⟨a, cap, hv⟩
  · exact ⟨_, cap, hv⟩
theorem Tx.cf {w : World} {v : Value} {ss : List ByteArray} (h : Tx w v ss) (b : Bool) (hb : b = true ↔ ∃ s ∈ ss, 100000 < s.size) :
    Calls Tryz.prog 51 #[v, .func (.func 57) #[] #[]] w fun e w' => e = .returned (.bool b) ∧ w' = w := by
  rcases h.2 with ⟨rfl, a, cap, rfl⟩ | ⟨h0, g, o, cap, rfl, hc, hr⟩
  · cases b with
    | true => obtain ⟨s, hs, _⟩ := hb.1 rfl; cases hs
    | false => exact dcf_zero a cap w
  · cases b with
    | true => exact dcf_some g o cap ss w h.1 hr (hb.1 rfl)
    | false =>
      refine dcf_none g o cap ss w h.1 hr fun s hs => ?_
      rcases Nat.lt_or_ge 100000 s.size with h2 | h2
      · exact absurd (hb.2 ⟨s, hs, h2⟩) (by simp)
      · exact h2

set_option maxHeartbeats 1000000 in
theorem tooMany_any (v : Value) (ss : List ByteArray) (w : World) (h : Tx w v ss) (b : Bool) (hb : b = true ↔ ¬ okD ss) :
    Calls Tryz.prog 24 #[v] w fun e w' => e = .returned (.bool b) ∧ w' = w := by
  have H : Hid (Tx w v ss) := h
  obtain ⟨a, cap, rfl⟩ := h.shape
  by_cases hl : ss.length ≤ 2000
  · have hli : (ss.length : Int) ≤ 2000 := by omega
    have HC : Hid (Calls Tryz.prog 51 #[.slice a ss.length cap, .func (.func 57) #[] #[]] w fun e w' => e = .returned (.bool b) ∧ w' = w) := H.out.cf b ⟨fun hbt => by
        have := hb.1 hbt
        refine Classical.byContradiction fun hne => this ⟨hl, fun s hs => Nat.le_of_not_lt fun h2 => hne ⟨s, hs, h2⟩⟩,
      fun ⟨s, hs, h2⟩ => hb.2 fun hok => by have := hok.2 s hs; omega⟩
    clear hb h
    go_enter Tryz.func24, Tryz.ntmps24
    go_wp2_with fail
    refine HC.out.mono ?_
    rintro e w' ⟨rfl, rfl⟩
    go_wp2
    go_ret
    refine ⟨?_, rfl⟩
    simp
    omega
  · have hli : (2000 : Int) < (ss.length : Int) := by omega
    have hbt : b = true := hb.2 fun hok => hl hok.1
    subst hbt
    clear hb h
    go_enter Tryz.func24, Tryz.ntmps24
    go_wp2
    go_ret
    exact ⟨rfl, rfl⟩

theorem root_tx (v : Value) (ss : List ByteArray) (w : World) (h : Tx w v ss) (hok : okD ss) (hr : Roots w) :
    Calls Tryz.prog 59 #[v] w fun e w' => e = .returned (.string (rootB ss)) ∧ Below w.heap.size w w' := by
  rcases h.2 with ⟨rfl, a, cap, rfl⟩ | ⟨h0, g, o, cap, rfl, hc, hrow⟩
  · exact root_zero a cap w hr
  · exact root_any ss.length g o cap ss w (Nat.le_refl _) h0 hok.1 hc hok.2 hrow hr


set_option maxRecDepth 100000 in
/-- A slice of texts that came in. -/
theorem arg_tx {H : Type} {enc : TypeId × Value → H} {W : World} {v : Value} {d : DataW H} {p : List MemPlace} {base : Nat}
    (hv : Value.okWide Tryz.prog W .any base 22 v) (h : DataW.Trod enc Tryz.prog W 0 (fun _ => true) true 22 v d p) (hr : ∀ elems sp, d = .slice elems sp → elems.length ≤ 4611686018427387904) : ∃ ss, Tx W v ss := by
  obtain ⟨a, len, cap, rfl⟩ := okWide_slice Tryz.underlying22 hv
  obtain ⟨fuel, hf⟩ := h
  rcases open_strings Tryz.underlying22 Tryz.underlying9 (by kernel_rfl) hf with ⟨hcs, _⟩ | ⟨x, l, c, ss, hcs, _, hl, hm, hz, hx, hcell, hws⟩
  · simp [Value.cells] at hcs
    obtain ⟨rfl, rfl, rfl⟩ := hcs
    exact ⟨[], by decide, Or.inl ⟨rfl, none, 0, rfl⟩⟩
  · simp [Value.cells] at hcs
    obtain ⟨rfl, rfl, rfl⟩ := hcs
    have hz' : ss.length = cap := by simpa using hz
    have hlen : (ss.take len).length = len := by rw [List.length_take]; omega
    have hb : len ≤ 4611686018427387904 := by
      have := hr _ _ (congrArg Prod.fst hx)
      simp [Go.ChangeShapes.strs] at this
      omega
    by_cases h0 : len = 0
    · exact ⟨[], by decide, Or.inl ⟨rfl, some x, cap, by rw [h0]⟩⟩
    · refine ⟨ss.take len, by rw [hlen]; exact hb, Or.inr ⟨by omega, ?_⟩⟩
      obtain ⟨b, off, spot⟩ := x
      have hspot : spot = none := by simpa [Addr.add] using World.cell?_spot (hcell 0 (by omega))
      subst hspot
      refine ⟨b, off, cap, by rw [hlen], by omega, fun j hj => ?_⟩
      rw [hlen] at hj
      rw [← Go.WideShapes.add_plain, hcell j (by omega)]
      simp [List.getD, List.getElem?_eq_getElem (show j < ss.length by omega)]
theorem arg_len {H : Type} {ts : List TypeId} {ds : List (DataW H)} (hsz : (DataW.weightsEach Tryz.prog ts ds).all (· ≤ reachBytes) = true) (j : Nat) (d : DataW H) (ht : ts[j]? = some 22) (hd : ds[j]? = some d) :
    ∀ elems sp, d = .slice elems sp → elems.length ≤ 4611686018427387904 := fun elems sp he => by
  have h1 := sized_slice hsz (j := j) (t := 22) ht (by rw [hd, he]) Tryz.underlying22
  have h2 := reachBytes_lt
  rw [bytesS] at h1
  omega
end Go.Proofs.YtcdgdmhlbgbklaaGreatDoor.Dg

/- The document's own CheckList, LeafOf, RootOf. -/
namespace Go.Proofs.YtcdgdmhlbgbklaaGreatDoor.Dg
open Go.RowKit

set_option maxHeartbeats 1000000 in
theorem LeafOf_any (s : ByteArray) (w : World) (hs : s.size ≤ 100000) :
    Calls Tryz.prog 74 #[.string s] w fun e w' => e = .returned (.string (leafB s)) ∧ Below w.heap.size w w' := by
  obtain ⟨y, hy⟩ : ∃ y : ByteArray, y = ⟨(0 :: s.data.toList).toArray⟩ := ⟨_, rfl⟩
  have hyz : y.size = s.size + 1 := by rw [hy, d_size (s := ⟨(0 :: s.data.toList).toArray⟩) (l := 0 :: s.data.toList) rfl, List.length_cons, s_len]
  have k1 := catS ⟨#[0]⟩ s y (by rw [hy]; rfl) (by have : (⟨#[0]⟩ : ByteArray).size = 1 := rfl; omega)
  have HSU : Hid (∀ W : World, Calls Tryz.prog 73 #[.string y] W fun e w' => e = .returned (.string (leafB s)) ∧ Below W.heap.size W w') := fun W => by
    unfold leafB sm
    rw [sum_plain, ← hy]
    exact Sum_doc y W (by omega)
  generalize leafB s = r at HSU
  have hcv : (convert 125 9 (.slice (some ⟨w.heap.size, 0, none⟩) 1 1)).run Tryz.prog (w.alloc (.cells #[.int .u8 0] 5)) = .ok (.string ⟨#[0]⟩) (w.alloc (.cells #[.int .u8 0] 5)) :=
    run_convert_bytes_back (w.alloc (.cells #[.int .u8 0] 5)) 125 9 5 ⟨w.heap.size, 0, none⟩ 1 [0] Tryz.underlying125 Tryz.underlying5 Tryz.underlying9 fun j hj => by
      rw [add0C]
      match j, hj with
      | 0, _ => exact al_atC w _ _ _ 0 _ rfl rfl
  clear hs hy hyz
  go_enter Tryz.func74, Tryz.ntmps74
  go_wp2_with fail
  refine (HSU.out _).mono ?_
  rintro e w2 ⟨rfl, hb2⟩
  have B2 : Hid (Below w.heap.size w w2) := bl_tr (bl_al (Below.refl _ _) _) hb2
  clear hb2
  go_wp2
  go_ret
  exact ⟨rfl, B2.out⟩

/-- Texts, as cells in a row. -/
def scs (l : List ByteArray) : List Value := l.map Value.string
theorem scs_get (l : List ByteArray) (j : Nat) (hj : j < l.length) : (scs l)[j]? = some (.string l[j]) := by simp [scs, hj]
theorem row_of_own {w : World} {B g cap n : Nat} {xs : List ByteArray} (h : w.ownsRow B 9 1 (.slice (some ⟨g, 0, none⟩) n cap) n (scs xs)) (hn : xs.length = n) : Row w g 0 xs := fun j hj => by
  rw [Nat.zero_add]
  exact (h.cellAt j (by omega)).trans (scs_get xs j hj)
theorem level_dig : ∀ (n : Nat) (l : List ByteArray), l.length ≤ n → (∀ x ∈ l, digOk x = true) → ∀ x ∈ level l, digOk x = true := by
  intro n
  induction n with
  | zero => intro l h hd; match l, h with | [], _ => simp [level]
  | succ n ih =>
    intro l h hd
    match l, h with
    | [], _ => simp [level]
    | [a], _ => intro x hx; exact hd x (by simpa [level] using hx)
    | a :: b :: r, h =>
      simp only [List.length_cons] at h
      intro x hx
      simp only [level, List.mem_cons] at hx
      rcases hx with rfl | hx
      · exact sm_dig _
      · exact ih r (by omega) (fun y hy => hd y (by simp [hy])) x hx
/-- What of a level is made when one has come so far. -/
theorem level_take (xs : List ByteArray) (k : Nat) (h : 2 * k + 1 < xs.length) : level (xs.take (2 * (k + 1))) = level (xs.take (2 * k)) ++ [pairB xs[2 * k] xs[2 * k + 1]] := by
  have e : xs.take (2 * (k + 1)) = xs.take (2 * k) ++ [xs[2 * k], xs[2 * k + 1]] := by
    rw [show 2 * (k + 1) = 2 * k + 1 + 1 from by omega, List.take_succ_eq_append_getElem h, List.take_succ_eq_append_getElem (by omega), List.append_assoc]
    rfl
  rw [e, level_app _ _ _ (Nat.le_refl _) (by rw [List.length_take]; omega)]
  congr 1
theorem level_last (xs : List ByteArray) (k : Nat) (h : 2 * k + 1 = xs.length) : level xs = level (xs.take (2 * k)) ++ [xs[2 * k]'(by omega)] := by
  have e : xs = xs.take (2 * k) ++ [xs[2 * k]'(by omega)] := by
    conv => lhs; rw [← List.take_length (l := xs), ← h, List.take_succ_eq_append_getElem (by omega)]
  conv => lhs; rw [e]
  rw [level_app _ _ _ (Nat.le_refl _) (by rw [List.length_take]; omega)]
  congr 1
end Go.Proofs.YtcdgdmhlbgbklaaGreatDoor.Dg

/- The document's own RootOf. -/
namespace Go.Proofs.YtcdgdmhlbgbklaaGreatDoor.Dg
open Go.RowKit

theorem own_below {w w' : World} {base : Nat} {e : TypeId} {size : Nat} {v : Value} {n : Nat} {xs : List Value} (h : w.ownsRow base e size v n xs) (hb : Below w.heap.size w w') : w'.ownsRow base e size v n xs := by
  refine ⟨h.1, ?_⟩
  rcases h.2 with hn | ⟨g, cap, cur, rfl, hg, hgg, rest⟩
  · exact .inl hn
  · exact .inr ⟨g, cap, cur, rfl, hg, (hb.block g (Array.getElem?_eq_some_iff.1 hgg).1).trans hgg, rest⟩
theorem new_one (W : World) (x : ByteArray) : ∀ (j : Nat) (u : Value), [Value.string x][j]? = some u → (W.alloc (.cells #[.string x] 9)).cell? ((⟨W.heap.size, 0, none⟩ : Addr).add j) = some u := by
  intro j u hj
  match j, hj with
  | 0, hj =>
    simp at hj
    subst hj
    exact al_atC W _ _ _ 0 _ rfl rfl
theorem scs_snoc (l : List ByteArray) (x : ByteArray) : scs (l ++ [x]) = scs l ++ [.string x] := by simp [scs]
theorem tree_single (xs : List ByteArray) (h : xs.length = 1) : tree xs = xs[0]'(by omega) := by
  match xs, h with
  | [x], _ => exact tree_one x
theorem own_down {w : World} {B B' : Nat} {e : TypeId} {size : Nat} {v : Value} {n : Nat} {xs : List Value} (h : w.ownsRow B e size v n xs) (hB : B' ≤ B) : w.ownsRow B' e size v n xs := by
  refine ⟨h.1, ?_⟩
  rcases h.2 with h1 | ⟨g, cap, cur, hv, hb, hr⟩
  · exact Or.inl h1
  · exact Or.inr ⟨g, cap, cur, hv, Nat.le_trans hB hb, hr⟩

set_option maxHeartbeats 4000000 in
set_option maxRecDepth 100000 in
theorem RootOf_any (v : Value) (ss : List ByteArray) (w : World) (h : Tx w v ss) (hok : okD ss) :
    Calls Tryz.prog 31 #[v] w fun e w' => e = .returned (.string (rootB ss)) ∧ Below w.heap.size w w' := by
  rcases h.2 with ⟨rfl, a, cap, rfl⟩ | ⟨h0, g, o, cap, rfl, hc, hrow⟩
  · have HS : Hid (∀ W : World, Calls Tryz.prog 73 #[.string ⟨#[]⟩] W fun e w' => e = .returned (.string (rootB [])) ∧ Below W.heap.size W w') := fun W => by
      show Calls _ _ _ _ fun e w' => e = .returned (.string (sumB ⟨#[]⟩ sq8 cuL)) ∧ _
      rw [sum_plain]
      exact Sum_doc _ W (by decide)
    generalize rootB [] = y at HS
    clear h hok
    go_enter Tryz.func31, Tryz.ntmps31
    go_wp2_with fail
    refine (HS.out _).mono ?_
    rintro e w1 ⟨rfl, hb1⟩
    have B1 : Hid (Below _ _ w1) := hb1
    clear hb1
    go_wp2
    go_ret
    exact ⟨rfl, B1.out⟩
  · obtain ⟨i0, hi, hz0, hz1, hz2⟩ := info_p infS
    have HR : Hid (Row w g o ss ∧ g < w.heap.size) := ⟨hrow, World.block_lt_of_cell? w ⟨g, o + 0, none⟩ (hrow 0 h0)⟩
    have HOK : Hid (okD ss) := hok
    have hli : (ss.length : Int) ≤ 2000 := by have := hok.1; omega
    have hl0 : (0 : Int) < (ss.length : Int) := by omega
    have HT : Hid (rootB ss = tree (ss.map leafB)) := rootB_tree _ ss rfl h0
    have HLD : Hid (∀ x ∈ ss.map leafB, digOk x = true) := fun x hx => by
      obtain ⟨s, _, rfl⟩ := List.mem_map.1 hx
      exact sm_dig _
    rw [HT.out]
    obtain ⟨lv, hlv⟩ : ∃ lv, lv = ss.map leafB := ⟨_, rfl⟩
    rw [← hlv] at HLD
    rw [← hlv]
    have HLV : Hid (lv = ss.map leafB ∧ lv.length = ss.length) := ⟨hlv, by rw [hlv]; exact List.length_map _⟩
    have hne : ((ss.length : Int) == 0) = false := beq_eq_false_iff_ne.2 (by omega)
    clear h hok hrow HT hlv
    go_enter Tryz.func31, Tryz.ntmps31
    go_wp2
    go_loopw [3, 4] (fun nv i wr => ∃ k : Nat, k ≤ ss.length ∧ i = .int .i64 k ∧ wr.ownsRow w.heap.size 9 1 nv k (scs (lv.take k)) ∧ Below w.heap.size w wr) (fun _ i _ => ss.length - (intOf i).toNat)
    case atStart => exact ⟨0, by omega, rfl, World.ownsRow_nil _ _ _ _, Below.refl _ _⟩
    case round =>
      obtain ⟨k, hk, rfl, hown, hbl⟩ := hrel
      have HV : Hid (wr.ownsRow w.heap.size 9 1 u3 k (scs (lv.take k)) ∧ Below w.heap.size w wr) := ⟨hown, hbl⟩
      clear hown hbl
      by_cases hlt : k < ss.length
      · have hki : (k : Int) < (ss.length : Int) := by omega
        have c0 := (HR.out.1.up HV.out.2 HR.out.2) k hlt
        have HLF : Hid (∀ W : World, Calls Tryz.prog 74 #[.string ss[k]] W fun e w' => e = .returned (.string (leafB ss[k])) ∧ Below W.heap.size W w') := fun W => LeafOf_any _ W (HOK.out.2 _ (List.getElem_mem hlt))
        have HN : Hid (lv.take (k + 1) = lv.take k ++ [leafB ss[k]]) := by
          show _ = _
          rw [HLV.out.1, ← List.map_take, ← List.map_take, List.take_succ_eq_append_getElem hlt, List.map_append]
          rfl
        have hk2 : k ≤ 2000 := by have := HOK.out.1; omega
        generalize leafB ss[k] = lf at HLF HN
        generalize ss[k] = x at c0 HLF
        go_wp2_with fail
        refine (HLF.out _).mono ?_
        rintro e w1 ⟨rfl, hb1⟩
        have HV1 : Hid (w1.ownsRow w.heap.size 9 1 u3 k (scs (lv.take k)) ∧ Below w.heap.size w w1) := ⟨own_below HV.out.1 hb1, bl_tr HV.out.2 hb1⟩
        clear hb1 c0
        go_wp2_with (at_builtin; refine wpList_append_own _ rfl _ _ 22 rfl w.heap.size 9 i0 (.string ⟨#[]⟩) 1 16 Tryz.underlying22 hi hz0 hz1 hz2 rfl (by decide) _ _ _ rfl (HV1.out.1.alloc _) ⟨_, 0, none⟩ 1 1 [.string lf] rfl rfl ?c1 ?c2 ?c3 ?c4 ?c5 ?_)
        case c1 => exact new_one w1 lf
        case c2 => intro u hu; simp at hu; subst hu; rfl
        case c3 => unfold maxLen; omega
        case c4 => omega
        case c5 => rw [World.size_alloc]; have := HV1.out.2.size; omega
        intro v' w4 hown4 hg4 _
        have HV4 : Hid (w4.ownsRow w.heap.size 9 1 v' (k + 1) (scs (lv.take (k + 1))) ∧ Below w.heap.size w w4) := ⟨by rw [HN.out, scs_snoc]; exact hown4, (HV1.out.2.alloc HV1.out.2.size _).grown hg4 (by rw [World.size_alloc]; have := HV1.out.2.size; omega) (fun j hj => (HV1.out.1.lt j hj).1)⟩
        clear hown4 hg4
        go_wp2
        refine ⟨⟨k + 1, by omega, by go_num, HV4.out⟩, by simp [intOf]; omega⟩
      · obtain rfl : k = ss.length := by omega
        rw [← HLV.out.2, List.take_length, HLV.out.2] at HV
        have hss : ss.length ≤ 2000 := HOK.out.1
        clear HR hlt
        go_wp2
        go_loopw [3] (fun nv wr => ∃ (xs : List ByteArray) (n : Nat), xs.length = n ∧ 0 < n ∧ n ≤ 2000 ∧ tree xs = tree lv ∧ (∀ x ∈ xs, digOk x = true) ∧ wr.ownsRow w.heap.size 9 1 nv n (scs xs) ∧ Below w.heap.size w wr) (fun nv _ => lenV nv)
        case atStart => exact ⟨lv, _, HLV.out.2, by omega, by omega, rfl, HLD.out, HV.out⟩
        case round =>
          clear HV
          obtain ⟨xs, n, hn, hn0, hn2, htr, hdg, hown, hbl⟩ := hrel
          obtain ⟨g1, cap1, hug, hgb, hgs⟩ := hown.form hn0
          subst hug
          obtain ⟨W, hWW⟩ : ∃ W : World, W = wr := ⟨_, rfl⟩
          subst hWW
          have HGS : Hid (g1 < W.heap.size) := hgs
          have HV : Hid (tree xs = tree lv ∧ (∀ x ∈ xs, digOk x = true) ∧ xs.length = n ∧ Row _ g1 0 xs ∧ Below w.heap.size w _) := ⟨htr, hdg, hn, row_of_own hown hn, hbl⟩
          clear htr hdg hn hown hbl
          have hni : (n : Int) ≤ 2000 := by omega
          by_cases h1 : n = 1
          · subst h1
            have c0 := HV.out.2.2.2.1 0 (by rw [HV.out.2.2.1]; decide)
            have HTX : Hid (tree lv = xs[0]'(by rw [HV.out.2.2.1]; decide)) := HV.out.1.symm.trans (tree_single xs HV.out.2.2.1)
            generalize xs[0]'(by rw [HV.out.2.2.1]; decide) = x at c0 HTX
            go_wp2
            go_ret
            exact ⟨by rw [HTX.out]; rfl, HV.out.2.2.2.2⟩
          · have h1i : (1 : Int) < (n : Int) := by omega
            have HWS : Hid (w.heap.size ≤ W.heap.size) := HV.out.2.2.2.2.size
            clear hgb hgs
            go_wp2
            go_loopw [5, 6] (fun xv i wy => ∃ k : Nat, 2 * k ≤ n + 1 ∧ i = .int .i64 (2 * (k : Int)) ∧ wy.ownsRow W.heap.size 9 1 xv k (scs (level (xs.take (2 * k)))) ∧ Below W.heap.size W wy) (fun _ i _ => n + 2 - (intOf i).toNat)
            case atStart => exact ⟨0, by omega, rfl, World.ownsRow_nil _ _ _ _, Below.refl _ _⟩
            case round =>
              obtain ⟨k, hk, rfl, hown, hbl⟩ := hrel
              have HY : Hid (World.ownsRow _ W.heap.size 9 1 _ k (scs (level (xs.take (2 * k)))) ∧ Below W.heap.size W _) := ⟨hown, hbl⟩
              clear hown hbl
              have hki : (k : Int) ≤ 2000 := by omega
              by_cases hlt : 2 * k < n
              · have d0 : 2 * (k : Int) < (n : Int) := by omega
                by_cases hlt2 : 2 * k + 1 < n
                · have d1 : 2 * (k : Int) + 1 < (n : Int) := by omega
                  have c0 := fun (Y : World) (hY : Below W.heap.size W Y) => (HV.out.2.2.2.1.up hY HGS.out) (2 * k) (by rw [HV.out.2.2.1]; exact hlt)
                  have c1 := fun (Y : World) (hY : Below W.heap.size W Y) => (HV.out.2.2.2.1.up hY HGS.out) (2 * k + 1) (by rw [HV.out.2.2.1]; exact hlt2)
                  simp only [Nat.zero_add] at c0 c1
                  have HN : Hid (level (xs.take (2 * (k + 1))) = level (xs.take (2 * k)) ++ [pairB (xs[2 * k]'(by rw [HV.out.2.2.1]; exact hlt)) (xs[2 * k + 1]'(by rw [HV.out.2.2.1]; exact hlt2))]) := level_take xs k (by rw [HV.out.2.2.1]; exact hlt2)
                  have HP : Hid (∀ Y : World, Calls Tryz.prog 75 #[.string (xs[2 * k]'(by rw [HV.out.2.2.1]; exact hlt)), .string (xs[2 * k + 1]'(by rw [HV.out.2.2.1]; exact hlt2))] Y fun e w' => e = .returned (.string (pairB (xs[2 * k]'(by rw [HV.out.2.2.1]; exact hlt)) (xs[2 * k + 1]'(by rw [HV.out.2.2.1]; exact hlt2)))) ∧ Below Y.heap.size Y w') := fun Y => PairOf_any _ _ Y (HV.out.2.1 _ (List.getElem_mem _)) (HV.out.2.1 _ (List.getElem_mem _))
                  generalize pairB (xs[2 * k]'(by rw [HV.out.2.2.1]; exact hlt)) (xs[2 * k + 1]'(by rw [HV.out.2.2.1]; exact hlt2)) = pr at HN HP
                  generalize xs[2 * k]'(by rw [HV.out.2.2.1]; exact hlt) = x0 at c0 HP
                  generalize xs[2 * k + 1]'(by rw [HV.out.2.2.1]; exact hlt2) = x1 at c1 HP
                  have HS : Hid (∀ Y : World, Below W.heap.size W Y → Y.cell? ⟨g1, 2 * k, none⟩ = some (.string x0) ∧ Y.cell? ⟨g1, 2 * k + 1, none⟩ = some (.string x1)) := fun Y hY => ⟨c0 Y hY, c1 Y hY⟩
                  have t0 : (2 * (k : Int)).toNat = 2 * k := by omega
                  have t1 : (2 * (k : Int) + 1).toNat = 2 * k + 1 := by omega
                  have b0 : (0 : Int) ≤ 2 * (k : Int) := by omega
                  have b1 : (0 : Int) ≤ 2 * (k : Int) + 1 := by omega
                  have q1 : k + 1 ≤ maxLen := by unfold maxLen; omega
                  have q2 : (k + 1) * 16 ≤ 140737488355328 := by omega
                  have hone : ∀ u ∈ [Value.string pr], u.oneCell' = true := by intro u hu; simp at hu; subst hu; rfl
                  have j1 : IntKind.i64.wrap (2 * (k : Int) + 1) = 2 * (k : Int) + 1 := wr1 k (by omega)
                  clear c0 c1
                  go_wp2
                  go_region_held3 (fun w' => w'.cell? ⟨g1, 2 * k, none⟩ = some (.string x0) ∧ w'.cell? ⟨g1, 2 * k + 1, none⟩ = some (.string x1))
                    (first | (exact HS.out _ HY.out.2.drew) | (exact HS.out _ (bl_tr HY.out.2.drew hb1)) | (exact HS.out _ (bl_al (bl_tr HY.out.2.drew hb1) _)) | (exact HS.out _ ((bl_al (bl_tr HY.out.2.drew hb1) _).grown hgrow (bl_al (bl_tr HY.out.2.drew hb1) _).size (fun j hj => (HY.out.1.lt j hj).1))) | fail)
                    (first
                      | (go_at_call 75; refine (HP.out _).mono ?_; rintro e w1 ⟨rfl, hb1⟩)
                      | ((refine step_append_lies (w1.alloc (.cells #[.string pr] 9)) (by rfl) (Operand.tmp 39) (Operand.tmp 50) 22 (by rfl) W.heap.size 9 i0 (.string ⟨#[]⟩) 1 16 Tryz.underlying22 hi hz0 hz1 hz2 rfl (by decide) u5 k (scs (level (xs.take (2 * k)))) (by rfl) ((own_below (w := wr.drew) HY.out.1 hb1).alloc _) ⟨w1.heap.size, 0, none⟩ 1 1 [.string pr] (by rfl) rfl (new_one w1 pr) hone (by decide) q1 q2 (bl_al (bl_tr HY.out.2.drew hb1) _).size (w1.heap.size + 1) (by rw [World.size_alloc]) ?_; intro g5 cap5 w5 hown5 hgrow hat hltg))
                      | fail)
                  all_goals
                    have HV5 : Hid (w5.ownsRow W.heap.size 9 1 (.slice (some ⟨g5, 0, none⟩) (k + 1) cap5) (k + 1) (scs (level (xs.take (2 * (k + 1))))) ∧ Below W.heap.size W w5) := ⟨by rw [HN.out, scs_snoc]; exact hown5, (bl_al (bl_tr HY.out.2.drew hb1) _).grown hgrow (bl_al (bl_tr HY.out.2.drew hb1) _).size (fun j hj => (HY.out.1.lt j hj).1)⟩
                    clear hown5 hgrow hat hltg j1
                    go_wp2
                    refine ⟨⟨k + 1, by omega, by go_num, HV5.out⟩, by simp [intOf]; omega⟩
                · have d1 : (n : Int) ≤ 2 * (k : Int) + 1 := by omega
                  have c0 := (HV.out.2.2.2.1.up HY.out.2 HGS.out) (2 * k) (by rw [HV.out.2.2.1]; exact hlt)
                  rw [Nat.zero_add] at c0
                  have HN : Hid (level (xs.take (2 * (k + 1))) = level (xs.take (2 * k)) ++ [xs[2 * k]'(by rw [HV.out.2.2.1]; exact hlt)]) := by
                    show _ = _
                    rw [List.take_of_length_le (by rw [HV.out.2.2.1]; omega)]
                    exact level_last xs k (by rw [HV.out.2.2.1]; omega)
                  generalize xs[2 * k]'(by rw [HV.out.2.2.1]; exact hlt) = x at c0 HN
                  have t0 : (2 * (k : Int)).toNat = 2 * k := by omega
                  have b0 : (0 : Int) ≤ 2 * (k : Int) := by omega
                  go_wp2_with (at_builtin; refine wpList_append_own _ rfl _ _ 22 rfl W.heap.size 9 i0 (.string ⟨#[]⟩) 1 16 Tryz.underlying22 hi hz0 hz1 hz2 rfl (by decide) _ _ _ rfl (HY.out.1.alloc _) ⟨_, 0, none⟩ 1 1 [.string x] rfl rfl ?c1 ?c2 ?c3 ?c4 ?c5 ?_)
                  case c1 => exact new_one _ x
                  case c2 => intro u hu; simp at hu; subst hu; rfl
                  case c3 => unfold maxLen; omega
                  case c4 => omega
                  case c5 => rw [World.size_alloc]; have := HY.out.2.size; omega
                  intro v' w4 hown4 hg4 _
                  have HV4 : Hid (w4.ownsRow W.heap.size 9 1 v' (k + 1) (scs (level (xs.take (2 * (k + 1))))) ∧ Below W.heap.size W w4) := ⟨by rw [HN.out, scs_snoc]; exact hown4, (HY.out.2.alloc HY.out.2.size _).grown hg4 (by rw [World.size_alloc]; have := HY.out.2.size; omega) (fun j hj => (HY.out.1.lt j hj).1)⟩
                  clear hown4 hg4
                  go_wp2
                  refine ⟨⟨k + 1, by omega, by go_num, HV4.out⟩, by simp [intOf]; omega⟩
              · have d0 : (n : Int) ≤ 2 * (k : Int) := by omega
                have HLX : Hid (level (xs.take (2 * k)) = level xs ∧ (level xs).length = k) := by
                  have h3 := HV.out.2.2.1
                  refine ⟨by rw [List.take_of_length_le (by omega)], ?_⟩
                  rw [level_len _ xs (Nat.le_refl _)]
                  omega
                rw [HLX.out.1] at HY
                obtain ⟨g2, cap2, hug2, -, -⟩ := HY.out.1.form (by omega)
                subst hug2
                go_wp2
                refine ⟨⟨level xs, k, HLX.out.2, by omega, by omega, ?_, level_dig _ xs (Nat.le_refl _) HV.out.2.1, own_down HY.out.1 HWS.out, bl_tr HV.out.2.2.2.2 HY.out.2⟩, ?_⟩
                · rw [← HV.out.1]
                  exact (tree_level _ xs rfl (by rw [HV.out.2.2.1]; omega)).symm
                · simp only [lenV]
                  omega
end Go.Proofs.YtcdgdmhlbgbklaaGreatDoor.Dg

/- Proofs of texts, plain: what stands beside, from the text up. -/
namespace Go.Proofs.YtcdgdmhlbgbklaaGreatDoor.Dg
open Go.RowKit

def proofF : Nat → List ByteArray → Nat → List ByteArray
  | 0, _, _ => []
  | f + 1, ss, i => if ss.length ≤ 1 then [] else if i < side ss.length then proofF f (ss.take (side ss.length)) i ++ [rootB (ss.drop (side ss.length))] else proofF f (ss.drop (side ss.length)) (i - side ss.length) ++ [rootB (ss.take (side ss.length))]
def proofL (ss : List ByteArray) (i : Nat) : List ByteArray := proofF ss.length ss i
theorem proofF_more : ∀ f g (ss : List ByteArray) (i : Nat), ss.length ≤ f → ss.length ≤ g → proofF f ss i = proofF g ss i := by
  intro f
  induction f with
  | zero =>
    intro g ss i h1 _
    cases g with
    | zero => rfl
    | succ g => unfold proofF; rw [if_pos (by omega)]
  | succ f ih =>
    intro g ss i h1 h2
    cases g with
    | zero => unfold proofF; rw [if_pos (by omega)]
    | succ g =>
      unfold proofF
      by_cases h0 : ss.length ≤ 1
      · rw [if_pos h0, if_pos h0]
      · rw [if_neg h0, if_neg h0]
        have hl := side_lt ss.length (by omega)
        have hp := side_pos ss.length
        rw [ih g (ss.take (side ss.length)) i (by rw [List.length_take]; omega) (by rw [List.length_take]; omega), ih g (ss.drop (side ss.length)) (i - side ss.length) (by rw [List.length_drop]; omega) (by rw [List.length_drop]; omega)]
theorem proofL_one (ss : List ByteArray) (i : Nat) (h : ss.length ≤ 1) : proofL ss i = [] := by
  unfold proofL
  match hs : ss.length with
  | 0 => rfl
  | f + 1 => unfold proofF; rw [if_pos h]
theorem proofL_lo (ss : List ByteArray) (i : Nat) (h : 2 ≤ ss.length) (hi : i < side ss.length) : proofL ss i = proofL (ss.take (side ss.length)) i ++ [rootB (ss.drop (side ss.length))] := by
  obtain ⟨f, hf⟩ : ∃ f, ss.length = f + 1 := ⟨ss.length - 1, by omega⟩
  have hl := side_lt ss.length h
  have e : proofL ss i = proofF (f + 1) ss i := by unfold proofL; rw [hf]
  rw [e]
  unfold proofF
  rw [if_neg (by omega), if_pos hi]
  unfold proofL
  rw [proofF_more f _ _ i (by rw [List.length_take]; omega) (Nat.le_refl _)]
theorem proofL_hi (ss : List ByteArray) (i : Nat) (h : 2 ≤ ss.length) (hi : side ss.length ≤ i) : proofL ss i = proofL (ss.drop (side ss.length)) (i - side ss.length) ++ [rootB (ss.take (side ss.length))] := by
  obtain ⟨f, hf⟩ : ∃ f, ss.length = f + 1 := ⟨ss.length - 1, by omega⟩
  have hp := side_pos ss.length
  have e : proofL ss i = proofF (f + 1) ss i := by unfold proofL; rw [hf]
  rw [e]
  unfold proofF
  rw [if_neg (by omega), if_neg (by omega)]
  unfold proofL
  rw [proofF_more f _ _ (i - side ss.length) (by rw [List.length_drop]; omega) (Nat.le_refl _)]
theorem proofL_len : ∀ (n : Nat) (ss : List ByteArray) (i : Nat), ss.length ≤ n → 0 < ss.length → (proofL ss i).length < ss.length := by
  intro n
  induction n with
  | zero => intro ss i h h0; omega
  | succ n ih =>
    intro ss i h h0
    by_cases h1 : ss.length ≤ 1
    · rw [proofL_one ss i h1]; exact h0
    · have hl := side_lt ss.length (by omega)
      have hp := side_pos ss.length
      by_cases hi : i < side ss.length
      · rw [proofL_lo ss i (by omega) hi, List.length_append]
        have := ih (ss.take (side ss.length)) i (by rw [List.length_take]; omega) (by rw [List.length_take]; omega)
        rw [List.length_take] at this
        simp only [List.length_cons, List.length_nil]
        omega
      · rw [proofL_hi ss i (by omega) (by omega), List.length_append]
        have := ih (ss.drop (side ss.length)) (i - side ss.length) (by rw [List.length_drop]; omega) (by rw [List.length_drop]; omega)
        rw [List.length_drop] at this
        simp only [List.length_cons, List.length_nil]
        omega
theorem rootB_dig (ss : List ByteArray) : digOk (rootB ss) = true := rootF_dig _ _
theorem proofL_dig : ∀ (n : Nat) (ss : List ByteArray) (i : Nat), ss.length ≤ n → ∀ x ∈ proofL ss i, digOk x = true := by
  intro n
  induction n with
  | zero => intro ss i h x hx; rw [proofL_one ss i (by omega)] at hx; cases hx
  | succ n ih =>
    intro ss i h x hx
    by_cases h1 : ss.length ≤ 1
    · rw [proofL_one ss i h1] at hx; cases hx
    · have hl := side_lt ss.length (by omega)
      have hp := side_pos ss.length
      by_cases hi : i < side ss.length
      · rw [proofL_lo ss i (by omega) hi] at hx
        rcases List.mem_append.1 hx with h2 | h2
        · exact ih _ _ (by rw [List.length_take]; omega) x h2
        · simp at h2; subst h2; exact rootB_dig _
      · rw [proofL_hi ss i (by omega) (by omega)] at hx
        rcases List.mem_append.1 hx with h2 | h2
        · exact ih _ _ (by rw [List.length_drop]; omega) x h2
        · simp at h2; subst h2; exact rootB_dig _
end Go.Proofs.YtcdgdmhlbgbklaaGreatDoor.Dg

/- The program's own proof and Proof; the document's ProofOf. -/
namespace Go.Proofs.YtcdgdmhlbgbklaaGreatDoor.Dg
open Go.RowKit

theorem cut_front3 (g o n cap k : Nat) (hk : k ≤ n) (hc : n ≤ cap) (W : World) : (Instr.slice 22 (.slice (some ⟨g, o, none⟩) n cap) none (some (.int .i64 (k : Int))) (some (.int .i64 (k : Int)))).run Tryz.prog W = .ok (.slice (some ⟨g, o, none⟩) k k) W := by
  have hkc : k ≤ cap := Nat.le_trans hk hc
  simp [Instr.slice, Instr.sliceBounds, Instr.sliceBound, run_underlying Tryz.underlying22, asIntOf, hkc]
  intro _
  simp [Addr.add]

set_option maxHeartbeats 4000000 in
set_option maxRecDepth 100000 in
theorem proof_any : ∀ (f : Nat) (g o cap : Nat) (ss : List ByteArray) (i : Nat) (w : World), ss.length ≤ f → i < ss.length → ss.length ≤ 2000 → ss.length ≤ cap → (∀ s ∈ ss, s.size ≤ 100000) → Row w g o ss → Roots w →
    Calls Tryz.prog 25 #[.slice (some ⟨g, o, none⟩) ss.length cap, .int .i64 i] w fun e w' => ∃ v, e = .returned v ∧ w'.ownsRow w.heap.size 9 1 v (proofL ss i).length (scs (proofL ss i)) ∧ Below w.heap.size w w' := by
  intro f
  induction f with
  | zero => intro g o cap ss i w h1 h2; omega
  | succ f ih =>
    intro g o cap ss i w h1 h2 h3 h4 h5 h6 h7
    have hg : g < w.heap.size := World.block_lt_of_cell? w ⟨g, o + 0, none⟩ (h6 0 (by omega))
    by_cases hone : ss.length = 1
    · have hB := proofL_one ss i (by omega)
      rw [hone, hB]
      clear ih h1 h2 h3 h4 h5 h6 h7 hone hB
      go_enter Tryz.func25, Tryz.ntmps25
      go_wp2
      go_ret
      exact ⟨_, rfl, World.ownsRow_nil _ _ _ _, Below.refl _ _⟩
    · obtain ⟨i0, hi, hz0, hz1, hz2⟩ := info_p infS
      have hl := side_lt ss.length (by omega)
      have hp := side_pos ss.length
      have HF : Hid (Calls Tryz.prog 58 #[.int .i64 ss.length] w fun e w' => e = .returned (.int .i64 (side ss.length : Nat)) ∧ w' = w) := firstSide_any ss.length w (by omega)
      have hlo : i < side ss.length → proofL ss i = proofL (ss.take (side ss.length)) i ++ [rootB (ss.drop (side ss.length))] := proofL_lo ss i (by omega)
      have hhi : side ss.length ≤ i → proofL ss i = proofL (ss.drop (side ss.length)) (i - side ss.length) ++ [rootB (ss.take (side ss.length))] := proofL_hi ss i (by omega)
      have hpl := proofL_len _ ss i (Nat.le_refl _) (by omega)
      generalize side ss.length = k at hl hp hlo hhi HF
      have e1 : (ss.take k).length = k := by rw [List.length_take]; omega
      have e2 : (ss.drop k).length = ss.length - k := List.length_drop ..
      have hs1 := cut_front g o ss.length cap k (by omega) h4
      have hs2 := cut_back g o ss.length cap k hl h4
      have hn1 : ((ss.length : Int) == 1) = false := beq_eq_false_iff_ne.2 (by omega)
      have i1 : (0 : Int) ≤ (k : Int) := by omega
      have i2 : (k : Int) ≤ (ss.length : Int) := by omega
      by_cases hik : i < k
      · have hB := hlo hik
        have HP1 : Hid (∀ w', Below w.heap.size w w' → Calls Tryz.prog 25 #[.slice (some ⟨g, o, none⟩) k cap, .int .i64 i] w' fun e w'' => ∃ v, e = .returned v ∧ w''.ownsRow w.heap.size 9 1 v (proofL (ss.take k) i).length (scs (proofL (ss.take k) i)) ∧ Below w'.heap.size w' w'') := fun w' hb => by
          have := ih g o cap (ss.take k) i w' (by omega) (by omega) (by omega) (by omega) (fun s hs => h5 s (List.mem_of_mem_take hs)) ((h6.take k).up hb hg) (h7.up hb)
          rw [e1] at this
          exact this.mono fun e w'' ⟨v, a, b, c⟩ => ⟨v, a, own_down b hb.size, c⟩
        have HR2 : Hid (∀ w', Below w.heap.size w w' → Calls Tryz.prog 59 #[.slice (some ⟨g, o + k, none⟩) (ss.length - k) (cap - k)] w' fun e w'' => e = .returned (.string (rootB (ss.drop k))) ∧ Below w'.heap.size w' w'') := fun w' hb => by
          have := root_any f g (o + k) (cap - k) (ss.drop k) w' (by omega) (by omega) (by omega) (by omega) (fun s hs => h5 s (List.mem_of_mem_drop hs)) ((h6.drop k).up hb hg) (h7.up hb)
          rwa [e2] at this
        rw [hB, scs_snoc, List.length_append]
        rw [hB, List.length_append] at hpl
        simp only [List.length_cons, List.length_nil] at hpl ⊢
        generalize rootB (ss.drop k) = r at HR2
        generalize proofL (ss.take k) i = ps at HP1 hpl
        generalize hm : ps.length = m at *
        have q1 : m + 1 ≤ maxLen := by unfold maxLen; omega
        have q2 : (m + 1) * 16 ≤ 140737488355328 := by omega
        have hone' : ∀ u ∈ [Value.string r], u.oneCell' = true := by intro u hu; simp at hu; subst hu; rfl
        have hii : (i : Int) < (k : Int) := by omega
        clear ih h1 h2 h3 h5 h6 h7 hone e1 e2 hg hlo hhi hB hm
        generalize ss.length = n at *
        go_enter Tryz.func25, Tryz.ntmps25
        go_wp2_with (go_at_call 58; refine HF.out.mono ?_; rintro e w' ⟨rfl, rfl⟩)
        go_region_held3 (fun W => Below w'.heap.size w' W)
          (first | assumption | (exact (Below.refl _ _).drew) | (exact (bl_al (bl_tr (bl_tr (Below.refl _ _).drew hb1) hb2) _).grown hgrow (bl_al (bl_tr (bl_tr (Below.refl _ _).drew hb1) hb2) _).size (fun j hj => (hown1.lt j hj).1)) | (exact bl_tr (by assumption) hb2) | (exact bl_tr (by assumption) hb1) | (exact bl_al (by assumption) _) | fail)
          (first
            | (go_at_call 25; refine (HP1.out _ (by assumption)).mono ?_; rintro e w1 ⟨v1, rfl, hown1, hb1⟩)
            | (go_at_call 59; refine (HR2.out _ (by assumption)).mono ?_; rintro e w2 ⟨rfl, hb2⟩)
            | ((refine step_append_lies (w2.alloc (.cells #[.string r] 9)) (by rfl) (Operand.tmp 19) (Operand.tmp 24) 22 (by rfl) w'.heap.size 9 i0 (.string ⟨#[]⟩) 1 16 Tryz.underlying22 hi hz0 hz1 hz2 rfl (by decide) v1 m (scs ps) (by rfl) ((own_below hown1 hb2).alloc _) ⟨w2.heap.size, 0, none⟩ 1 1 [.string r] (by rfl) rfl (new_one w2 r) hone' (by decide) q1 q2 (bl_al (bl_tr (bl_tr (Below.refl _ _).drew hb1) hb2) _).size (w2.heap.size + 1) (by rw [World.size_alloc]) ?_; intro g5 cap5 w5 hown5 hgrow hat hltg))
            | fail)
        all_goals
          have B3 : Hid (Below w'.heap.size w' w5) := by assumption
          have O3 : Hid _ := hown5
          clear hown5
          go_wp2
          go_ret
          exact ⟨_, rfl, O3.out, B3.out⟩
      · have hB := hhi (by omega)
        have HP1 : Hid (∀ w', Below w.heap.size w w' → Calls Tryz.prog 25 #[.slice (some ⟨g, o + k, none⟩) (ss.length - k) (cap - k), .int .i64 ((i : Int) - (k : Int))] w' fun e w'' => ∃ v, e = .returned v ∧ w''.ownsRow w.heap.size 9 1 v (proofL (ss.drop k) (i - k)).length (scs (proofL (ss.drop k) (i - k))) ∧ Below w'.heap.size w' w'') := fun w' hb => by
          have := ih g (o + k) (cap - k) (ss.drop k) (i - k) w' (by omega) (by omega) (by omega) (by omega) (fun s hs => h5 s (List.mem_of_mem_drop hs)) ((h6.drop k).up hb hg) (h7.up hb)
          rw [e2, show ((i - k : Nat) : Int) = (i : Int) - (k : Int) from by omega] at this
          exact this.mono fun e w'' ⟨v, a, b, c⟩ => ⟨v, a, own_down b hb.size, c⟩
        have HR2 : Hid (∀ w', Below w.heap.size w w' → Calls Tryz.prog 59 #[.slice (some ⟨g, o, none⟩) k cap] w' fun e w'' => e = .returned (.string (rootB (ss.take k))) ∧ Below w'.heap.size w' w'') := fun w' hb => by
          have := root_any f g o cap (ss.take k) w' (by omega) (by omega) (by omega) (by omega) (fun s hs => h5 s (List.mem_of_mem_take hs)) ((h6.take k).up hb hg) (h7.up hb)
          rwa [e1] at this
        rw [hB, scs_snoc, List.length_append]
        rw [hB, List.length_append] at hpl
        simp only [List.length_cons, List.length_nil] at hpl ⊢
        generalize rootB (ss.take k) = r at HR2
        generalize proofL (ss.drop k) (i - k) = ps at HP1 hpl
        generalize hm : ps.length = m at *
        have q1 : m + 1 ≤ maxLen := by unfold maxLen; omega
        have q2 : (m + 1) * 16 ≤ 140737488355328 := by omega
        have hone' : ∀ u ∈ [Value.string r], u.oneCell' = true := by intro u hu; simp at hu; subst hu; rfl
        have hii : (k : Int) ≤ (i : Int) := by omega
        have hi2 : (i : Int) ≤ 2000 := by omega
        clear ih h1 h2 h3 h5 h6 h7 hone e1 e2 hg hlo hhi hB hm hik
        generalize ss.length = n at *
        go_enter Tryz.func25, Tryz.ntmps25
        go_wp2_with (go_at_call 58; refine HF.out.mono ?_; rintro e w' ⟨rfl, rfl⟩)
        have j1 : IntKind.i64.wrap ((i : Int) - (k : Int)) = (i : Int) - (k : Int) := by rw [IntKind.wrap_i64]; omega
        go_region_held3 (fun W => Below w'.heap.size w' W)
          (first | assumption | (exact (Below.refl _ _).drew) | (exact (bl_al (bl_tr (bl_tr (Below.refl _ _).drew hb1) hb2) _).grown hgrow (bl_al (bl_tr (bl_tr (Below.refl _ _).drew hb1) hb2) _).size (fun j hj => (hown1.lt j hj).1)) | (exact bl_tr (by assumption) hb2) | (exact bl_tr (by assumption) hb1) | (exact bl_al (by assumption) _) | fail)
          (first
            | (go_at_call 25; refine (HP1.out _ (by assumption)).mono ?_; rintro e w1 ⟨v1, rfl, hown1, hb1⟩)
            | (go_at_call 59; refine (HR2.out _ (by assumption)).mono ?_; rintro e w2 ⟨rfl, hb2⟩)
            | ((refine step_append_lies (w2.alloc (.cells #[.string r] 9)) (by rfl) (Operand.tmp 32) (Operand.tmp 37) 22 (by rfl) w'.heap.size 9 i0 (.string ⟨#[]⟩) 1 16 Tryz.underlying22 hi hz0 hz1 hz2 rfl (by decide) v1 m (scs ps) (by rfl) ((own_below hown1 hb2).alloc _) ⟨w2.heap.size, 0, none⟩ 1 1 [.string r] (by rfl) rfl (new_one w2 r) hone' (by decide) q1 q2 (bl_al (bl_tr (bl_tr (Below.refl _ _).drew hb1) hb2) _).size (w2.heap.size + 1) (by rw [World.size_alloc]) ?_; intro g5 cap5 w5 hown5 hgrow hat hltg))
            | fail)
        all_goals
          have B3 : Hid (Below w'.heap.size w' w5) := by assumption
          have O3 : Hid _ := hown5
          clear hown5
          go_wp2
          go_ret
          exact ⟨_, rfl, O3.out, B3.out⟩
end Go.Proofs.YtcdgdmhlbgbklaaGreatDoor.Dg

/- The document's own ProofOf. -/
namespace Go.Proofs.YtcdgdmhlbgbklaaGreatDoor.Dg
open Go.RowKit

set_option maxHeartbeats 4000000 in
set_option maxRecDepth 100000 in
theorem ProofOf_any : ∀ (f : Nat) (g o cap : Nat) (ss : List ByteArray) (i : Nat) (w : World), ss.length ≤ f → i < ss.length → ss.length ≤ 2000 → ss.length ≤ cap → (∀ s ∈ ss, s.size ≤ 100000) → Row w g o ss →
    Calls Tryz.prog 10 #[.slice (some ⟨g, o, none⟩) ss.length cap, .int .i64 i] w fun e w' => ∃ v, e = .returned v ∧ w'.ownsRow w.heap.size 9 1 v (proofL ss i).length (scs (proofL ss i)) ∧ Below w.heap.size w w' := by
  intro f
  induction f with
  | zero => intro g o cap ss i w h1 h2; omega
  | succ f ih =>
    intro g o cap ss i w h1 h2 h3 h4 h5 h6
    have hg : g < w.heap.size := World.block_lt_of_cell? w ⟨g, o + 0, none⟩ (h6 0 (by omega))
    by_cases hone : ss.length = 1
    · have hB := proofL_one ss i (by omega)
      rw [hone, hB]
      clear ih h1 h2 h3 h4 h5 h6 hone hB
      go_enter Tryz.func10, Tryz.ntmps10
      go_wp2
      go_ret
      exact ⟨_, rfl, World.ownsRow_nil _ _ _ _, Below.refl _ _⟩
    · obtain ⟨i0, hi, hz0, hz1, hz2⟩ := info_p infS
      have hl := side_lt ss.length (by omega)
      have hp := side_pos ss.length
      have HF : Hid (Calls Tryz.prog 30 #[.int .i64 ss.length] w fun e w' => e = .returned (.int .i64 (side ss.length : Nat)) ∧ w' = w) := Half_any ss.length w (by omega)
      have hlo : i < side ss.length → proofL ss i = proofL (ss.take (side ss.length)) i ++ [rootB (ss.drop (side ss.length))] := proofL_lo ss i (by omega)
      have hhi : side ss.length ≤ i → proofL ss i = proofL (ss.drop (side ss.length)) (i - side ss.length) ++ [rootB (ss.take (side ss.length))] := proofL_hi ss i (by omega)
      have hpl := proofL_len _ ss i (Nat.le_refl _) (by omega)
      generalize side ss.length = k at hl hp hlo hhi HF
      have e1 : (ss.take k).length = k := by rw [List.length_take]; omega
      have e2 : (ss.drop k).length = ss.length - k := List.length_drop ..
      have hs0 := cut_front3 g o ss.length cap k (by omega) h4
      have hs1 := cut_front g o ss.length cap k (by omega) h4
      have hs2 := cut_back g o ss.length cap k hl h4
      have hn1 : ((ss.length : Int) == 1) = false := beq_eq_false_iff_ne.2 (by omega)
      have i1 : (0 : Int) ≤ (k : Int) := by omega
      have i2 : (k : Int) ≤ (ss.length : Int) := by omega
      by_cases hik : i < k
      · have hB := hlo hik
        have HP1 : Hid (∀ w', Below w.heap.size w w' → Calls Tryz.prog 10 #[.slice (some ⟨g, o, none⟩) k k, .int .i64 i] w' fun e w'' => ∃ v, e = .returned v ∧ w''.ownsRow w.heap.size 9 1 v (proofL (ss.take k) i).length (scs (proofL (ss.take k) i)) ∧ Below w'.heap.size w' w'') := fun w' hb => by
          have := ih g o k (ss.take k) i w' (by omega) (by omega) (by omega) (by omega) (fun s hs => h5 s (List.mem_of_mem_take hs)) ((h6.take k).up hb hg)
          rw [e1] at this
          exact this.mono fun e w'' ⟨v, a, b, c⟩ => ⟨v, a, own_down b hb.size, c⟩
        have HR2 : Hid (∀ w', Below w.heap.size w w' → Calls Tryz.prog 31 #[.slice (some ⟨g, o + k, none⟩) (ss.length - k) (cap - k)] w' fun e w'' => e = .returned (.string (rootB (ss.drop k))) ∧ Below w'.heap.size w' w'') := fun w' hb =>
          RootOf_any _ (ss.drop k) w' ⟨by omega, Or.inr ⟨by omega, g, o + k, cap - k, by rw [e2], by omega, (h6.drop k).up hb hg⟩⟩ ⟨by omega, fun s hs => h5 s (List.mem_of_mem_drop hs)⟩
        rw [hB, scs_snoc, List.length_append]
        rw [hB, List.length_append] at hpl
        simp only [List.length_cons, List.length_nil] at hpl ⊢
        generalize rootB (ss.drop k) = r at HR2
        generalize proofL (ss.take k) i = ps at HP1 hpl
        generalize hm : ps.length = m at *
        have q1 : m + 1 ≤ maxLen := by unfold maxLen; omega
        have q2 : (m + 1) * 16 ≤ 140737488355328 := by omega
        have hone' : ∀ u ∈ [Value.string r], u.oneCell' = true := by intro u hu; simp at hu; subst hu; rfl
        have hii : (i : Int) < (k : Int) := by omega
        clear ih h1 h2 h3 h5 h6 hone e1 e2 hg hlo hhi hB hm hs1
        generalize ss.length = n at *
        go_enter Tryz.func10, Tryz.ntmps10
        go_wp2_with (go_at_call 30; refine HF.out.mono ?_; rintro e w' ⟨rfl, rfl⟩)
        go_region_held3 (fun W => Below w'.heap.size w' W)
          (first | assumption | (exact (Below.refl _ _).drew) | (exact (bl_al (bl_tr (bl_tr (Below.refl _ _).drew hb1) hb2) _).grown hgrow (bl_al (bl_tr (bl_tr (Below.refl _ _).drew hb1) hb2) _).size (fun j hj => (hown1.lt j hj).1)) | (exact bl_tr (by assumption) hb2) | (exact bl_tr (by assumption) hb1) | (exact bl_al (by assumption) _) | fail)
          (first
            | (go_at_call 10; refine (HP1.out _ (by assumption)).mono ?_; rintro e w1 ⟨v1, rfl, hown1, hb1⟩)
            | (go_at_call 31; refine (HR2.out _ (by assumption)).mono ?_; rintro e w2 ⟨rfl, hb2⟩)
            | ((refine step_append_lies (w2.alloc (.cells #[.string r] 9)) (by rfl) (Operand.tmp 20) (Operand.tmp 25) 22 (by rfl) w'.heap.size 9 i0 (.string ⟨#[]⟩) 1 16 Tryz.underlying22 hi hz0 hz1 hz2 rfl (by decide) v1 m (scs ps) (by rfl) ((own_below hown1 hb2).alloc _) ⟨w2.heap.size, 0, none⟩ 1 1 [.string r] (by rfl) rfl (new_one w2 r) hone' (by decide) q1 q2 (bl_al (bl_tr (bl_tr (Below.refl _ _).drew hb1) hb2) _).size (w2.heap.size + 1) (by rw [World.size_alloc]) ?_; intro g5 cap5 w5 hown5 hgrow hat hltg))
            | fail)
        all_goals
          have B3 : Hid (Below w'.heap.size w' w5) := by assumption
          have O3 : Hid _ := hown5
          clear hown5
          go_wp2
          go_ret
          exact ⟨_, rfl, O3.out, B3.out⟩
      · have hB := hhi (by omega)
        have HP1 : Hid (∀ w', Below w.heap.size w w' → Calls Tryz.prog 10 #[.slice (some ⟨g, o + k, none⟩) (ss.length - k) (cap - k), .int .i64 ((i : Int) - (k : Int))] w' fun e w'' => ∃ v, e = .returned v ∧ w''.ownsRow w.heap.size 9 1 v (proofL (ss.drop k) (i - k)).length (scs (proofL (ss.drop k) (i - k))) ∧ Below w'.heap.size w' w'') := fun w' hb => by
          have := ih g (o + k) (cap - k) (ss.drop k) (i - k) w' (by omega) (by omega) (by omega) (by omega) (fun s hs => h5 s (List.mem_of_mem_drop hs)) ((h6.drop k).up hb hg)
          rw [e2, show ((i - k : Nat) : Int) = (i : Int) - (k : Int) from by omega] at this
          exact this.mono fun e w'' ⟨v, a, b, c⟩ => ⟨v, a, own_down b hb.size, c⟩
        have HR2 : Hid (∀ w', Below w.heap.size w w' → Calls Tryz.prog 31 #[.slice (some ⟨g, o, none⟩) k cap] w' fun e w'' => e = .returned (.string (rootB (ss.take k))) ∧ Below w'.heap.size w' w'') := fun w' hb =>
          RootOf_any _ (ss.take k) w' ⟨by omega, Or.inr ⟨by omega, g, o, cap, by rw [e1], by omega, (h6.take k).up hb hg⟩⟩ ⟨by omega, fun s hs => h5 s (List.mem_of_mem_take hs)⟩
        rw [hB, scs_snoc, List.length_append]
        rw [hB, List.length_append] at hpl
        simp only [List.length_cons, List.length_nil] at hpl ⊢
        generalize rootB (ss.take k) = r at HR2
        generalize proofL (ss.drop k) (i - k) = ps at HP1 hpl
        generalize hm : ps.length = m at *
        have q1 : m + 1 ≤ maxLen := by unfold maxLen; omega
        have q2 : (m + 1) * 16 ≤ 140737488355328 := by omega
        have hone' : ∀ u ∈ [Value.string r], u.oneCell' = true := by intro u hu; simp at hu; subst hu; rfl
        have hii : (k : Int) ≤ (i : Int) := by omega
        have hi2 : (i : Int) ≤ 2000 := by omega
        clear ih h1 h2 h3 h5 h6 hone e1 e2 hg hlo hhi hB hm hik hs0
        generalize ss.length = n at *
        go_enter Tryz.func10, Tryz.ntmps10
        go_wp2_with (go_at_call 30; refine HF.out.mono ?_; rintro e w' ⟨rfl, rfl⟩)
        have j1 : IntKind.i64.wrap ((i : Int) - (k : Int)) = (i : Int) - (k : Int) := by rw [IntKind.wrap_i64]; omega
        go_region_held3 (fun W => Below w'.heap.size w' W)
          (first | assumption | (exact (Below.refl _ _).drew) | (exact (bl_al (bl_tr (bl_tr (Below.refl _ _).drew hb1) hb2) _).grown hgrow (bl_al (bl_tr (bl_tr (Below.refl _ _).drew hb1) hb2) _).size (fun j hj => (hown1.lt j hj).1)) | (exact bl_tr (by assumption) hb2) | (exact bl_tr (by assumption) hb1) | (exact bl_al (by assumption) _) | fail)
          (first
            | (go_at_call 10; refine (HP1.out _ (by assumption)).mono ?_; rintro e w1 ⟨v1, rfl, hown1, hb1⟩)
            | (go_at_call 31; refine (HR2.out _ (by assumption)).mono ?_; rintro e w2 ⟨rfl, hb2⟩)
            | ((refine step_append_lies (w2.alloc (.cells #[.string r] 9)) (by rfl) (Operand.tmp 33) (Operand.tmp 38) 22 (by rfl) w'.heap.size 9 i0 (.string ⟨#[]⟩) 1 16 Tryz.underlying22 hi hz0 hz1 hz2 rfl (by decide) v1 m (scs ps) (by rfl) ((own_below hown1 hb2).alloc _) ⟨w2.heap.size, 0, none⟩ 1 1 [.string r] (by rfl) rfl (new_one w2 r) hone' (by decide) q1 q2 (bl_al (bl_tr (bl_tr (Below.refl _ _).drew hb1) hb2) _).size (w2.heap.size + 1) (by rw [World.size_alloc]) ?_; intro g5 cap5 w5 hown5 hgrow hat hltg))
            | fail)
        all_goals
          have B3 : Hid (Below w'.heap.size w' w5) := by assumption
          have O3 : Hid _ := hown5
          clear hown5
          go_wp2
          go_ret
          exact ⟨_, rfl, O3.out, B3.out⟩
end Go.Proofs.YtcdgdmhlbgbklaaGreatDoor.Dg

/- SameTexts of two slices that are read; textsAre. -/
namespace Go.Proofs.YtcdgdmhlbgbklaaGreatDoor.Dg
open Go.RowKit

theorem b_ext {a b : ByteArray} (h : a.toList = b.toList) : a = b := by
  rw [Lib.toList_data, Lib.toList_data] at h
  exact (d_bytes h).trans (d_bytes (s := b) rfl).symm

set_option maxHeartbeats 2000000 in
set_option maxRecDepth 100000 in
theorem SameTexts_same (v u : Value) (ss : List ByteArray) (w : World) (h : Tx w v ss) (h' : Tx w u ss) :
    Calls Tryz.prog 9 #[v, u] w fun e w' => e = .returned (.bool true) ∧ ∃ n, w' = w.drewN n := by
  have hn1 : (ss.length : Int) ≤ 4611686018427387904 := by have := h.1; omega
  rcases h.2 with ⟨rfl, a, cap, rfl⟩ | ⟨h0, g, o, cap, rfl, hc, hrow⟩
  · obtain ⟨a', cap', rfl⟩ := h'.shape
    clear h h'
    go_enter Tryz.func9, Tryz.ntmps9
    go_wp2
    refine wp_loop_rounds 1 ?_
    rw [rounds_succ]
    go_wp2
    go_ret
    exact ⟨rfl, 0, rfl⟩
  · rcases h'.2 with ⟨rfl, _⟩ | ⟨_, g', o', cap', rfl, hc', hrow'⟩
    · simp at h0
    · have HC : Hid (Row w g o ss) := hrow
      have HC' : Hid (Row w g' o' ss) := hrow'
      clear h h' hrow hrow'
      go_enter Tryz.func9, Tryz.ntmps9
      go_wp2
      go_loopw [5] (fun i wr => ∃ k m : Nat, k ≤ ss.length ∧ i = .int .i64 k ∧ wr = w.drewN m) (fun i _ => ss.length - (intOf i).toNat)
      case atStart => exact ⟨0, 0, Nat.zero_le _, rfl, rfl⟩
      case round =>
        obtain ⟨k, m, hk, rfl, rfl⟩ := hrel
        by_cases hlt : k < ss.length
        · have c1 := HC.out k hlt
          have c2 := HC'.out k hlt
          generalize ss[k] = x at c1 c2
          go_wp2
          go_region
          all_goals go_wp2
          all_goals
            refine ⟨⟨k + 1, m + 1, by omega, by go_num, rfl⟩, by simp [intOf]; omega⟩
        · go_wp2
          go_ret
          exact ⟨rfl, m, rfl⟩

theorem tx_own {w : World} {B : Nat} {v : Value} {xs : List ByteArray} (hx : xs.length ≤ 4611686018427387904) (h : w.ownsRow B 9 1 v xs.length (scs xs)) : Tx w v xs := by
  rcases h.2 with ⟨rfl, h0⟩ | ⟨g, cap, cur, rfl, hb, hg, hc, _⟩
  · have : xs = [] := List.length_eq_zero_iff.1 h0
    subst this
    exact ⟨by decide, Or.inl ⟨rfl, none, 0, rfl⟩⟩
  · refine ⟨hx, ?_⟩
    by_cases h0 : xs.length = 0
    · have : xs = [] := List.length_eq_zero_iff.1 h0
      subst this
      exact Or.inl ⟨rfl, _, cap, rfl⟩
    · exact Or.inr ⟨by omega, g, 0, cap, rfl, hc, row_of_own h rfl⟩
end Go.Proofs.YtcdgdmhlbgbklaaGreatDoor.Dg

/- What Proof answers, whatever it is asked, as one; the document's ProofOf beside it. -/
namespace Go.Proofs.YtcdgdmhlbgbklaaGreatDoor.Dg
open Go.RowKit

set_option maxHeartbeats 1000000 in
theorem Proof_no (v : Value) (ss : List ByteArray) (i : Int) (w : World) (h : Tx w v ss) (hno : ¬ okD ss) :
    Calls Tryz.prog 7 #[v, .int .i64 i] w fun e w' => e = .returned (.tuple #[.slice none 0 0, .int .i64 2]) ∧ w' = w := by
  have HT : Hid (Calls Tryz.prog 24 #[v] w fun e w' => e = .returned (.bool true) ∧ w' = w) := tooMany_any v ss w h true (by simp [hno])
  obtain ⟨a, cap, rfl⟩ := h.shape
  clear h hno
  go_enter Tryz.func7, Tryz.ntmps7
  go_wp2_with fail
  refine HT.out.mono ?_
  rintro e w' ⟨rfl, rfl⟩
  go_wp2
  go_ret2
  exact ⟨rfl, rfl⟩

set_option maxHeartbeats 1000000 in
theorem Proof_range (v : Value) (ss : List ByteArray) (i : Int) (w : World) (h : Tx w v ss) (hok : okD ss) (hi : ¬ (0 ≤ i ∧ i < ss.length)) :
    Calls Tryz.prog 7 #[v, .int .i64 i] w fun e w' => e = .returned (.tuple #[.slice none 0 0, .int .i64 3]) ∧ w' = w := by
  have HT : Hid (Calls Tryz.prog 24 #[v] w fun e w' => e = .returned (.bool false) ∧ w' = w) := tooMany_any v ss w h false (by simp [hok])
  have hl : (ss.length : Int) ≤ 2000 := by have := hok.1; omega
  obtain ⟨a, cap, rfl⟩ := h.shape
  clear h hok
  by_cases h0 : i < 0
  · clear hi
    go_enter Tryz.func7, Tryz.ntmps7
    go_wp2_with fail
    refine HT.out.mono ?_
    rintro e w' ⟨rfl, rfl⟩
    go_wp2
    go_ret2
    exact ⟨rfl, rfl⟩
  · have h1 : (ss.length : Int) ≤ i := by omega
    have h2 : 0 ≤ i := by omega
    clear hi h0
    go_enter Tryz.func7, Tryz.ntmps7
    go_wp2_with fail
    refine HT.out.mono ?_
    rintro e w' ⟨rfl, rfl⟩
    go_wp2
    go_ret2
    exact ⟨rfl, rfl⟩

set_option maxHeartbeats 1000000 in
theorem Proof_yes (v : Value) (ss : List ByteArray) (i : Nat) (w : World) (h : Tx w v ss) (hok : okD ss) (hi : i < ss.length) (hr : Roots w) :
    Calls Tryz.prog 7 #[v, .int .i64 i] w fun e w' => ∃ u, e = .returned (.tuple #[u, .int .i64 0]) ∧ w'.ownsRow w.heap.size 9 1 u (proofL ss i).length (scs (proofL ss i)) ∧ Below w.heap.size w w' := by
  have HT : Hid (Calls Tryz.prog 24 #[v] w fun e w' => e = .returned (.bool false) ∧ w' = w) := tooMany_any v ss w h false (by simp [hok])
  have hl : (ss.length : Int) ≤ 2000 := by have := hok.1; omega
  rcases h.2 with ⟨rfl, _⟩ | ⟨h0, g, o, cap, rfl, hc, hrow⟩
  · simp at hi
  · have HP : Hid (Calls Tryz.prog 25 #[.slice (some ⟨g, o, none⟩) ss.length cap, .int .i64 i] w fun e w' => ∃ v, e = .returned v ∧ w'.ownsRow w.heap.size 9 1 v (proofL ss i).length (scs (proofL ss i)) ∧ Below w.heap.size w w') := proof_any _ g o cap ss i w (Nat.le_refl _) hi hok.1 hc hok.2 hrow hr
    have h1 : (i : Int) < (ss.length : Int) := by omega
    clear h hok hr hrow
    generalize proofL ss i = ps at HP
    generalize ss.length = n at *
    go_enter Tryz.func7, Tryz.ntmps7
    go_wp2_with fail
    refine HT.out.mono ?_
    rintro e w' ⟨rfl, rfl⟩
    go_wp2_with fail
    refine HP.out.mono ?_
    rintro e w1 ⟨u, rfl, hown, hb⟩
    have O1 : Hid (w1.ownsRow w'.heap.size 9 1 u ps.length (scs ps) ∧ Below w'.heap.size w' w1) := ⟨hown, hb⟩
    clear hown hb
    go_wp2
    go_ret2
    exact ⟨_, rfl, O1.out.1, O1.out.2⟩

theorem own_sl {w : World} {B : Nat} {t : TypeId} {s n : Nat} {v : Value} {xs : List Value} (h : w.ownsRow B t s v n xs) : ∃ a c, v = .slice a n c := by
  rcases h.2 with ⟨rfl, rfl⟩ | ⟨g, c, _, rfl, _⟩
  · exact ⟨none, 0, rfl⟩
  · exact ⟨_, c, rfl⟩

/-- What Proof answers. -/
def PfC (ss : List ByteArray) (i : Int) (e1 : Int) (ps : List ByteArray) : Prop :=
  (∀ (v : Value) (w : World), Tx w v ss → Roots w → Calls Tryz.prog 7 #[v, .int .i64 i] w fun e w' => ∃ pa pc, e = .returned (.tuple #[.slice pa ps.length pc, .int .i64 e1]) ∧ w'.ownsRow w.heap.size 9 1 (.slice pa ps.length pc) ps.length (scs ps) ∧ Below w.heap.size w w') ∧
  (e1 = 0 → ∀ (v : Value) (w : World), Tx w v ss → Calls Tryz.prog 10 #[v, .int .i64 i] w fun e w' => ∃ pa pc, e = .returned (.slice pa ps.length pc) ∧ w'.ownsRow w.heap.size 9 1 (.slice pa ps.length pc) ps.length (scs ps) ∧ Below w.heap.size w w') ∧ ps.length ≤ 2000
theorem Proof_ex (ss : List ByteArray) (i : Int) : ∃ (e1 : Int) (ps : List ByteArray), PfC ss i e1 ps := by
  by_cases hok : okD ss
  · by_cases hi : 0 ≤ i ∧ i < ss.length
    · obtain ⟨n, rfl⟩ : ∃ n : Nat, i = n := ⟨i.toNat, by omega⟩
      have hn : n < ss.length := by omega
      refine ⟨0, proofL ss n, fun v w h hr => ?_, fun _ v w h => ?_, by have := proofL_len _ ss n (Nat.le_refl _) (by omega); have := hok.1; omega⟩
      · refine (Proof_yes v ss n w h hok hn hr).mono ?_
        rintro e w' ⟨u, rfl, ho, hb⟩
        obtain ⟨a, c, rfl⟩ := own_sl ho
        exact ⟨a, c, rfl, ho, hb⟩
      · rcases h.2 with ⟨rfl, _⟩ | ⟨h0, g, o, cap, rfl, hc, hrow⟩
        · simp at hn
        · refine (ProofOf_any _ g o cap ss n w (Nat.le_refl _) hn hok.1 hc hok.2 hrow).mono ?_
          rintro e w' ⟨u, rfl, ho, hb⟩
          obtain ⟨a, c, rfl⟩ := own_sl ho
          exact ⟨a, c, rfl, ho, hb⟩
    · refine ⟨3, [], fun v w h _ => ?_, fun e => absurd e (by decide), by decide⟩
      refine (Proof_range v ss i w h hok hi).mono ?_
      rintro e w' ⟨rfl, rfl⟩
      exact ⟨none, 0, rfl, World.ownsRow_nil _ _ _ _, Below.refl _ _⟩
  · refine ⟨2, [], fun v w h _ => ?_, fun e => absurd e (by decide), by decide⟩
    refine (Proof_no v ss i w h hok).mono ?_
    rintro e w' ⟨rfl, rfl⟩
    exact ⟨none, 0, rfl, World.ownsRow_nil _ _ _ _, Below.refl _ _⟩
end Go.Proofs.YtcdgdmhlbgbklaaGreatDoor.Dg

/- Whether texts rise: what it is, and what the document's own Rise answers. -/
namespace Go.Proofs.YtcdgdmhlbgbklaaGreatDoor.Ac
open Go.RowKit Go.Shelf

def less (a b : ByteArray) : Bool := Op.bytesLess a.toList b.toList
/-- Do names rise? -/
def riseB : List ByteArray → Bool
  | [] => true
  | [_] => true
  | a :: b :: l => less a b && riseB (b :: l)
theorem riseB_yes (l : List ByteArray) (h : ∀ j (hj : j + 1 < l.length), less l[j] l[j + 1] = true) : riseB l = true := by
  induction l with
  | nil => rfl
  | cons a l ih =>
    cases l with
    | nil => rfl
    | cons b l =>
      have h0 := h 0 (by simp)
      have h1 := ih (fun j hj => h (j + 1) (by simp at hj ⊢; omega))
      show (less a b && riseB (b :: l)) = true
      rw [h1, Bool.and_true]; exact h0
theorem riseB_no (l : List ByteArray) (j : Nat) (hj : j + 1 < l.length) (h : less l[j] l[j + 1] = false) : riseB l = false := by
  induction l generalizing j with
  | nil => simp at hj
  | cons a l ih =>
    cases l with
    | nil => simp at hj
    | cons b l =>
      show (less a b && riseB (b :: l)) = false
      cases j with
      | zero => rw [show less a b = false from h, Bool.false_and]
      | succ j => rw [ih j (by simp at hj ⊢; omega) h, Bool.and_false]

theorem leq_lss : ∀ (y x : List UInt8), (Op.bytesLess y x || y == x) = !Op.bytesLess x y
  | [], [] => rfl
  | [], _ :: _ => rfl
  | _ :: _, [] => rfl
  | a :: y, b :: x => by
    have ih := leq_lss y x
    have h1 : (a < b) = (a.toNat < b.toNat) := rfl
    have h2 : (b < a) = (b.toNat < a.toNat) := rfl
    unfold Op.bytesLess
    rcases Nat.lt_trichotomy a.toNat b.toNat with h | h | h
    · have hne : a ≠ b := fun e => by rw [e] at h; omega
      have h3 : ¬ b.toNat < a.toNat := by omega
      simp [h1, h2, h, h3, hne.symm]
    · obtain rfl : a = b := UInt8.toNat_inj.1 h
      simp [h1] at ih ⊢
      exact ih
    · have hne : a ≠ b := fun e => by rw [e] at h; omega
      have h3 : ¬ a.toNat < b.toNat := by omega
      simp [h1, h2, h, h3, hne]
theorem less_cls (a b : ByteArray) : (less a b = true ∧ Op.bytesLess b.toList a.toList = false ∧ (b.toList == a.toList) = false) ∨ (less a b = false ∧ Op.bytesLess b.toList a.toList = true) ∨ (less a b = false ∧ Op.bytesLess b.toList a.toList = false ∧ (b.toList == a.toList) = true) := by
  have h := leq_lss b.toList a.toList
  unfold less
  cases h1 : Op.bytesLess a.toList b.toList <;> cases h2 : Op.bytesLess b.toList a.toList <;> cases h3 : (b.toList == a.toList) <;> simp_all
end Go.Proofs.YtcdgdmhlbgbklaaGreatDoor.Ac

/- What wire's actionError answers, and what it asks of each part of an action. -/
namespace Go.Proofs.YtcdgdmhlbgbklaaGreatDoor.Ac
open Go.RowKit Go.Shelf


def longB (ss : List ByteArray) : Bool := ss.any fun s => decide (100000 < s.size)
theorem longB_yes {ss : List ByteArray} (h : longB ss = true) : ∃ s ∈ ss, 100000 < s.size := by
  unfold longB at h
  rw [List.any_eq_true] at h
  obtain ⟨s, hs, h⟩ := h
  exact ⟨s, hs, by simpa using h⟩
theorem longB_no {ss : List ByteArray} (h : longB ss = false) : ∀ s ∈ ss, s.size ≤ 100000 := by
  intro s hs
  unfold longB at h
  rw [List.any_eq_false] at h
  have := h s hs
  simp at this
  omega

theorem cfl_any (v : Value) (ss : List ByteArray) (w : World) (h : IsTexts w v ss) :
    Calls Tryz.prog 51 #[v, .func (.func 79) #[] #[]] w fun e w' => e = .returned (.bool (longB ss)) ∧ w' = w := by
  obtain ⟨hn, a, cap, rfl, hs⟩ := h
  rcases hs with rfl | ⟨g, o, rfl, hc⟩
  · exact cf_zero a cap w
  cases hl : longB ss with
  | true => exact cf_some g o cap ss w hn hc (longB_yes hl)
  | false => exact cf_none g o cap ss w hn hc (longB_no hl)

theorem isNoPath_any (s : ByteArray) (w : World) (hm : MaxIs w) : Calls Tryz.prog 80 #[.string s] w fun e w' => e = .returned (.bool (!pathOk s)) ∧ Below w.heap.size w w' := by
  have HM : Hid _ := hm
  clear hm
  go_enter Tryz.func80, Tryz.ntmps80
  go_wp2_with fail
  refine (IsPath_any s w HM.out).mono ?_
  rintro e w1 ⟨rfl, hb⟩
  go_wp2
  go_ret
  exact ⟨rfl, hb⟩

theorem allp_no (l : List ByteArray) (k : Nat) (hk : k < l.length) (h : pathOk l[k] = false) : l.all pathOk = false := by
  rw [List.all_eq_false]
  exact ⟨l[k], List.getElem_mem hk, by simp [h]⟩
theorem allp_yes (l : List ByteArray) (h : ∀ j (hj : j < l.length), pathOk l[j] = true) : l.all pathOk = true := by
  rw [List.all_eq_true]
  intro x hx
  obtain ⟨j, hj, rfl⟩ := List.getElem_of_mem hx
  exact h j hj

set_option maxHeartbeats 1000000 in
set_option maxRecDepth 100000 in
theorem idxp (g o cap : Nat) (ss : List ByteArray) (w : World) (hn : ss.length ≤ 4611686018427387904) (hcell : ∀ j (hj : j < ss.length), w.cell? ⟨g, o + j, none⟩ = some (.string ss[j])) (hg : g < w.heap.size) (hm : MaxIs w) :
    Calls Tryz.prog 95 #[.slice (some ⟨g, o, none⟩) ss.length cap, .func (.func 80) #[] #[]] w fun e w' => ((ss.all pathOk = true → e = .returned (.int .i64 (-1))) ∧ (ss.all pathOk = false → ∃ k : Nat, e = .returned (.int .i64 k))) ∧ Below w.heap.size w w' := by
  have HC : Hid _ := hcell
  have HM : Hid (MaxIs w) := hm
  have hn1 : (ss.length : Int) ≤ 4611686018427387904 := by omega
  clear hcell hm
  go_enter Tryz.func95, Tryz.ntmps95
  go_wp2
  go_loopw [8] (fun i wr => ∃ k : Nat, k ≤ ss.length ∧ i = .int .i64 k ∧ (∀ j (hj : j < ss.length), j < k → pathOk ss[j] = true) ∧ Below w.heap.size w wr) (fun i _ => ss.length - (intOf i).toNat)
  case atStart => exact ⟨0, Nat.zero_le _, rfl, by omega, Below.refl _ _⟩
  case round =>
    obtain ⟨k, hk, rfl, hlo, hb⟩ := hrel
    have HL : Hid _ := hlo
    have HB : Hid (Below w.heap.size w wr) := hb
    clear hlo hb
    by_cases hlt : k < ss.length
    · have hc := (HB.out.cell (p := ⟨g, o + k, none⟩) hg).trans (HC.out k hlt)
      have i2 : (k : Int) < ss.length := by omega
      by_cases hp : pathOk ss[k] = true
      · go_wp2_with fail
        refine (isNoPath_any ss[k] wr (HM.out.up HB.out)).mono ?_
        rintro e w2 ⟨rfl, hb2⟩
        have HB2 : Hid (Below w.heap.size w w2) := HB.out.trans (hb2.mono HB.out.size)
        clear hb2
        rw [hp]
        go_wp2
        refine ⟨⟨k + 1, by omega, by go_num, fun j hj hjk => ?_, HB2.out⟩, by simp [intOf]; omega⟩
        by_cases h : j < k
        · exact HL.out j hj h
        · obtain rfl : j = k := by omega
          assumption
      · have hp' : pathOk ss[k] = false := by simpa using hp
        have HP : Hid _ := hp'
        clear hp
        go_wp2_with fail
        refine (isNoPath_any ss[k] wr (HM.out.up HB.out)).mono ?_
        rintro e w2 ⟨rfl, hb2⟩
        have HB2 : Hid (Below w.heap.size w w2) := HB.out.trans (hb2.mono HB.out.size)
        clear hb2
        rw [hp']
        go_wp2
        go_ret
        refine ⟨⟨fun h => ?_, fun _ => ⟨k, rfl⟩⟩, HB2.out⟩
        rw [allp_no ss k hlt HP.out] at h
        cases h
    · go_wp2
      go_ret
      refine ⟨⟨fun _ => rfl, fun h => ?_⟩, HB.out⟩
      rw [allp_yes ss (fun j hj => HL.out j hj (by omega))] at h
      cases h

set_option maxHeartbeats 1000000 in
set_option maxRecDepth 100000 in
theorem cfp_zero (a : Option Addr) (cap : Nat) (w : World) :
    Calls Tryz.prog 51 #[.slice a 0 cap, .func (.func 80) #[] #[]] w fun e w' => e = .returned (.bool false) ∧ w' = w := by
  go_enter Tryz.func51, Tryz.ntmps51
  go_wp2
  refine wp_loop_rounds 1 ?_
  rw [rounds_succ]
  go_wp2
  go_ret
  exact ⟨rfl, rfl⟩

set_option maxHeartbeats 1000000 in
theorem cfp_any (v : Value) (ss : List ByteArray) (w : World) (h : IsTexts w v ss) (hm : MaxIs w) :
    Calls Tryz.prog 51 #[v, .func (.func 80) #[] #[]] w fun e w' => e = .returned (.bool (!ss.all pathOk)) ∧ Below w.heap.size w w' := by
  have ho := old_of w v ss h
  obtain ⟨hn, a', cap', rfl, _⟩ := h
  obtain ⟨a, cap, e, hs⟩ := ho
  rw [e]
  rcases hs with rfl | ⟨g, o, rfl, hg, hc⟩
  · refine (cfp_zero a cap w).mono ?_
    rintro e w' ⟨rfl, rfl⟩
    exact ⟨rfl, Below.refl _ _⟩
  have HC : Hid _ := hc
  have HM : Hid _ := hm
  clear hc hm e
  go_enter Tryz.func51, Tryz.ntmps51
  go_wp2_with fail
  refine (idxp g o cap ss w hn HC.out hg HM.out).mono ?_
  rintro e w1 ⟨⟨h1, h2⟩, hb⟩
  have HB : Hid _ := hb
  clear hb
  cases ha : ss.all pathOk with
  | true =>
    obtain rfl := h1 ha
    have HA : Hid _ := ha
    clear h1 h2 ha
    go_wp2
    go_ret
    exact ⟨by rw [HA.out]; rfl, HB.out⟩
  | false =>
    obtain ⟨k, rfl⟩ := h2 ha
    have HA : Hid _ := ha
    clear h1 h2 ha
    go_wp2
    go_ret
    exact ⟨by rw [HA.out]; rfl, HB.out⟩

theorem itself_any (s : ByteArray) (w : World) : Calls Tryz.prog 82 #[.string s] w fun e w' => e = .returned (.string s) ∧ w' = w := by
  go_enter Tryz.func82, Tryz.ntmps82
  go_wp2
  go_ret
  exact ⟨rfl, rfl⟩

set_option maxHeartbeats 2000000 in
set_option maxRecDepth 100000 in
theorem rs_zero (a : Option Addr) (cap : Nat) (w : World) : Calls Tryz.prog 81 #[.slice a 0 cap, .func (.func 82) #[] #[]] w fun e w' => e = .returned (.bool true) ∧ w' = w := by
  go_enter Tryz.func81, Tryz.ntmps81
  go_wp2
  refine wp_loop_rounds 1 ?_
  rw [rounds_succ]
  go_wp2
  go_ret
  exact ⟨rfl, rfl⟩

set_option maxHeartbeats 2000000 in
set_option maxRecDepth 100000 in
theorem rs_some (g o cap : Nat) (ss : List ByteArray) (w : World) (hn : ss.length ≤ 4611686018427387904) (hcell : ∀ j (hj : j < ss.length), w.cell? ⟨g, o + j, none⟩ = some (.string ss[j])) (hg : g < w.heap.size) :
    Calls Tryz.prog 81 #[.slice (some ⟨g, o, none⟩) ss.length cap, .func (.func 82) #[] #[]] w fun e w' => e = .returned (.bool (riseB ss)) ∧ Below w.heap.size w w' := by
  have HC : Hid _ := hcell
  have hn1 : (ss.length : Int) ≤ 4611686018427387904 := by omega
  clear hcell
  go_enter Tryz.func81, Tryz.ntmps81
  go_wp2
  go_loopw [5] (fun i wr => ∃ k : Nat, 1 ≤ k ∧ k ≤ max 1 ss.length ∧ i = .int .i64 k ∧ (∀ j, (hj : j + 1 < ss.length) → j + 1 < k → less ss[j] ss[j + 1] = true) ∧ Below w.heap.size w wr) (fun i _ => ss.length - (intOf i).toNat)
  case atStart => exact ⟨1, by omega, by omega, rfl, by omega, Below.refl _ _⟩
  case round =>
    obtain ⟨k, hk1, hk, rfl, hlo, hb⟩ := hrel
    have HL : Hid _ := hlo
    have HB : Hid (Below w.heap.size w wr) := hb
    clear hlo hb
    by_cases hlt : k < ss.length
    · obtain ⟨m, rfl⟩ : ∃ m, k = m + 1 := ⟨k - 1, by omega⟩
      have a0 := (HB.out.cell (p := ⟨g, o + m, none⟩) hg).trans (HC.out m (by omega))
      have b0 := (HB.out.cell (p := ⟨g, o + (m + 1), none⟩) hg).trans (HC.out (m + 1) hlt)
      have i1 : (0 : Int) ≤ (m : Int) := by omega
      have i2 : (m : Int) < ss.length := by omega
      have i3 : (0 : Int) ≤ (m : Int) + 1 := by omega
      have i4 : (m : Int) + 1 < ss.length := by omega
      have i5 : IntKind.i64.wrap ((m : Int) + 1 - 1) = m := by rw [wraps_i64 _ (by omega) (by omega)]; omega
      have i6 : IntKind.i64.wrap (m : Int) = m := wraps_i64 _ (by omega) (by omega)
      have i7 : ((m : Int) + 1).toNat = m + 1 := by omega
      generalize hx : ss[m] = xa at a0
      generalize hy : ss[m + 1] = ya at b0
      have HX : Hid (ss[m] = xa) := hx
      have HY : Hid (ss[m + 1] = ya) := hy
      clear hx hy
      by_cases hls : Op.bytesLess xa.toList ya.toList = true
      · have HLS : Hid _ := hls
        go_wp2_with fail
        go_region_held3 (fun w' => w'.cell? ⟨g, o + m, none⟩ = some (.string xa) ∧ w'.cell? ⟨g, o + (m + 1), none⟩ = some (.string ya))
          (first | (simp [go_sem, *]; done) | (go_split_ands; constructor <;> assumption))
          (first
            | (go_at_call_of 82 (Value.string xa); refine (itself_any xa _).mono ?_; rintro e w1 ⟨rfl, rfl⟩)
            | (go_at_call_of 82 (Value.string ya); refine (itself_any ya _).mono ?_; rintro e w2 ⟨rfl, rfl⟩))
        all_goals go_wp2
        all_goals
          refine ⟨⟨m + 2, by omega, by omega, by go_num, fun j hj hjk => ?_, HB.out.drew⟩, by simp [intOf]; omega⟩
          by_cases h : j + 1 < m + 1
          · exact HL.out j hj h
          · obtain rfl : j = m := by omega
            rw [HX.out, HY.out]
            exact HLS.out
      · have hls' : Op.bytesLess xa.toList ya.toList = false := by simpa using hls
        have HLS : Hid _ := hls'
        clear hls
        go_wp2_with fail
        go_region_held3 (fun w' => w'.cell? ⟨g, o + m, none⟩ = some (.string xa) ∧ w'.cell? ⟨g, o + (m + 1), none⟩ = some (.string ya))
          (first | (simp [go_sem, *]; done) | (go_split_ands; constructor <;> assumption))
          (first
            | (go_at_call_of 82 (Value.string xa); refine (itself_any xa _).mono ?_; rintro e w1 ⟨rfl, rfl⟩)
            | (go_at_call_of 82 (Value.string ya); refine (itself_any ya _).mono ?_; rintro e w2 ⟨rfl, rfl⟩))
        all_goals go_wp2
        all_goals
          go_ret
          refine ⟨?_, HB.out.drew⟩
          rw [riseB_no ss m hlt (by rw [HX.out, HY.out]; exact HLS.out)]
          rfl
    · go_wp2
      go_ret
      refine ⟨?_, HB.out⟩
      rw [riseB_yes ss (fun j hj => HL.out j hj (by omega))]
      rfl

theorem rs_any (v : Value) (ss : List ByteArray) (w : World) (h : IsTexts w v ss) :
    Calls Tryz.prog 81 #[v, .func (.func 82) #[] #[]] w fun e w' => e = .returned (.bool (riseB ss)) ∧ Below w.heap.size w w' := by
  have ho := old_of w v ss h
  have hn := h.1
  clear h
  obtain ⟨a, cap, rfl, hs⟩ := ho
  rcases hs with rfl | ⟨g, o, rfl, hg, hc⟩
  · refine (rs_zero a cap w).mono ?_
    rintro e w' ⟨rfl, rfl⟩
    exact ⟨rfl, Below.refl _ _⟩
  · exact rs_some g o cap ss w hn hc hg

abbrev Av (c : Value) (i : ByteArray) (o : Value) (f : Int) : Value := .agg #[c, .string i, o, .int .i64 f]
/-- What is wrong with an action. -/
def aeC (cs : List ByteArray) (i : ByteArray) (os : List ByteArray) (f : Int) : Int :=
  if 60 < cs.length then 2 else if 60 < os.length then 2 else if longB cs = true then 2 else if digOk i = false then 1 else if os.all pathOk = false then 1 else if riseB os = false then 6 else if noN f = true then 3 else 0

set_option maxHeartbeats 4000000 in
set_option maxRecDepth 100000 in
theorem ae_any (c o : Value) (cs os : List ByteArray) (i : ByteArray) (f : Int) (w : World) (hc : IsTexts w c cs) (ho : IsTexts w o os) (hm : MaxIs w) :
    Calls Tryz.prog 34 #[Av c i o f] w fun e w' => e = .returned (.int .i64 (aeC cs i os f)) ∧ Below w.heap.size w w' := by
  have hb0 : Below w.heap.size w (w.alloc (.cells #[c, .string i, o, .int .i64 f] 25)) := (Below.refl _ _).alloc (Nat.le_refl _) _
  have C1 : Hid (IsTexts (w.alloc (.cells #[c, .string i, o, .int .i64 f] 25)) c cs) := hc.up hb0
  have O1 : Hid (IsTexts (w.alloc (.cells #[c, .string i, o, .int .i64 f] 25)) o os) := ho.up hb0
  have M1 : Hid (MaxIs (w.alloc (.cells #[c, .string i, o, .int .i64 f] 25))) := hm.up hb0
  have HB0 : Hid (Below w.heap.size w (w.alloc (.cells #[c, .string i, o, .int .i64 f] 25))) := hb0
  have n1 := hc.1
  have n2 := ho.1
  obtain ⟨_, ac, cc, rfl, _⟩ := hc
  obtain ⟨_, ao, co, rfl, _⟩ := ho
  clear hb0 hm
  have n1' : (cs.length : Int) ≤ 4611686018427387904 := by omega
  have n2' : (os.length : Int) ≤ 4611686018427387904 := by omega
  by_cases g0 : 60 < cs.length
  · have HR : Hid (aeC cs i os f = 2) := by show _ = _; unfold aeC; rw [if_pos g0]
    have z1 : (60 : Int) < (cs.length : Int) := by omega
    clear g0
    go_enter Tryz.func34, Tryz.ntmps34
    go_wp2
    go_ret
    exact ⟨by rw [HR.out]; rfl, HB0.out⟩
  have z1 : (cs.length : Int) ≤ 60 := by omega
  by_cases g1 : 60 < os.length
  · have HR : Hid (aeC cs i os f = 2) := by show _ = _; unfold aeC; rw [if_neg g0, if_pos g1]
    have z2 : (60 : Int) < (os.length : Int) := by omega
    clear g0 g1
    go_enter Tryz.func34, Tryz.ntmps34
    go_wp2
    go_ret
    exact ⟨by rw [HR.out]; rfl, HB0.out⟩
  have z2 : (os.length : Int) ≤ 60 := by omega
  by_cases g2 : longB cs = true
  · have HR : Hid (aeC cs i os f = 2) := by show _ = _; unfold aeC; rw [if_neg g0, if_neg g1, if_pos g2]
    have h_lg : longB cs = true := g2
    clear g0 g1 g2
    go_enter Tryz.func34, Tryz.ntmps34
    go_wp2_with fail
    refine (cfl_any _ cs _ C1.out).mono ?_
    rintro e w2 ⟨rfl, rfl⟩
    rw [h_lg]
    go_wp2
    go_ret
    exact ⟨by rw [HR.out]; rfl, HB0.out⟩
  have h_lg : longB cs = false := by simpa using g2
  by_cases g3 : digOk i = false
  · have HR : Hid (aeC cs i os f = 1) := by show _ = _; unfold aeC; rw [if_neg g0, if_neg g1, if_neg g2, if_pos g3]
    have h_dg : digOk i = false := g3
    clear g0 g1 g2 g3
    go_enter Tryz.func34, Tryz.ntmps34
    go_wp2_with fail
    refine (cfl_any _ cs _ C1.out).mono ?_
    rintro e w2 ⟨rfl, rfl⟩
    rw [h_lg]
    go_wp2_with fail
    refine (Is_any i _).mono ?_
    rintro e w2 ⟨rfl, rfl⟩
    rw [h_dg]
    go_wp2
    go_ret
    exact ⟨by rw [HR.out]; rfl, HB0.out⟩
  have h_dg : digOk i = true := by simpa using g3
  by_cases g4 : os.all pathOk = false
  · have HR : Hid (aeC cs i os f = 1) := by show _ = _; unfold aeC; rw [if_neg g0, if_neg g1, if_neg g2, if_neg g3, if_pos g4]
    have h_pa : os.all pathOk = false := g4
    clear g0 g1 g2 g3 g4
    go_enter Tryz.func34, Tryz.ntmps34
    go_wp2_with fail
    refine (cfl_any _ cs _ C1.out).mono ?_
    rintro e w2 ⟨rfl, rfl⟩
    rw [h_lg]
    go_wp2_with fail
    refine (Is_any i _).mono ?_
    rintro e w2 ⟨rfl, rfl⟩
    rw [h_dg]
    go_wp2_with fail
    refine (cfp_any _ os _ O1.out M1.out).mono ?_
    rintro e w3 ⟨rfl, hb3⟩
    have q0 := (hb3.cell (p := ⟨w.heap.size, 2, none⟩) (by simp)).trans (show (w.alloc (.cells #[.slice ac cs.length cc, .string i, .slice ao os.length co, .int .i64 f] 25)).cell? ⟨w.heap.size, 2, none⟩ = some (.slice ao os.length co) by simp [go_sem])
    have q1 := (hb3.cell (p := ⟨w.heap.size, 3, none⟩) (by simp)).trans (show (w.alloc (.cells #[.slice ac cs.length cc, .string i, .slice ao os.length co, .int .i64 f] 25)).cell? ⟨w.heap.size, 3, none⟩ = some (.int .i64 f) by simp [go_sem])
    have B3 : Hid (Below w.heap.size w w3) := HB0.out.trans (hb3.mono HB0.out.size)
    have O3 : Hid (IsTexts w3 (.slice ao os.length co) os) := O1.out.up hb3
    have hs3 := hb3.size
    clear hb3
    rw [h_pa]
    go_wp2
    go_ret
    exact ⟨by rw [HR.out]; rfl, B3.out⟩
  have h_pa : os.all pathOk = true := by simpa using g4
  by_cases g5 : riseB os = false
  · have HR : Hid (aeC cs i os f = 6) := by show _ = _; unfold aeC; rw [if_neg g0, if_neg g1, if_neg g2, if_neg g3, if_neg g4, if_pos g5]
    have h_ri : riseB os = false := g5
    clear g0 g1 g2 g3 g4 g5
    go_enter Tryz.func34, Tryz.ntmps34
    go_wp2_with fail
    refine (cfl_any _ cs _ C1.out).mono ?_
    rintro e w2 ⟨rfl, rfl⟩
    rw [h_lg]
    go_wp2_with fail
    refine (Is_any i _).mono ?_
    rintro e w2 ⟨rfl, rfl⟩
    rw [h_dg]
    go_wp2_with fail
    refine (cfp_any _ os _ O1.out M1.out).mono ?_
    rintro e w3 ⟨rfl, hb3⟩
    have q0 := (hb3.cell (p := ⟨w.heap.size, 2, none⟩) (by simp)).trans (show (w.alloc (.cells #[.slice ac cs.length cc, .string i, .slice ao os.length co, .int .i64 f] 25)).cell? ⟨w.heap.size, 2, none⟩ = some (.slice ao os.length co) by simp [go_sem])
    have q1 := (hb3.cell (p := ⟨w.heap.size, 3, none⟩) (by simp)).trans (show (w.alloc (.cells #[.slice ac cs.length cc, .string i, .slice ao os.length co, .int .i64 f] 25)).cell? ⟨w.heap.size, 3, none⟩ = some (.int .i64 f) by simp [go_sem])
    have B3 : Hid (Below w.heap.size w w3) := HB0.out.trans (hb3.mono HB0.out.size)
    have O3 : Hid (IsTexts w3 (.slice ao os.length co) os) := O1.out.up hb3
    have hs3 := hb3.size
    clear hb3
    rw [h_pa]
    go_wp2_with fail
    refine (rs_any _ os w3 O3.out).mono ?_
    rintro e w4 ⟨rfl, hb4⟩
    have q2 := (hb4.cell (p := ⟨w.heap.size, 3, none⟩) (by simp at hs3; show w.heap.size < _; omega)).trans q1
    have B4 : Hid (Below w.heap.size w w4) := B3.out.trans (hb4.mono B3.out.size)
    clear hb4
    rw [h_ri]
    go_wp2
    go_ret
    exact ⟨by rw [HR.out]; rfl, B4.out⟩
  have h_ri : riseB os = true := by simpa using g5
  by_cases g6 : noN f = true
  · have HR : Hid (aeC cs i os f = 3) := by show _ = _; unfold aeC; rw [if_neg g0, if_neg g1, if_neg g2, if_neg g3, if_neg g4, if_neg g5, if_pos g6]
    have h_nn : noN f = true := g6
    clear g0 g1 g2 g3 g4 g5 g6
    go_enter Tryz.func34, Tryz.ntmps34
    go_wp2_with fail
    refine (cfl_any _ cs _ C1.out).mono ?_
    rintro e w2 ⟨rfl, rfl⟩
    rw [h_lg]
    go_wp2_with fail
    refine (Is_any i _).mono ?_
    rintro e w2 ⟨rfl, rfl⟩
    rw [h_dg]
    go_wp2_with fail
    refine (cfp_any _ os _ O1.out M1.out).mono ?_
    rintro e w3 ⟨rfl, hb3⟩
    have q0 := (hb3.cell (p := ⟨w.heap.size, 2, none⟩) (by simp)).trans (show (w.alloc (.cells #[.slice ac cs.length cc, .string i, .slice ao os.length co, .int .i64 f] 25)).cell? ⟨w.heap.size, 2, none⟩ = some (.slice ao os.length co) by simp [go_sem])
    have q1 := (hb3.cell (p := ⟨w.heap.size, 3, none⟩) (by simp)).trans (show (w.alloc (.cells #[.slice ac cs.length cc, .string i, .slice ao os.length co, .int .i64 f] 25)).cell? ⟨w.heap.size, 3, none⟩ = some (.int .i64 f) by simp [go_sem])
    have B3 : Hid (Below w.heap.size w w3) := HB0.out.trans (hb3.mono HB0.out.size)
    have O3 : Hid (IsTexts w3 (.slice ao os.length co) os) := O1.out.up hb3
    have hs3 := hb3.size
    clear hb3
    rw [h_pa]
    go_wp2_with fail
    refine (rs_any _ os w3 O3.out).mono ?_
    rintro e w4 ⟨rfl, hb4⟩
    have q2 := (hb4.cell (p := ⟨w.heap.size, 3, none⟩) (by simp at hs3; show w.heap.size < _; omega)).trans q1
    have B4 : Hid (Below w.heap.size w w4) := B3.out.trans (hb4.mono B3.out.size)
    clear hb4
    rw [h_ri]
    go_wp2_with fail
    refine (isNoNumber_noN f _).mono ?_
    rintro e w5 ⟨rfl, rfl⟩
    rw [h_nn]
    go_wp2
    go_ret
    exact ⟨by rw [HR.out]; rfl, B4.out⟩
  have h_nn : noN f = false := by simpa using g6
  have HR : Hid (aeC cs i os f = 0) := by show _ = _; unfold aeC; rw [if_neg g0, if_neg g1, if_neg g2, if_neg g3, if_neg g4, if_neg g5, if_neg g6]
  clear g0 g1 g2 g3 g4 g5 g6
  go_enter Tryz.func34, Tryz.ntmps34
  go_wp2_with fail
  refine (cfl_any _ cs _ C1.out).mono ?_
  rintro e w2 ⟨rfl, rfl⟩
  rw [h_lg]
  go_wp2_with fail
  refine (Is_any i _).mono ?_
  rintro e w2 ⟨rfl, rfl⟩
  rw [h_dg]
  go_wp2_with fail
  refine (cfp_any _ os _ O1.out M1.out).mono ?_
  rintro e w3 ⟨rfl, hb3⟩
  have q0 := (hb3.cell (p := ⟨w.heap.size, 2, none⟩) (by simp)).trans (show (w.alloc (.cells #[.slice ac cs.length cc, .string i, .slice ao os.length co, .int .i64 f] 25)).cell? ⟨w.heap.size, 2, none⟩ = some (.slice ao os.length co) by simp [go_sem])
  have q1 := (hb3.cell (p := ⟨w.heap.size, 3, none⟩) (by simp)).trans (show (w.alloc (.cells #[.slice ac cs.length cc, .string i, .slice ao os.length co, .int .i64 f] 25)).cell? ⟨w.heap.size, 3, none⟩ = some (.int .i64 f) by simp [go_sem])
  have B3 : Hid (Below w.heap.size w w3) := HB0.out.trans (hb3.mono HB0.out.size)
  have O3 : Hid (IsTexts w3 (.slice ao os.length co) os) := O1.out.up hb3
  have hs3 := hb3.size
  clear hb3
  rw [h_pa]
  go_wp2_with fail
  refine (rs_any _ os w3 O3.out).mono ?_
  rintro e w4 ⟨rfl, hb4⟩
  have q2 := (hb4.cell (p := ⟨w.heap.size, 3, none⟩) (by simp at hs3; show w.heap.size < _; omega)).trans q1
  have B4 : Hid (Below w.heap.size w w4) := B3.out.trans (hb4.mono B3.out.size)
  clear hb4
  rw [h_ri]
  go_wp2_with fail
  refine (isNoNumber_noN f _).mono ?_
  rintro e w5 ⟨rfl, rfl⟩
  rw [h_nn]
  go_wp2
  go_ret
  exact ⟨by rw [HR.out]; rfl, B4.out⟩
end Go.Proofs.YtcdgdmhlbgbklaaGreatDoor.Ac

/- What wire's packer does with an action, and Action. -/
namespace Go.Proofs.YtcdgdmhlbgbklaaGreatDoor.Ac
open Go.RowKit Go.Shelf

def pkL (ss : List ByteArray) : List UInt8 := pk ss.length ++ pkSS ss
def pkA (cs : List ByteArray) (i : ByteArray) (os : List ByteArray) (f : Nat) : List UInt8 := pkL cs ++ (pkT i ++ (pkL os ++ pk f))

set_option maxHeartbeats 2000000 in
set_option maxRecDepth 100000 in
theorem pk_action (B b f : Nat) (c o : Value) (cs os : List ByteArray) (i : ByteArray) (bs : List Value) (w : World) (h : PkIs B b bs w) (hc : OldTexts B w c cs) (ho : OldTexts B w o os) (kc : okTexts cs) (ko : okTexts os) (hi : i.size ≤ 100000) (hf : f ≤ 9007199254740991) (hlen : bs.length + (pkA cs i os f).length ≤ 140737488355328) (hBw : B ≤ w.heap.size) :
    Calls Tryz.prog 36 #[.pointer (some ⟨b, 0, none⟩), Av c i o f] w fun e w' => e = .returned (.tuple #[]) ∧ (PkIs B b (bs ++ Lib.byteCells (pkA cs i os f)) w' ∧ Kp B b w w') := by
  have hbl := pk_lt h
  have k0 : Kp B b w (w.alloc (.cells #[c, .string i, o, .int .i64 f] 25)) := ⟨(Below.refl _ _).alloc hBw _, (Lib.OthersKept.refl _ _ _).alloc _⟩
  have hx0 : (w.alloc (.cells #[c, .string i, o, .int .i64 f] 25)).heap[w.heap.size]? = some (.cells #[c, .string i, o, .int .i64 f] 25 (0, 0)) := heap_alloc_new w _
  have p0 := pk_alloc h (.cells #[c, .string i, o, .int .i64 f] 25)
  have hl : (pkA cs i os f).length = (pk cs.length ++ pkSS cs).length + ((pkT i).length + ((pk os.length ++ pkSS os).length + (pk f).length)) := by simp only [pkA, pkL, List.length_append]
  have K0 : Hid (Kp B b w (w.alloc (.cells #[c, .string i, o, .int .i64 f] 25))) := k0
  have P0 : Hid (PkIs B b bs (w.alloc (.cells #[c, .string i, o, .int .i64 f] 25))) := p0
  have X0 : Hid _ := hx0
  have hbw : B ≤ (w.alloc (.cells #[c, .string i, o, .int .i64 f] 25)).heap.size := Nat.le_trans hBw k0.size
  have C0 : Hid (OldTexts B w c cs) := hc
  have O0 : Hid (OldTexts B w o os) := ho
  have KC : Hid _ := kc
  have KO : Hid _ := ko
  obtain ⟨ac, cc, rfl, _⟩ := hc
  obtain ⟨ao, co, rfl, _⟩ := ho
  clear k0 hx0 p0 h kc ko
  go_enter Tryz.func36, Tryz.ntmps36
  go_wp2_with fail
  refine (pk_texts B b _ bs cs _ P0.out KC.out (texts_below C0.out K0.out.bel) (by omega) hbw).mono ?_
  rintro e w1 ⟨rfl, h1, hk1⟩
  have x1 := kp_cells hk1 X0.out (by omega) (by decide)
  have q1 : w1.cell? ⟨w.heap.size, 1, none⟩ = some (.string i) := by rw [Lib.cell_of_heap x1]; rfl
  have K1 : Hid (Kp B b w w1) := K0.out.trans hk1
  have P1 : Hid (PkIs B b (bs ++ Lib.byteCells (pk cs.length ++ pkSS cs)) w1) := h1
  have X1 : Hid _ := x1
  clear h1 hk1 x1
  go_wp2_with fail
  refine (pk_text B b _ i w1 P1.out (by omega) (by simp only [Lib.byteCells, List.length_append, List.length_map] at *; omega) (Nat.le_trans hBw K1.out.size)).mono ?_
  rintro e w2 ⟨rfl, h2, hk2⟩
  have x2 := kp_cells hk2 X1.out (by omega) (by decide)
  have q2 : w2.cell? ⟨w.heap.size, 2, none⟩ = some (.slice ao os.length co) := by rw [Lib.cell_of_heap x2]; rfl
  have K2 : Hid (Kp B b w w2) := K1.out.trans hk2
  have P2 : Hid (PkIs B b (bs ++ Lib.byteCells (pk cs.length ++ pkSS cs) ++ Lib.byteCells (pkT i)) w2) := h2
  have X2 : Hid _ := x2
  clear h2 hk2 x2
  go_wp2_with fail
  refine (pk_texts B b _ _ os w2 P2.out KO.out (texts_below O0.out K2.out.bel) (by simp only [Lib.byteCells, List.length_append, List.length_map] at *; omega) (Nat.le_trans hBw K2.out.size)).mono ?_
  rintro e w3 ⟨rfl, h3, hk3⟩
  have x3 := kp_cells hk3 X2.out (by omega) (by decide)
  have q3 : w3.cell? ⟨w.heap.size, 3, none⟩ = some (.int .i64 f) := by rw [Lib.cell_of_heap x3]; rfl
  have K3 : Hid (Kp B b w w3) := K2.out.trans hk3
  have P3 : Hid (PkIs B b (bs ++ Lib.byteCells (pk cs.length ++ pkSS cs) ++ Lib.byteCells (pkT i) ++ Lib.byteCells (pk os.length ++ pkSS os)) w3) := h3
  clear h3 hk3 x3
  go_wp2_with fail
  refine (number_any B b f _ w3 P3.out hf (by simp only [Lib.byteCells, List.length_append, List.length_map] at *; omega) (Nat.le_trans hBw K3.out.size)).mono ?_
  rintro e w4 ⟨rfl, h4, hk4⟩
  go_wp2
  go_end0
  refine ⟨rfl, ?_, K3.out.trans hk4⟩
  unfold pkA
  rw [byteCells_app, byteCells_app, byteCells_app, ← List.append_assoc, ← List.append_assoc, ← List.append_assoc]
  exact h4

theorem pkA_len (cs os : List ByteArray) (i : ByteArray) (f : Nat) (kc : okTexts cs) (ko : okTexts os) (hi : i.size ≤ 100000) (hf : f ≤ 9007199254740991) : (pkA cs i os f).length ≤ 400132032 := by
  have h1 := pkTexts_len cs kc
  have h2 := pkTexts_len os ko
  have h3 := pk_len8 i.size (by omega)
  have h4 := size_of (s := i) rfl
  have h5 := pk_len8 f hf
  simp only [pkA, pkL, pkT, List.length_append] at *
  omega
theorem pkA_ne (cs os : List ByteArray) (i : ByteArray) (f : Nat) : pkA cs i os f ≠ [] := by
  intro h
  have hpos := pk_pos cs.length
  unfold pkA pkL at h
  rw [List.append_eq_nil_iff, List.append_eq_nil_iff] at h
  rw [h.1.1] at hpos
  simp at hpos

set_option maxHeartbeats 1000000 in
set_option maxRecDepth 100000 in
theorem packed_action (f : Nat) (c o : Value) (cs os : List ByteArray) (i : ByteArray) (w : World) (hc : IsTexts w c cs) (ho : IsTexts w o os) (kc : okTexts cs) (ko : okTexts os) (hi : i.size ≤ 100000) (hf : f ≤ 9007199254740991) :
    Calls Tryz.prog 35 #[Av c i o f, .func (.func 36) #[] #[]] w fun e w' => e = .returned (.string ⟨(pkA cs i os f).toArray⟩) ∧ Below w.heap.size w w' := by
  have hl := pkA_len cs os i f kc ko hi hf
  have HK : Hid (okTexts cs ∧ okTexts os) := ⟨kc, ko⟩
  have C0 : Hid (OldTexts w.heap.size w c cs) := old_of w c cs hc
  have O0 : Hid (OldTexts w.heap.size w o os) := old_of w o os ho
  obtain ⟨_, ac, cc, rfl, _⟩ := hc
  obtain ⟨_, ao, co, rfl, _⟩ := ho
  clear kc ko
  go_enter Tryz.func35, Tryz.ntmps35
  have hf0 : PkIs (w.heap.size + 1) (w.heap.size + 1) [] ((w.alloc (.cells #[.slice ac cs.length cc, .string i, .slice ao os.length co, .int .i64 f] 25)).alloc (.cells #[.pointer none, .slice none 0 0] 129)) := by
    have := Lib.fresh_isBuilder 129 5 (w.alloc (.cells #[.slice ac cs.length cc, .string i, .slice ao os.length co, .int .i64 f] 25))
    simpa only [World.size_alloc] using this
  have HF : Hid (PkIs (w.heap.size + 1) (w.heap.size + 1) [] ((w.alloc (.cells #[.slice ac cs.length cc, .string i, .slice ao os.length co, .int .i64 f] 25)).alloc (.cells #[.pointer none, .slice none 0 0] 129))) := hf0
  have HB : Hid (Below w.heap.size w ((w.alloc (.cells #[.slice ac cs.length cc, .string i, .slice ao os.length co, .int .i64 f] 25)).alloc (.cells #[.pointer none, .slice none 0 0] 129))) := ((Below.refl _ _).alloc (Nat.le_refl _) _).alloc (by simp) _
  clear hf0
  go_wp2_with fail
  refine (pk_action (w.heap.size + 1) (w.heap.size + 1) f _ _ cs os i [] _ HF.out ((texts_below C0.out HB.out).up (by omega)) ((texts_below O0.out HB.out).up (by omega)) HK.out.1 HK.out.2 hi hf (by simp only [List.length_nil]; omega) (by simp)).mono ?_
  rintro e w1 ⟨rfl, h1, hk1⟩
  have H1 : Hid (PkIs (w.heap.size + 1) (w.heap.size + 1) (Lib.byteCells (pkA cs i os f)) w1) := by show PkIs _ _ _ _; simpa using h1
  have B1 : Hid (Below w.heap.size w w1) := HB.out.trans (hk1.bel.mono (by omega))
  clear h1 hk1
  go_wp2_with fail
  refine (st_any (w.heap.size + 1) (w.heap.size + 1) (pkA cs i os f) w1 H1.out (pkA_ne cs os i f)).mono ?_
  rintro e w2 ⟨rfl, hb2⟩
  go_wp2
  go_ret
  exact ⟨rfl, B1.out.trans (hb2.mono (by omega))⟩

theorem aeC_ok {cs os : List ByteArray} {i : ByteArray} {f : Int} (h : aeC cs i os f = 0) : cs.length ≤ 60 ∧ os.length ≤ 60 ∧ (∀ s ∈ cs, s.size ≤ 100000) ∧ digOk i = true ∧ os.all pathOk = true ∧ riseB os = true ∧ noN f = false := by
  unfold aeC at h
  by_cases g0 : 60 < cs.length
  · rw [if_pos g0] at h; cases h
  rw [if_neg g0] at h
  by_cases g1 : 60 < os.length
  · rw [if_pos g1] at h; cases h
  rw [if_neg g1] at h
  by_cases g2 : longB cs = true
  · rw [if_pos g2] at h; cases h
  rw [if_neg g2] at h
  by_cases g3 : digOk i = false
  · rw [if_pos g3] at h; cases h
  rw [if_neg g3] at h
  by_cases g4 : os.all pathOk = false
  · rw [if_pos g4] at h; cases h
  rw [if_neg g4] at h
  by_cases g5 : riseB os = false
  · rw [if_pos g5] at h; cases h
  rw [if_neg g5] at h
  by_cases g6 : noN f = true
  · rw [if_pos g6] at h; cases h
  exact ⟨by omega, by omega, longB_no (by simpa using g2), by simpa using g3, by simpa using g4, by simpa using g5, by simpa using g6⟩
theorem pathOk_size {s : ByteArray} (h : pathOk s = true) : s.size ≤ 100 := by
  unfold pathOk at h
  rw [Bool.and_eq_true] at h
  simpa using h.1
theorem aeC_fit {cs os : List ByteArray} {i : ByteArray} {f : Int} (h : aeC cs i os f = 0) : okTexts cs ∧ okTexts os ∧ i.size ≤ 100000 ∧ 0 ≤ f ∧ f ≤ 9007199254740991 := by
  obtain ⟨h1, h2, h3, h4, h5, _, h7⟩ := aeC_ok h
  have h8 := noN_false h7
  have h9 := digOk_size h4
  refine ⟨⟨by omega, h3⟩, ⟨by omega, fun s hs => ?_⟩, by omega, h8.1, h8.2⟩
  have := pathOk_size (List.all_eq_true.1 h5 s hs)
  omega

set_option maxHeartbeats 1000000 in
set_option maxRecDepth 100000 in
theorem Action_yes (f : Nat) (c o : Value) (cs os : List ByteArray) (i : ByteArray) (w : World) (hc : IsTexts w c cs) (ho : IsTexts w o os) (hm : MaxIs w) (hok : aeC cs i os f = 0) :
    Calls Tryz.prog 13 #[Av c i o f] w fun e w' => e = .returned (.tuple #[.string ⟨(pkA cs i os f).toArray⟩, .int .i64 0]) ∧ Below w.heap.size w w' := by
  have hb0 : Below w.heap.size w (w.alloc (.cells #[c, .string i, o, .int .i64 f] 25)) := (Below.refl _ _).alloc (Nat.le_refl _) _
  have C1 : Hid (IsTexts (w.alloc (.cells #[c, .string i, o, .int .i64 f] 25)) c cs) := hc.up hb0
  have O1 : Hid (IsTexts (w.alloc (.cells #[c, .string i, o, .int .i64 f] 25)) o os) := ho.up hb0
  have M1 : Hid (MaxIs (w.alloc (.cells #[c, .string i, o, .int .i64 f] 25))) := hm.up hb0
  have HB0 : Hid (Below w.heap.size w (w.alloc (.cells #[c, .string i, o, .int .i64 f] 25))) := hb0
  have HK : Hid _ := hok
  obtain ⟨k1, k2, k3, _, k5⟩ := aeC_fit hok
  have F1 : Hid (okTexts cs ∧ okTexts os) := ⟨k1, k2⟩
  have k6 : f ≤ 9007199254740991 := by omega
  obtain ⟨_, ac, cc, rfl, _⟩ := hc
  obtain ⟨_, ao, co, rfl, _⟩ := ho
  clear hb0 hm k1 k2 k5 hok
  go_enter Tryz.func13, Tryz.ntmps13
  go_wp2_with fail
  refine (ae_any _ _ cs os i f _ C1.out O1.out M1.out).mono ?_
  rintro e w1 ⟨rfl, hb1⟩
  rw [HK.out]
  obtain ⟨hcl, hfr⟩ := bcell hb1
  have HB1 : Hid (Below w.heap.size w w1) := HB0.out.trans (hb1.mono (by simp))
  have C2 : Hid (IsTexts w1 (.slice ac cs.length cc) cs) := C1.out.up hb1
  have O2 : Hid (IsTexts w1 (.slice ao os.length co) os) := O1.out.up hb1
  clear hb1
  go_wp2_with fail
  refine (packed_action f _ _ cs os i w1 C2.out O2.out F1.out.1 F1.out.2 k3 k6).mono ?_
  rintro e w2 ⟨rfl, hb2⟩
  go_wp2
  go_ret2
  exact ⟨rfl, HB1.out.trans (hb2.mono HB1.out.size)⟩

set_option maxHeartbeats 1000000 in
theorem Action_no (f : Int) (c o : Value) (cs os : List ByteArray) (i : ByteArray) (w : World) (hc : IsTexts w c cs) (ho : IsTexts w o os) (hm : MaxIs w) (hno : aeC cs i os f ≠ 0) :
    Calls Tryz.prog 13 #[Av c i o f] w fun e w' => e = .returned (.tuple #[.string ⟨#[]⟩, .int .i64 (aeC cs i os f)]) ∧ Below w.heap.size w w' := by
  have hb0 : Below w.heap.size w (w.alloc (.cells #[c, .string i, o, .int .i64 f] 25)) := (Below.refl _ _).alloc (Nat.le_refl _) _
  have C1 : Hid (IsTexts (w.alloc (.cells #[c, .string i, o, .int .i64 f] 25)) c cs) := hc.up hb0
  have O1 : Hid (IsTexts (w.alloc (.cells #[c, .string i, o, .int .i64 f] 25)) o os) := ho.up hb0
  have M1 : Hid (MaxIs (w.alloc (.cells #[c, .string i, o, .int .i64 f] 25))) := hm.up hb0
  have HB0 : Hid (Below w.heap.size w (w.alloc (.cells #[c, .string i, o, .int .i64 f] 25))) := hb0
  have hne : (aeC cs i os f != 0) = true := by rw [bne_iff_ne]; exact hno
  obtain ⟨_, ac, cc, rfl, _⟩ := hc
  obtain ⟨_, ao, co, rfl, _⟩ := ho
  clear hb0 hm hno
  go_enter Tryz.func13, Tryz.ntmps13
  go_wp2_with fail
  refine (ae_any _ _ cs os i f _ C1.out O1.out M1.out).mono ?_
  rintro e w1 ⟨rfl, hb1⟩
  have HB1 : Hid (Below w.heap.size w w1) := HB0.out.trans (hb1.mono (by simp))
  clear hb1
  generalize hr : aeC cs i os f = r at hne ⊢
  have HR : Hid (aeC cs i os f = r) := hr
  clear hr
  go_wp2
  go_ret2
  exact ⟨by rw [HR.out]; rfl, HB1.out⟩
end Go.Proofs.YtcdgdmhlbgbklaaGreatDoor.Ac

/- Two lists of texts are never packed alike. -/
namespace Go.Proofs.YtcdgdmhlbgbklaaGreatDoor
open Go.RowKit Go.Shelf

theorem u8_ofNat_inj {a b : Nat} (ha : a < 256) (hb : b < 256) (h : UInt8.ofNat a = UInt8.ofNat b) : a = b := by
  have := congrArg UInt8.toNat h
  simp [UInt8.toNat_ofNat'] at this
  omega
theorem pk_inj : ∀ f n m : Nat, n ≤ f → ∀ r r' : List UInt8, pk n ++ r = pk m ++ r' → n = m ∧ r = r' := by
  intro f
  induction f with
  | zero =>
    intro n m hn r r' h
    obtain rfl : n = 0 := by omega
    by_cases hm : m < 128
    · rw [pk_small 0 (by decide), pk_small m hm] at h
      simp only [List.cons_append, List.nil_append, List.cons.injEq] at h
      exact ⟨u8_ofNat_inj (by decide) (by omega) h.1, h.2⟩
    · rw [pk_small 0 (by decide), pk_more m (by omega)] at h
      simp only [List.cons_append, List.nil_append, List.cons.injEq] at h
      have := u8_ofNat_inj (by decide) (by omega) h.1
      omega
  | succ f ih =>
    intro n m hn r r' h
    by_cases h1 : n < 128
    · by_cases hm : m < 128
      · rw [pk_small n h1, pk_small m hm] at h
        simp only [List.cons_append, List.nil_append, List.cons.injEq] at h
        exact ⟨u8_ofNat_inj (by omega) (by omega) h.1, h.2⟩
      · rw [pk_small n h1, pk_more m (by omega)] at h
        simp only [List.cons_append, List.nil_append, List.cons.injEq] at h
        have := u8_ofNat_inj (by omega) (by omega) h.1
        omega
    · by_cases hm : m < 128
      · rw [pk_more n (by omega), pk_small m hm] at h
        simp only [List.cons_append, List.nil_append, List.cons.injEq] at h
        have := u8_ofNat_inj (by omega) (by omega) h.1
        omega
      · rw [pk_more n (by omega), pk_more m (by omega)] at h
        simp only [List.cons_append, List.cons.injEq] at h
        have e1 := u8_ofNat_inj (by omega) (by omega) h.1
        have e2 := ih (n / 128) (m / 128) (by omega) r r' h.2
        exact ⟨by omega, e2.2⟩
theorem pkT_inj (s s' : ByteArray) (r r' : List UInt8) (h : pkT s ++ r = pkT s' ++ r') : s = s' ∧ r = r' := by
  unfold pkT at h
  rw [List.append_assoc, List.append_assoc] at h
  obtain ⟨e1, e2⟩ := pk_inj s.size s.size s'.size (Nat.le_refl _) _ _ h
  have hl : s.data.toList.length = s'.data.toList.length := by rw [← size_of (s := s) rfl, ← size_of (s := s') rfl]; exact e1
  obtain ⟨e3, e4⟩ := List.append_inj e2 hl
  exact ⟨(bytes_eq e3).trans (bytes_eq rfl).symm, e4⟩
theorem pkSS_inj : ∀ (ss ss' : List ByteArray) (r r' : List UInt8), ss.length = ss'.length → pkSS ss ++ r = pkSS ss' ++ r' → ss = ss' ∧ r = r' := by
  intro ss
  induction ss with
  | nil =>
    intro ss' r r' hl h
    have : ss' = [] := List.length_eq_zero_iff.1 hl.symm
    subst this
    exact ⟨rfl, by simpa [pkSS] using h⟩
  | cons s l ih =>
    intro ss' r r' hl h
    cases ss' with
    | nil => simp at hl
    | cons s' l' =>
      simp only [pkSS, List.append_assoc] at h
      obtain ⟨e1, e2⟩ := pkT_inj s s' _ _ h
      obtain ⟨e3, e4⟩ := ih l' r r' (by simpa using hl) e2
      exact ⟨by rw [e1, e3], e4⟩
theorem pkTexts_inj (ss ss' : List ByteArray) (h : pk ss.length ++ pkSS ss = pk ss'.length ++ pkSS ss') : ss = ss' := by
  obtain ⟨e1, e2⟩ := pk_inj ss.length ss.length ss'.length (Nat.le_refl _) _ _ h
  exact (pkSS_inj ss ss' [] [] e1 (by simpa using e2)).1
theorem map_bytes (ss : List ByteArray) : (ss.map fun s => s.data.toList).map (fun t => (⟨t.toArray⟩ : ByteArray)) = ss := by
  rw [List.map_map]
  conv => rhs; rw [← List.map_id ss]
  apply List.map_congr_left
  intro s _
  exact (bytes_eq rfl).symm
theorem pkAll_map (ss : List ByteArray) : pkAll (ss.map fun s => s.data.toList) = pkSS ss := by
  rw [← pkSS_all, map_bytes]

theorem ReadTexts_ss (ss : List ByteArray) (w : World) (hok : okTexts ss) :
    Calls Tryz.prog 20 #[.string ⟨(pk ss.length ++ pkSS ss).toArray⟩] w fun e w' => ∃ v, e = .returned (.tuple #[v, .int .i64 0]) ∧ OldTexts w'.heap.size w' v ss ∧ Below w.heap.size w w' := by
  have hl := pkTexts_len ss hok
  have hsz : (⟨(pk ss.length ++ pkSS ss).toArray⟩ : ByteArray).size = (pk ss.length ++ pkSS ss).length := size_of rfl
  refine (ReadTexts_pk _ w (ss.map fun s => s.data.toList) (by rw [hsz]; unfold maxLen; omega) (by simpa using hok.1) (fun t ht => ?_) (by rw [pkAll_map]; simp)).mono ?_
  · obtain ⟨s, hs, rfl⟩ := List.mem_map.1 ht
    rw [← size_of (s := s) rfl]
    exact hok.2 s hs
  · rintro e w' ⟨v, rfl, hown, hb⟩
    have ht := own_texts hown (by rw [List.length_map]; have := hok.1; omega)
    rw [map_bytes] at ht
    exact ⟨v, rfl, old_of w' v ss ht, hb⟩
end Go.Proofs.YtcdgdmhlbgbklaaGreatDoor
