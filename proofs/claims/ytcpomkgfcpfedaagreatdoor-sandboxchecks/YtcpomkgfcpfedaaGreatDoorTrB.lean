/- Check: files in memory; by their paths; do they rise? -/
import Derived.Test.YtcpomkgfcpfedaaGreatDoorTrK
import Derived.WalkSmall
import Derived.Deep.RegionHeld3
import Derived.Maps.OwnSet
import Derived.Lib.Walk
import Derived.Lib.Hide
import Derived.WalkKit
import Derived.Shelf.Abstract
namespace Go.Proofs.YtcpomkgfcpfedaaGreatDoor
open Go.RowKit Go.Shelf Go.Maps Go.WideMaps

theorem lawS : Keyed Tryz.prog 9 := string_keyed Tryz.underlying9
/-- The files L lie in block g from offset o on. -/
def FlAt (g o : Nat) (L : List Fl) (w : World) : Prop := ∀ j (hj : j < L.length), w.cell? ⟨g, o + j * 3, none⟩ = some (.string L[j].pa) ∧ w.cell? ⟨g, o + j * 3 + 1, none⟩ = some (.string L[j].tx) ∧ w.cell? ⟨g, o + j * 3 + 2, none⟩ = some (.bool L[j].rn)
theorem FlAt.below {B g o : Nat} {L : List Fl} {w w' : World} (h : FlAt g o L w) (hb : Below B w w') (hg : g < B) : FlAt g o L w' := fun j hj =>
  ⟨(hb.cell (p := ⟨g, o + j * 3, none⟩) hg).trans (h j hj).1, (hb.cell (p := ⟨g, o + j * 3 + 1, none⟩) hg).trans (h j hj).2.1, (hb.cell (p := ⟨g, o + j * 3 + 2, none⟩) hg).trans (h j hj).2.2⟩
/-- A slice that begins at ao has the files L. -/
def IsFl (w : World) (ao : Option Addr) (L : List Fl) : Prop := L = [] ∨ ∃ g o, ao = some ⟨g, o, none⟩ ∧ g < w.heap.size ∧ FlAt g o L w
theorem IsFl.below {B : Nat} {ao : Option Addr} {L : List Fl} {w w' : World} (h : IsFl w ao L) (hb : Below B w w') (hB : w.heap.size ≤ B) : IsFl w' ao L := by
  rcases h with h | ⟨g, o, h1, h2, h3⟩
  · exact .inl h
  · exact .inr ⟨g, o, h1, Nat.lt_of_lt_of_le h2 hb.size, h3.below hb (by omega)⟩

/-- How a file in a map reads. -/
def fileE (v : Value) : Option (DataW Unit × List MemPlace) := match v with
  | .agg a => match a.toList with
    | [.string p, .string t, .bool r] => some (fD ⟨p, t, r⟩, [])
    | _ => none
  | _ => none
theorem fileE_mk (f : Fl) : fileE (encF f) = some (fD f, []) := rfl
theorem fileE_inv {v : Value} {d : DataW Unit} {ps : List MemPlace} (h : fileE v = some (d, ps)) : ∃ f, v = encF f ∧ d = fD f := by
  unfold fileE at h
  split at h
  · rename_i a
    split at h
    · rename_i p t r e
      injection h with h
      injection h with h1 h2
      refine ⟨⟨p, t, r⟩, ?_, h1.symm⟩
      show Value.agg a = Value.agg #[.string p, .string t, .bool r]
      rw [← Array.toArray_toList (xs := a), e]
    · cases h
  · cases h
theorem fD_inj {f g : Fl} (h : fD f = fD g) : f = g := by
  obtain ⟨p, t, r⟩ := f
  obtain ⟨p2, t2, r2⟩ := g
  unfold fD at h
  injection h with h
  injection h with h1 h
  injection h with h2 h
  injection h with h3 _
  injection h1 with h1
  injection h1 with h1
  injection h2 with h2
  injection h2 with h2
  injection h3 with h3
  injection h3 with h3
  have e1 : p = p2 := by
    have := Array.toList_inj.1 (show p.data.toList = p2.data.toList from h1)
    obtain ⟨x⟩ := p; obtain ⟨y⟩ := p2; exact congrArg ByteArray.mk this
  have e2 : t = t2 := by
    have := Array.toList_inj.1 (show t.data.toList = t2.data.toList from h2)
    obtain ⟨x⟩ := t; obtain ⟨y⟩ := t2; exact congrArg ByteArray.mk this
  rw [e1, e2, show r = r2 from h3]
theorem zeroF (w : World) : (zeroValue 37).run Tryz.prog w = .ok (encF ⟨⟨#[]⟩, ⟨#[]⟩, false⟩) w := by kernel_rfl

theorem makeMap_n {t k e : TypeId} (ht : Tryz.prog.underlying t = some (.map k e)) (n : Nat) (w : World) : (Instr.makeMap t (some (.int .i64 (n : Int)))).run Tryz.prog w = .ok (.map (some w.heap.size)) (w.alloc (.map #[] 0)) := by
  simp [Instr.makeMap, run_underlying ht, asInt, asIntOf]

set_option maxHeartbeats 2000000 in
set_option maxRecDepth 100000 in
theorem byPath_any (ao : Option Addr) (cap : Nat) (L : List Fl) (w : World) (hn : L.length ≤ 1000000) (hl : IsFl w ao L) (hs : ∀ f ∈ L, f.pa.size ≤ maxLen) :
    Calls Tryz.prog 43 #[.slice ao L.length cap] w fun e w' => e = .returned (.map (some w.heap.size)) ∧ w'.ownsMap Tryz.prog 9 fileE w.heap.size L.length (byD L) ∧ Below w.heap.size w w' := by
  have HL : Hid (IsFl w ao L) := hl
  have HS : Hid (∀ f ∈ L, f.pa.size ≤ maxLen) := hs
  have hn1 : (L.length : Int) ≤ 1000000 := by omega
  have hmm := makeMap_n Tryz.underlying54
  clear hl hs
  go_enter Tryz.func43, Tryz.ntmps43
  go_wp2
  go_loopw [11] (fun i wr => ∃ k : Nat, k ≤ L.length ∧ i = .int .i64 k ∧ wr.ownsMap Tryz.prog 9 fileE w.heap.size k (byD (L.take k)) ∧ Below w.heap.size w wr) (fun i _ => L.length - (intOf i).toNat)
  case atStart => exact ⟨0, by omega, rfl, World.ownsMap_made _ _ _ _, (Below.refl _ _).alloc (Nat.le_refl _) _⟩
  case round =>
    obtain ⟨k, hk, rfl, hown, hb⟩ := hrel
    by_cases hlt : k < L.length
    · have HLB := HL.out.below hb (Nat.le_refl _)
      rcases HLB with h | ⟨g, o, rfl, hg, hc⟩
      · exfalso; rw [h] at hlt; exact absurd hlt (by simp)
      have hgs : g < w.heap.size := by
        rcases HL.out with h | ⟨g2, o2, e, h2, _⟩
        · exfalso; rw [h] at hlt; exact absurd hlt (by simp)
        · injection e with e; injection e with e1 _; rw [e1]; exact h2
      obtain ⟨c0, c1, c2⟩ := hc k hlt
      have hsz : L[k].pa.size ≤ maxLen := HS.out _ (List.getElem_mem hlt)
      have HE : Hid (byD (L.take (k + 1)) = (byD (L.take k)).put (.string (pth L[k])) (fD L[k])) := by
        show _ = _
        rw [List.take_succ_eq_append_getElem hlt, byD_snoc]
      have HB : Hid (Below w.heap.size w wr) := hb
      have hwz := hb.size
      generalize hx : L[k] = x at c0 c1 c2 hsz HE
      clear hx
      obtain ⟨p, t, r⟩ := x
      simp only at c0 c1 c2 hsz
      have hkey := keyOf_string_mk Tryz.underlying9 hsz
      have hown2 := hown.alloc (.cells #[.string p, .string t, .bool r] 37)
      clear hb hown hc
      go_wp2_with (first
        | (at_mapUpdate; refine wpList_mapUpdate_own _ rfl _ _ _ 54 rfl 9 37 lawS Tryz.underlying54 _ w.heap.size k (byD (L.take k)) rfl hown2 (by unfold maxLen; omega) _ _ _ rfl rfl hkey _ [] (fileE_mk ⟨p, t, r⟩) ?_; intro w1 hown1 hgrow1)
        | go_in)
      refine ⟨⟨k + 1, by omega, by go_num, by rw [HE.out]; exact hown1, ?_⟩, by simp [intOf]; omega⟩
      exact ((HB.out.alloc (by omega) _).grown hgrow1 (by rw [World.size_alloc]; omega) (fun j hj => by cases hj; exact Nat.le_refl _))
    · obtain rfl : k = L.length := by omega
      have HB : Hid (Below w.heap.size w wr) := hb
      have HO : Hid (wr.ownsMap Tryz.prog 9 fileE w.heap.size L.length (byD L)) := by
        rw [List.take_length] at hown
        exact hown
      clear hb hown
      go_wp2
      go_ret
      exact ⟨rfl, HO.out, HB.out⟩
end Go.Proofs.YtcpomkgfcpfedaaGreatDoor
