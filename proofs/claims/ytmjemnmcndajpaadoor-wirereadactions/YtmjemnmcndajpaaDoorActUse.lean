/- Actions that are read as they were packed; where an action lies; what the laws of actions lean on. -/
import Derived.Test.YtmjemnmcndajpaaDoorSameA
import Derived.Test.YtmjemnmcndajpaaDoorRefA
import Derived.Test.YtmjemnmcndajpaaDoorArgA
import Derived.Test.YtmjemnmcndajpaaDoorDoor
namespace Go.Proofs.YtmjemnmcndajpaaDoor
open Go.RowKit Go.Shelf

theorem pkAL_map (cs os : List ByteArray) (i : ByteArray) (f : Nat) : pkAL (cs.map fun s => s.data.toList) i (os.map fun s => s.data.toList) f = pkA cs i os f := by
  unfold pkAL pkLL pkA pkL
  rw [pkAll_map, pkAll_map, List.length_map, List.length_map]
theorem pkA_inj {cs os cs' os' : List ByteArray} {i i' : ByteArray} {f f' : Nat} (h : pkA cs i os f = pkA cs' i' os' f') : cs = cs' ∧ i = i' ∧ os = os' ∧ f = f' := by
  unfold pkA pkL at h
  simp only [List.append_assoc] at h
  obtain ⟨e1, h1⟩ := pk_inj _ _ _ (Nat.le_refl _) _ _ h
  obtain ⟨e2, h2⟩ := pkSS_inj cs cs' _ _ e1 h1
  obtain ⟨e3, h3⟩ := pkT_inj i i' _ _ h2
  obtain ⟨e4, h4⟩ := pk_inj _ _ _ (Nat.le_refl _) _ _ h3
  obtain ⟨e5, h5⟩ := pkSS_inj os os' _ _ e4 h4
  have e6 := pk_inj f f f' (Nat.le_refl _) [] [] (by simpa using h5)
  exact ⟨e2, e3, e5, e6.1⟩

theorem ReadAction_cs (f : Nat) (i : ByteArray) (cs os : List ByteArray) (w : World) (hm : MaxIs w) (hok : aeC cs i os f = 0) :
    Calls Tryd.prog 14 #[.string ⟨(pkA cs i os f).toArray⟩] w fun e w' => ∃ ac cc ao co, e = .returned (.tuple #[Av (.slice ac cs.length cc) i (.slice ao os.length co) f, .int .i64 0]) ∧ IsTexts w' (.slice ac cs.length cc) cs ∧ IsTexts w' (.slice ao os.length co) os ∧ Below w.heap.size w w' := by
  have e1 : mkB (cs.map fun s => s.data.toList) = cs := map_bytes cs
  have e2 : mkB (os.map fun s => s.data.toList) = os := map_bytes os
  obtain ⟨k1, k2, k3, _, k5⟩ := aeC_fit hok
  have hl := pkA_len cs os i f k1 k2 k3 (by omega)
  have h := ReadAction_pk f ⟨(pkA cs i os f).toArray⟩ i (cs.map fun s => s.data.toList) (os.map fun s => s.data.toList) w (by rw [show (⟨(pkA cs i os f).toArray⟩ : ByteArray).size = (pkA cs i os f).length from size_of rfl]; unfold maxLen; omega) hm (by rw [e1, e2]; exact hok) (by rw [pkAL_map])
  rw [e1, e2, List.length_map, List.length_map] at h
  exact h

/-- An action lies in block p. -/
def ActAt (w : World) (p : Nat) (c : Value) (i : ByteArray) (o : Value) (f : Int) : Prop := w.cell? ⟨p, 0, none⟩ = some c ∧ w.cell? ⟨p, 1, none⟩ = some (.string i) ∧ w.cell? ⟨p, 2, none⟩ = some o ∧ w.cell? ⟨p, 3, none⟩ = some (.int .i64 f)
theorem ActAt.up {B : Nat} {w w' : World} {p : Nat} {c : Value} {i : ByteArray} {o : Value} {f : Int} (h : ActAt w p c i o f) (hb : Below B w w') (hp : p < B) : ActAt w' p c i o f :=
  ⟨(hb.cell (p := ⟨p, 0, none⟩) hp).trans h.1, (hb.cell (p := ⟨p, 1, none⟩) hp).trans h.2.1, (hb.cell (p := ⟨p, 2, none⟩) hp).trans h.2.2.1, (hb.cell (p := ⟨p, 3, none⟩) hp).trans h.2.2.2⟩
theorem ActAt.new (w : World) (c : Value) (i : ByteArray) (o : Value) (f : Int) : ActAt (w.alloc (.cells #[c, .string i, o, .int .i64 f] 26)) w.heap.size c i o f := by
  have h := heap_alloc_new w (.cells #[c, .string i, o, .int .i64 f] 26)
  refine ⟨?_, ?_, ?_, ?_⟩ <;> (rw [Lib.cell_of_heap h]; rfl)
end Go.Proofs.YtmjemnmcndajpaaDoor
