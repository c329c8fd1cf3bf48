/- maps.Copy of files by their paths. -/
import Derived.Test.YtcpomkgfcpfedaaGreatDoorTrCh
import Derived.Lib.SlMapMerge
import Derived.Maps.Ext
import Derived.Maps.RangeWalk
import Derived.Sort.KeysCollected
import Derived.Laws.IdiomRangeMap
namespace Go.Proofs.YtcpomkgfcpfedaaGreatDoor
open Go.RowKit Go.Shelf Go.Maps Go.WideMaps Go.Sort

theorem invKF : ∀ key kl, keyOf Tryz.prog 9 key = some kl → ∃ x : List UInt8, key = encStr x := fun key kl hk => by
  obtain ⟨x, hx, _⟩ := Maps.keyOf_str Tryz.underlying9 hk
  exact ⟨x, hx⟩
theorem invVF : ∀ (v : Value) (y : DataW Unit × List MemPlace), fileE v = some y → ∃ f : Fl, v = encF f := fun v y hv => by
  obtain ⟨d, ps⟩ := y
  obtain ⟨f, hf, _⟩ := fileE_inv hv
  exact ⟨f, hf⟩
theorem encF_inj {f g : Fl} (h : encF f = encF g) : f = g := by
  have h1 := fileE_mk f
  rw [h, fileE_mk g] at h1
  injection h1 with h1
  injection h1 with h1 _
  exact (fD_inj h1).symm

/-- What both maps hold, the second ahead. -/
def BothD (D Dd Ds : DataW Unit) : Prop := (∀ k, Maps.has D k = (Maps.has Dd k || Maps.has Ds k)) ∧ ∀ k z, D.atKey k z = if Maps.has Ds k = true then Ds.atKey k z else Dd.atKey k z
end Go.Proofs.YtcpomkgfcpfedaaGreatDoor
