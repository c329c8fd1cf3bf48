/- What the texts lean on where a seat has no packing. -/
import Derived.ProofKit
import Derived.Below
import Derived.WalkSmall
import Derived.Lib.SmallJoins
import Derived.Lib.Slices
import Derived.Lib.Walk
import Derived.Lib.OthersKept
import Derived.Lib.AppendStr
import Derived.Laws.Externs
import Derived.WalkSpells
import Derived.WalkLawsBesides
import Derived.Deep.RegionHeld3
import Derived.Deep.AppendLies
import Derived.Deep.QuietTactic
import Derived.BigQuiet
import Derived.BigRegion
import Derived.Shelf.Abstract
import Derived.Maps.OwnSet
import Derived.Maps.Views
import Derived.Maps.RangeWalk
import Derived.Lib.Hide
import Derived.Test.YtcpomkgfcpfedaaGreatDoorPlain
import Derived.Test.YtcpomkgfcpfedaaGreatDoorRows
import Derived.Test.YtcpomkgfcpfedaaGreatDoorChecked
namespace Go.Proofs.YtcpomkgfcpfedaaGreatDoor
open Go.RowKit Go.Shelf

theorem infS : (Tryz.prog.info? 9).map (fun i => (i.zero, i.size, i.bytes)) = some (some (.string ⟨#[]⟩), 1, 16) := by kernel_rfl
/-- A value that is a slice of these texts. -/
def IsTexts (w : World) (v : Value) (ss : List ByteArray) : Prop :=
  ss.length ≤ 4611686018427387904 ∧ ∃ a cap, v = .slice a ss.length cap ∧ (ss = [] ∨ ∃ g o, a = some ⟨g, o, none⟩ ∧ ∀ j (hj : j < ss.length), w.cell? ⟨g, o + j, none⟩ = some (.string ss[j]))
def strs (l : List (List UInt8)) : List Value := l.map fun t => .string ⟨t.toArray⟩
theorem addr_add (g o j : Nat) : (⟨g, o, none⟩ : Addr).add j = ⟨g, o + j, none⟩ := by
  unfold Addr.add
  split <;> simp_all
end Go.Proofs.YtcpomkgfcpfedaaGreatDoor
