/-
  No cell of these rows narrows 'for every input' (looked for: loops, veiled, ifaces, maps, wideKeys, modest, calm, conditions, laid).
  DERIVED. THE GIVEN ROWS OF THIS SEAT. 5 by the template 'for every input the law returns true; each argument reads behind the call as it read before'; 0 by the template 'total and deterministic' (their statements: YtligalcphlfmcacTotals.lean).
  GIVEN WITH THE SEED: the statements are not yours to turn. If you find one false, say at which input.
  Laid BY PROGRAM, IN A SANDBOX (cutbox-rows.mjs): the forced cells as the released guide's own fill.sh prints them over the translation 73505ecd02db8ea0… (all of the seat's roots in one cut). By AI agents, Wed Nov 11 2026. No macro, syntax, notation, axiom, sorry.
-/
import Derived.Test.YtligalcphlfmcacChecked
import GoSem.Claim
import GoSem.ClaimJoined
import GoSem.ClaimMapViews
import Derived.JoinedTies
import Derived.KernelRfl
namespace Go.Proofs.Ytligalcphlfmcac
/- THE CELL 'sum', in the pinned program and in every row, IS THE sha256 OF THE DUMP (.gsa) THAT YtligalcphlfmcacProg.lean LOADS. Nothing in Lean hashes anything: it is a label: what it is worth is what the hold of that sum in a sandbox is worth. -/
noncomputable def Try.pinned : Pinned := { name := "ytligalcphlfmcac", sum := "73505ecd02db8ea0052c1704753440926ee1904062599b88edad38f61e15fbf8", checked := Try.checked }
namespace Rows
def none {H : Type} : Left H := { results := [], args := [] }

/-- 'foundrylaw.WireTexts': WHATEVER THE INPUT: true; the input reads as it did. -/
def wireTextsSpec : ChangeSpec := { name := "wireTexts", fn := fun _ => fun
  | [d] => { results := [.lit (.bool true)], args := [d] }
  | _ => none }
def wireTextsRow : OpenClaim := { program := "ytligalcphlfmcac", sum := "73505ecd02db8ea0052c1704753440926ee1904062599b88edad38f61e15fbf8", func := "foundry/foundrylaw.WireTexts", spec := "wireTexts", inPlace := ["internal/abi.NoEscape"], unfollowed := true, recurses := true, apart := false }
def WireTextsSaid : Prop := wireTextsRow.holds Try.pinned (OpenSpec.ofChange wireTextsSpec)

/-- ITS FALSE NEIGHBOUR: 'it returns false'. Refute it at one input. -/
def wireTextsWrong : ChangeSpec := { name := "wireTexts", fn := fun _ => fun
  | [d] => { results := [.lit (.bool false)], args := [d] }
  | _ => none }
def WireTextsWrongFalsely : Prop := wireTextsRow.holds Try.pinned (OpenSpec.ofChange wireTextsWrong)

/-- 'foundrylaw.WireNodes': WHATEVER THE INPUT: true; the input reads as it did. -/
def wireNodesSpec : ChangeSpec := { name := "wireNodes", fn := fun _ => fun
  | [d] => { results := [.lit (.bool true)], args := [d] }
  | _ => none }
def wireNodesRow : OpenClaim := { program := "ytligalcphlfmcac", sum := "73505ecd02db8ea0052c1704753440926ee1904062599b88edad38f61e15fbf8", func := "foundry/foundrylaw.WireNodes", spec := "wireNodes", inPlace := ["internal/abi.NoEscape"], unfollowed := true, recurses := true, apart := false }
def WireNodesSaid : Prop := wireNodesRow.holds Try.pinned (OpenSpec.ofChange wireNodesSpec)

/-- ITS FALSE NEIGHBOUR: 'it returns false'. Refute it at one input. -/
def wireNodesWrong : ChangeSpec := { name := "wireNodes", fn := fun _ => fun
  | [d] => { results := [.lit (.bool false)], args := [d] }
  | _ => none }
def WireNodesWrongFalsely : Prop := wireNodesRow.holds Try.pinned (OpenSpec.ofChange wireNodesWrong)

/-- 'foundrylaw.WireResults': WHATEVER THE INPUT: true; the input reads as it did. -/
def wireResultsSpec : ChangeSpec := { name := "wireResults", fn := fun _ => fun
  | [d] => { results := [.lit (.bool true)], args := [d] }
  | _ => none }
def wireResultsRow : OpenClaim := { program := "ytligalcphlfmcac", sum := "73505ecd02db8ea0052c1704753440926ee1904062599b88edad38f61e15fbf8", func := "foundry/foundrylaw.WireResults", spec := "wireResults", inPlace := ["internal/abi.NoEscape"], unfollowed := true, recurses := true, apart := false }
def WireResultsSaid : Prop := wireResultsRow.holds Try.pinned (OpenSpec.ofChange wireResultsSpec)

/-- ITS FALSE NEIGHBOUR: 'it returns false'. Refute it at one input. -/
def wireResultsWrong : ChangeSpec := { name := "wireResults", fn := fun _ => fun
  | [d] => { results := [.lit (.bool false)], args := [d] }
  | _ => none }
def WireResultsWrongFalsely : Prop := wireResultsRow.holds Try.pinned (OpenSpec.ofChange wireResultsWrong)

/-- 'foundrylaw.WireReadTexts': WHATEVER THE INPUT: true; the input reads as it did. -/
def wireReadTextsSpec : ChangeSpec := { name := "wireReadTexts", fn := fun _ => fun
  | [d1, d2] => { results := [.lit (.bool true)], args := [d1, d2] }
  | _ => none }
def wireReadTextsRow : OpenClaim := { program := "ytligalcphlfmcac", sum := "73505ecd02db8ea0052c1704753440926ee1904062599b88edad38f61e15fbf8", func := "foundry/foundrylaw.WireReadTexts", spec := "wireReadTexts", inPlace := ["internal/abi.NoEscape"], unfollowed := true, recurses := true, apart := false }
def WireReadTextsSaid : Prop := wireReadTextsRow.holds Try.pinned (OpenSpec.ofChange wireReadTextsSpec)

/-- ITS FALSE NEIGHBOUR: 'it returns false'. Refute it at one input. -/
def wireReadTextsWrong : ChangeSpec := { name := "wireReadTexts", fn := fun _ => fun
  | [d1, d2] => { results := [.lit (.bool false)], args := [d1, d2] }
  | _ => none }
def WireReadTextsWrongFalsely : Prop := wireReadTextsRow.holds Try.pinned (OpenSpec.ofChange wireReadTextsWrong)

/-- 'foundrylaw.WireReadNodes': WHATEVER THE INPUT: true; the input reads as it did. -/
def wireReadNodesSpec : ChangeSpec := { name := "wireReadNodes", fn := fun _ => fun
  | [d1, d2] => { results := [.lit (.bool true)], args := [d1, d2] }
  | _ => none }
def wireReadNodesRow : OpenClaim := { program := "ytligalcphlfmcac", sum := "73505ecd02db8ea0052c1704753440926ee1904062599b88edad38f61e15fbf8", func := "foundry/foundrylaw.WireReadNodes", spec := "wireReadNodes", inPlace := ["internal/abi.NoEscape"], unfollowed := true, recurses := true, apart := false }
def WireReadNodesSaid : Prop := wireReadNodesRow.holds Try.pinned (OpenSpec.ofChange wireReadNodesSpec)

/-- ITS FALSE NEIGHBOUR: 'it returns false'. Refute it at one input. -/
def wireReadNodesWrong : ChangeSpec := { name := "wireReadNodes", fn := fun _ => fun
  | [d1, d2] => { results := [.lit (.bool false)], args := [d1, d2] }
  | _ => none }
def WireReadNodesWrongFalsely : Prop := wireReadNodesRow.holds Try.pinned (OpenSpec.ofChange wireReadNodesWrong)

/- THE SECOND FORM. 'bulk': how many values and letters a reading holds, each counted each time it is reached (what is shared counts as often as it is met; a slice's spare places count too). A statement '..UptoSaid' is the law's where the arguments, and the package variables that the reading takes, are together of bulk at most 1048576: NARROWER than '..Said'. Prove '..Said' where nothing that the law and all that it calls make is longer than what came in: it says more and counts as full. Else prove '..UptoSaid'. A law counts once. -/
mutual
def uptoBulk {H : Type} : DataW H → Nat
  | .lit (.string bytes) => bytes.length + 1
  | .lit _ => 1
  | .nil => 1
  | .ptr d => uptoBulk d + 1
  | .slice elems spare => uptoBulkAll elems + uptoBulkAll spare + 1
  | .agg parts => uptoBulkAll parts + 1
  | .iface _ d => uptoBulk d + 1
  | .map entries => uptoBulkEntries entries + 1
  | .held _ => 1
def uptoBulkAll {H : Type} : List (DataW H) → Nat
  | [] => 0
  | d :: r => uptoBulk d + uptoBulkAll r
def uptoBulkEntries {H : Type} : List (Lit × DataW H) → Nat
  | [] => 0
  | x :: r => uptoBulkEntry x + uptoBulkEntries r
def uptoBulkEntry {H : Type} : Lit × DataW H → Nat
  | (.string bytes, d) => bytes.length + uptoBulk d + 1
  | (_, d) => uptoBulk d + 1
 end
def uptoSmall : (H : Type) → List (DataW H) → Bool := fun _ ds => decide (uptoBulkAll ds ≤ 1048576)
def OpenSpec.upto (s : _root_.Go.ChangeSpec) : _root_.Go.OpenSpec := { _root_.Go.OpenSpec.ofChange s with cond := some uptoSmall }

/-- 'foundrylaw.WireTexts', WHERE WHAT IT READS IS OF BULK AT MOST 1048576: true; the input reads as it did. -/
def wireTextsUptoRow : OpenClaim := { program := "ytligalcphlfmcac", sum := "73505ecd02db8ea0052c1704753440926ee1904062599b88edad38f61e15fbf8", func := "foundry/foundrylaw.WireTexts", spec := "wireTexts", inPlace := ["internal/abi.NoEscape"], unfollowed := true, recurses := true, apart := false, narrowed := true }
def WireTextsUptoSaid : Prop := wireTextsUptoRow.holds Try.pinned (OpenSpec.upto wireTextsSpec)

/-- 'foundrylaw.WireNodes', WHERE WHAT IT READS IS OF BULK AT MOST 1048576: true; the input reads as it did. -/
def wireNodesUptoRow : OpenClaim := { program := "ytligalcphlfmcac", sum := "73505ecd02db8ea0052c1704753440926ee1904062599b88edad38f61e15fbf8", func := "foundry/foundrylaw.WireNodes", spec := "wireNodes", inPlace := ["internal/abi.NoEscape"], unfollowed := true, recurses := true, apart := false, narrowed := true }
def WireNodesUptoSaid : Prop := wireNodesUptoRow.holds Try.pinned (OpenSpec.upto wireNodesSpec)

/-- 'foundrylaw.WireResults', WHERE WHAT IT READS IS OF BULK AT MOST 1048576: true; the input reads as it did. -/
def wireResultsUptoRow : OpenClaim := { program := "ytligalcphlfmcac", sum := "73505ecd02db8ea0052c1704753440926ee1904062599b88edad38f61e15fbf8", func := "foundry/foundrylaw.WireResults", spec := "wireResults", inPlace := ["internal/abi.NoEscape"], unfollowed := true, recurses := true, apart := false, narrowed := true }
def WireResultsUptoSaid : Prop := wireResultsUptoRow.holds Try.pinned (OpenSpec.upto wireResultsSpec)

/-- 'foundrylaw.WireReadTexts', WHERE WHAT IT READS IS OF BULK AT MOST 1048576: true; the input reads as it did. -/
def wireReadTextsUptoRow : OpenClaim := { program := "ytligalcphlfmcac", sum := "73505ecd02db8ea0052c1704753440926ee1904062599b88edad38f61e15fbf8", func := "foundry/foundrylaw.WireReadTexts", spec := "wireReadTexts", inPlace := ["internal/abi.NoEscape"], unfollowed := true, recurses := true, apart := false, narrowed := true }
def WireReadTextsUptoSaid : Prop := wireReadTextsUptoRow.holds Try.pinned (OpenSpec.upto wireReadTextsSpec)

/-- 'foundrylaw.WireReadNodes', WHERE WHAT IT READS IS OF BULK AT MOST 1048576: true; the input reads as it did. -/
def wireReadNodesUptoRow : OpenClaim := { program := "ytligalcphlfmcac", sum := "73505ecd02db8ea0052c1704753440926ee1904062599b88edad38f61e15fbf8", func := "foundry/foundrylaw.WireReadNodes", spec := "wireReadNodes", inPlace := ["internal/abi.NoEscape"], unfollowed := true, recurses := true, apart := false, narrowed := true }
def WireReadNodesUptoSaid : Prop := wireReadNodesUptoRow.holds Try.pinned (OpenSpec.upto wireReadNodesSpec)

end Rows
end Go.Proofs.Ytligalcphlfmcac
