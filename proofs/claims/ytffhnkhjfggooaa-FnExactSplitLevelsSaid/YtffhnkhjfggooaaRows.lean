/-
  No cell of these rows narrows 'for every input' (looked for: loops, veiled, ifaces, maps, wideKeys, modest, calm, conditions, laid).
  DERIVED. THE GIVEN ROWS OF THIS SEAT. 12 by the template 'for every input the law returns true; each argument reads behind the call as it read before'; 0 by the template 'total and deterministic' (their statements: YtffhnkhjfggooaaTotals.lean).
  GIVEN WITH THE SEED: the statements are not yours to turn. If you find one false, say at which input.
  Laid BY PROGRAM, IN A SANDBOX (cutbox-rows.mjs): the forced cells as the released guide's own fill.sh prints them over the translation 0f681989fce2d338… (all of the seat's roots in one cut). By AI agents, Wed Nov 11 2026. No macro, syntax, notation, axiom, sorry.
-/
import Derived.Test.YtffhnkhjfggooaaChecked
import GoSem.Claim
import GoSem.ClaimJoined
import GoSem.ClaimMapViews
import Derived.JoinedTies
import Derived.KernelRfl
namespace Go.Proofs.Ytffhnkhjfggooaa
/- THE CELL 'sum', in the pinned program and in every row, IS THE sha256 OF THE DUMP (.gsa) THAT YtffhnkhjfggooaaProg.lean LOADS. Nothing in Lean hashes anything: it is a label: what it is worth is what the hold of that sum in a sandbox is worth. -/
noncomputable def Try.pinned : Pinned := { name := "ytffhnkhjfggooaa", sum := "0f681989fce2d3388ee334a5ac4427bef8477bf9dc739c02e265bfff0dd7e4c1", checked := Try.checked }
namespace Rows
def none {H : Type} : Left H := { results := [], args := [] }

/-- 'laws.FnExactIsTurn': WHATEVER THE INPUT: true; the input reads as it did. -/
def fnExactIsTurnSpec : ChangeSpec := { name := "fnExactIsTurn", fn := fun _ => fun
  | [d1, d2] => { results := [.lit (.bool true)], args := [d1, d2] }
  | _ => none }
def fnExactIsTurnRow : OpenClaim := { program := "ytffhnkhjfggooaa", sum := "0f681989fce2d3388ee334a5ac4427bef8477bf9dc739c02e265bfff0dd7e4c1", func := "loop.example/g01403/laws.FnExactIsTurn", spec := "fnExactIsTurn", unfollowed := true, recurses := true, apart := false }
def FnExactIsTurnSaid : Prop := fnExactIsTurnRow.holds Try.pinned (OpenSpec.ofChange fnExactIsTurnSpec)

/-- ITS FALSE NEIGHBOUR: 'it returns false'. Refute it at one input. -/
def fnExactIsTurnWrong : ChangeSpec := { name := "fnExactIsTurn", fn := fun _ => fun
  | [d1, d2] => { results := [.lit (.bool false)], args := [d1, d2] }
  | _ => none }
def FnExactIsTurnWrongFalsely : Prop := fnExactIsTurnRow.holds Try.pinned (OpenSpec.ofChange fnExactIsTurnWrong)

/-- 'laws.FnExactCanChange': WHATEVER THE INPUT: true; the input reads as it did. -/
def fnExactCanChangeSpec : ChangeSpec := { name := "fnExactCanChange", fn := fun _ => fun
  | [d1, d2, d3, d4] => { results := [.lit (.bool true)], args := [d1, d2, d3, d4] }
  | _ => none }
def fnExactCanChangeRow : OpenClaim := { program := "ytffhnkhjfggooaa", sum := "0f681989fce2d3388ee334a5ac4427bef8477bf9dc739c02e265bfff0dd7e4c1", func := "loop.example/g01403/laws.FnExactCanChange", spec := "fnExactCanChange", unfollowed := true, recurses := true, apart := false }
def FnExactCanChangeSaid : Prop := fnExactCanChangeRow.holds Try.pinned (OpenSpec.ofChange fnExactCanChangeSpec)

/-- ITS FALSE NEIGHBOUR: 'it returns false'. Refute it at one input. -/
def fnExactCanChangeWrong : ChangeSpec := { name := "fnExactCanChange", fn := fun _ => fun
  | [d1, d2, d3, d4] => { results := [.lit (.bool false)], args := [d1, d2, d3, d4] }
  | _ => none }
def FnExactCanChangeWrongFalsely : Prop := fnExactCanChangeRow.holds Try.pinned (OpenSpec.ofChange fnExactCanChangeWrong)

/-- 'laws.FnExactFactorOf': WHATEVER THE INPUT: true; the input reads as it did. -/
def fnExactFactorOfSpec : ChangeSpec := { name := "fnExactFactorOf", fn := fun _ => fun
  | [d1, d2, d3] => { results := [.lit (.bool true)], args := [d1, d2, d3] }
  | _ => none }
def fnExactFactorOfRow : OpenClaim := { program := "ytffhnkhjfggooaa", sum := "0f681989fce2d3388ee334a5ac4427bef8477bf9dc739c02e265bfff0dd7e4c1", func := "loop.example/g01403/laws.FnExactFactorOf", spec := "fnExactFactorOf", unfollowed := true, recurses := true, apart := false }
def FnExactFactorOfSaid : Prop := fnExactFactorOfRow.holds Try.pinned (OpenSpec.ofChange fnExactFactorOfSpec)

/-- ITS FALSE NEIGHBOUR: 'it returns false'. Refute it at one input. -/
def fnExactFactorOfWrong : ChangeSpec := { name := "fnExactFactorOf", fn := fun _ => fun
  | [d1, d2, d3] => { results := [.lit (.bool false)], args := [d1, d2, d3] }
  | _ => none }
def FnExactFactorOfWrongFalsely : Prop := fnExactFactorOfRow.holds Try.pinned (OpenSpec.ofChange fnExactFactorOfWrong)

/-- 'laws.FnExactSplitLevels': WHATEVER THE INPUT: true; the input reads as it did. -/
def fnExactSplitLevelsSpec : ChangeSpec := { name := "fnExactSplitLevels", fn := fun _ => fun
  | [d1, d2, d3, d4, d5] => { results := [.lit (.bool true)], args := [d1, d2, d3, d4, d5] }
  | _ => none }
def fnExactSplitLevelsRow : OpenClaim := { program := "ytffhnkhjfggooaa", sum := "0f681989fce2d3388ee334a5ac4427bef8477bf9dc739c02e265bfff0dd7e4c1", func := "loop.example/g01403/laws.FnExactSplitLevels", spec := "fnExactSplitLevels", inPlace := ["math.Float64bits", "math.Float64frombits"], unfollowed := true, recurses := true, apart := false }
def FnExactSplitLevelsSaid : Prop := fnExactSplitLevelsRow.holds Try.pinned (OpenSpec.ofChange fnExactSplitLevelsSpec)

/-- ITS FALSE NEIGHBOUR: 'it returns false'. Refute it at one input. -/
def fnExactSplitLevelsWrong : ChangeSpec := { name := "fnExactSplitLevels", fn := fun _ => fun
  | [d1, d2, d3, d4, d5] => { results := [.lit (.bool false)], args := [d1, d2, d3, d4, d5] }
  | _ => none }
def FnExactSplitLevelsWrongFalsely : Prop := fnExactSplitLevelsRow.holds Try.pinned (OpenSpec.ofChange fnExactSplitLevelsWrong)

/-- 'laws.FnExactCountShell': WHATEVER THE INPUT: true; the input reads as it did. -/
def fnExactCountShellSpec : ChangeSpec := { name := "fnExactCountShell", fn := fun _ => fun
  | [d1, d2] => { results := [.lit (.bool true)], args := [d1, d2] }
  | _ => none }
def fnExactCountShellRow : OpenClaim := { program := "ytffhnkhjfggooaa", sum := "0f681989fce2d3388ee334a5ac4427bef8477bf9dc739c02e265bfff0dd7e4c1", func := "loop.example/g01403/laws.FnExactCountShell", spec := "fnExactCountShell", apart := false }
def FnExactCountShellSaid : Prop := fnExactCountShellRow.holds Try.pinned (OpenSpec.ofChange fnExactCountShellSpec)

/-- ITS FALSE NEIGHBOUR: 'it returns false'. Refute it at one input. -/
def fnExactCountShellWrong : ChangeSpec := { name := "fnExactCountShell", fn := fun _ => fun
  | [d1, d2] => { results := [.lit (.bool false)], args := [d1, d2] }
  | _ => none }
def FnExactCountShellWrongFalsely : Prop := fnExactCountShellRow.holds Try.pinned (OpenSpec.ofChange fnExactCountShellWrong)

/-- 'laws.FnExactRotorLevels': WHATEVER THE INPUT: true; the input reads as it did. -/
def fnExactRotorLevelsSpec : ChangeSpec := { name := "fnExactRotorLevels", fn := fun _ => fun
  | [d1, d2, d3] => { results := [.lit (.bool true)], args := [d1, d2, d3] }
  | _ => none }
def fnExactRotorLevelsRow : OpenClaim := { program := "ytffhnkhjfggooaa", sum := "0f681989fce2d3388ee334a5ac4427bef8477bf9dc739c02e265bfff0dd7e4c1", func := "loop.example/g01403/laws.FnExactRotorLevels", spec := "fnExactRotorLevels", inPlace := ["math.Float64bits", "math.Float64frombits"], unfollowed := true, recurses := true, apart := false }
def FnExactRotorLevelsSaid : Prop := fnExactRotorLevelsRow.holds Try.pinned (OpenSpec.ofChange fnExactRotorLevelsSpec)

/-- ITS FALSE NEIGHBOUR: 'it returns false'. Refute it at one input. -/
def fnExactRotorLevelsWrong : ChangeSpec := { name := "fnExactRotorLevels", fn := fun _ => fun
  | [d1, d2, d3] => { results := [.lit (.bool false)], args := [d1, d2, d3] }
  | _ => none }
def FnExactRotorLevelsWrongFalsely : Prop := fnExactRotorLevelsRow.holds Try.pinned (OpenSpec.ofChange fnExactRotorLevelsWrong)

/-- 'laws.FnExactTopLevels': WHATEVER THE INPUT: true; the input reads as it did. -/
def fnExactTopLevelsSpec : ChangeSpec := { name := "fnExactTopLevels", fn := fun _ => fun
  | [d1, d2, d3] => { results := [.lit (.bool true)], args := [d1, d2, d3] }
  | _ => none }
def fnExactTopLevelsRow : OpenClaim := { program := "ytffhnkhjfggooaa", sum := "0f681989fce2d3388ee334a5ac4427bef8477bf9dc739c02e265bfff0dd7e4c1", func := "loop.example/g01403/laws.FnExactTopLevels", spec := "fnExactTopLevels", inPlace := ["math.Float64bits", "math.Float64frombits"], unfollowed := true, recurses := true, apart := false }
def FnExactTopLevelsSaid : Prop := fnExactTopLevelsRow.holds Try.pinned (OpenSpec.ofChange fnExactTopLevelsSpec)

/-- ITS FALSE NEIGHBOUR: 'it returns false'. Refute it at one input. -/
def fnExactTopLevelsWrong : ChangeSpec := { name := "fnExactTopLevels", fn := fun _ => fun
  | [d1, d2, d3] => { results := [.lit (.bool false)], args := [d1, d2, d3] }
  | _ => none }
def FnExactTopLevelsWrongFalsely : Prop := fnExactTopLevelsRow.holds Try.pinned (OpenSpec.ofChange fnExactTopLevelsWrong)

/-- 'laws.FnExactRotorStates': WHATEVER THE INPUT: true; the input reads as it did. -/
def fnExactRotorStatesSpec : ChangeSpec := { name := "fnExactRotorStates", fn := fun _ => fun
  | [d1, d2] => { results := [.lit (.bool true)], args := [d1, d2] }
  | _ => none }
def fnExactRotorStatesRow : OpenClaim := { program := "ytffhnkhjfggooaa", sum := "0f681989fce2d3388ee334a5ac4427bef8477bf9dc739c02e265bfff0dd7e4c1", func := "loop.example/g01403/laws.FnExactRotorStates", spec := "fnExactRotorStates", apart := false }
def FnExactRotorStatesSaid : Prop := fnExactRotorStatesRow.holds Try.pinned (OpenSpec.ofChange fnExactRotorStatesSpec)

/-- ITS FALSE NEIGHBOUR: 'it returns false'. Refute it at one input. -/
def fnExactRotorStatesWrong : ChangeSpec := { name := "fnExactRotorStates", fn := fun _ => fun
  | [d1, d2] => { results := [.lit (.bool false)], args := [d1, d2] }
  | _ => none }
def FnExactRotorStatesWrongFalsely : Prop := fnExactRotorStatesRow.holds Try.pinned (OpenSpec.ofChange fnExactRotorStatesWrong)

/-- 'laws.FnExactRotorWeights': WHATEVER THE INPUT: true; the input reads as it did. -/
def fnExactRotorWeightsSpec : ChangeSpec := { name := "fnExactRotorWeights", fn := fun _ => fun
  | [d1, d2, d3] => { results := [.lit (.bool true)], args := [d1, d2, d3] }
  | _ => none }
def fnExactRotorWeightsRow : OpenClaim := { program := "ytffhnkhjfggooaa", sum := "0f681989fce2d3388ee334a5ac4427bef8477bf9dc739c02e265bfff0dd7e4c1", func := "loop.example/g01403/laws.FnExactRotorWeights", spec := "fnExactRotorWeights", inPlace := ["math.Float64frombits", "math.Float64bits"], unfollowed := true, recurses := true, apart := false }
def FnExactRotorWeightsSaid : Prop := fnExactRotorWeightsRow.holds Try.pinned (OpenSpec.ofChange fnExactRotorWeightsSpec)

/-- ITS FALSE NEIGHBOUR: 'it returns false'. Refute it at one input. -/
def fnExactRotorWeightsWrong : ChangeSpec := { name := "fnExactRotorWeights", fn := fun _ => fun
  | [d1, d2, d3] => { results := [.lit (.bool false)], args := [d1, d2, d3] }
  | _ => none }
def FnExactRotorWeightsWrongFalsely : Prop := fnExactRotorWeightsRow.holds Try.pinned (OpenSpec.ofChange fnExactRotorWeightsWrong)

/-- 'laws.FnExactTotalsOf': WHATEVER THE INPUT: true; the input reads as it did. -/
def fnExactTotalsOfSpec : ChangeSpec := { name := "fnExactTotalsOf", fn := fun _ => fun
  | [d1, d2] => { results := [.lit (.bool true)], args := [d1, d2] }
  | _ => none }
def fnExactTotalsOfRow : OpenClaim := { program := "ytffhnkhjfggooaa", sum := "0f681989fce2d3388ee334a5ac4427bef8477bf9dc739c02e265bfff0dd7e4c1", func := "loop.example/g01403/laws.FnExactTotalsOf", spec := "fnExactTotalsOf", unfollowed := true, recurses := true, apart := false }
def FnExactTotalsOfSaid : Prop := fnExactTotalsOfRow.holds Try.pinned (OpenSpec.ofChange fnExactTotalsOfSpec)

/-- ITS FALSE NEIGHBOUR: 'it returns false'. Refute it at one input. -/
def fnExactTotalsOfWrong : ChangeSpec := { name := "fnExactTotalsOf", fn := fun _ => fun
  | [d1, d2] => { results := [.lit (.bool false)], args := [d1, d2] }
  | _ => none }
def FnExactTotalsOfWrongFalsely : Prop := fnExactTotalsOfRow.holds Try.pinned (OpenSpec.ofChange fnExactTotalsOfWrong)

/-- 'laws.FnExactCountTotals': WHATEVER THE INPUT: true; the input reads as it did. -/
def fnExactCountTotalsSpec : ChangeSpec := { name := "fnExactCountTotals", fn := fun _ => fun
  | [d] => { results := [.lit (.bool true)], args := [d] }
  | _ => none }
def fnExactCountTotalsRow : OpenClaim := { program := "ytffhnkhjfggooaa", sum := "0f681989fce2d3388ee334a5ac4427bef8477bf9dc739c02e265bfff0dd7e4c1", func := "loop.example/g01403/laws.FnExactCountTotals", spec := "fnExactCountTotals", unfollowed := true, recurses := true, apart := false }
def FnExactCountTotalsSaid : Prop := fnExactCountTotalsRow.holds Try.pinned (OpenSpec.ofChange fnExactCountTotalsSpec)

/-- ITS FALSE NEIGHBOUR: 'it returns false'. Refute it at one input. -/
def fnExactCountTotalsWrong : ChangeSpec := { name := "fnExactCountTotals", fn := fun _ => fun
  | [d] => { results := [.lit (.bool false)], args := [d] }
  | _ => none }
def FnExactCountTotalsWrongFalsely : Prop := fnExactCountTotalsRow.holds Try.pinned (OpenSpec.ofChange fnExactCountTotalsWrong)

/-- 'laws.FnTotals': WHATEVER THE INPUT: true; the input reads as it did. -/
def fnTotalsSpec : ChangeSpec := { name := "fnTotals", fn := fun _ => fun
  | [d1, d2] => { results := [.lit (.bool true)], args := [d1, d2] }
  | _ => none }
def fnTotalsRow : OpenClaim := { program := "ytffhnkhjfggooaa", sum := "0f681989fce2d3388ee334a5ac4427bef8477bf9dc739c02e265bfff0dd7e4c1", func := "loop.example/g01403/laws.FnTotals", spec := "fnTotals", unfollowed := true, recurses := true, apart := false }
def FnTotalsSaid : Prop := fnTotalsRow.holds Try.pinned (OpenSpec.ofChange fnTotalsSpec)

/-- ITS FALSE NEIGHBOUR: 'it returns false'. Refute it at one input. -/
def fnTotalsWrong : ChangeSpec := { name := "fnTotals", fn := fun _ => fun
  | [d1, d2] => { results := [.lit (.bool false)], args := [d1, d2] }
  | _ => none }
def FnTotalsWrongFalsely : Prop := fnTotalsRow.holds Try.pinned (OpenSpec.ofChange fnTotalsWrong)

/- THE SECOND FORM. 'bulk': how many values and letters a reading holds, each counted each time it is reached (what is shared counts as often as it is met; a slice's spare places count too). A statement '..UptoSaid' is the law's where the arguments, and the package variables that the reading takes, are together of bulk at most 1048576: NARROWER than '..Said'. Prove '..Said' where nothing that the law and all that it calls make is longer than what came in: it says more and counts as full. Else prove '..UptoSaid'. A law counts once. -/
mutual
def uptoBulk {H : Type} : DataW H → Nat
  | .lit (.string bytes) => bytes.length + 1
  | .lit _ => 1
  | .nil => 1
  | .ptr d => uptoBulk d + 1
  | .slice elems spare => uptoBulkAll elems + uptoBulkAll spare + 1
  | .agg parts => uptoBulkAll parts + 1
  | .iface _ d => uptoBulk d + 1
  | .map entries => uptoBulkEntries entries + 1
  | .held _ => 1
def uptoBulkAll {H : Type} : List (DataW H) → Nat
  | [] => 0
  | d :: r => uptoBulk d + uptoBulkAll r
def uptoBulkEntries {H : Type} : List (Lit × DataW H) → Nat
  | [] => 0
  | x :: r => uptoBulkEntry x + uptoBulkEntries r
def uptoBulkEntry {H : Type} : Lit × DataW H → Nat
  | (.string bytes, d) => bytes.length + uptoBulk d + 1
  | (_, d) => uptoBulk d + 1
 end
def uptoSmall : (H : Type) → List (DataW H) → Bool := fun _ ds => decide (uptoBulkAll ds ≤ 1048576)
def OpenSpec.upto (s : _root_.Go.ChangeSpec) : _root_.Go.OpenSpec := { _root_.Go.OpenSpec.ofChange s with cond := some uptoSmall }

/-- 'laws.FnExactIsTurn', WHERE WHAT IT READS IS OF BULK AT MOST 1048576: true; the input reads as it did. -/
def fnExactIsTurnUptoRow : OpenClaim := { program := "ytffhnkhjfggooaa", sum := "0f681989fce2d3388ee334a5ac4427bef8477bf9dc739c02e265bfff0dd7e4c1", func := "loop.example/g01403/laws.FnExactIsTurn", spec := "fnExactIsTurn", unfollowed := true, recurses := true, apart := false, narrowed := true }
def FnExactIsTurnUptoSaid : Prop := fnExactIsTurnUptoRow.holds Try.pinned (OpenSpec.upto fnExactIsTurnSpec)

/-- 'laws.FnExactCanChange', WHERE WHAT IT READS IS OF BULK AT MOST 1048576: true; the input reads as it did. -/
def fnExactCanChangeUptoRow : OpenClaim := { program := "ytffhnkhjfggooaa", sum := "0f681989fce2d3388ee334a5ac4427bef8477bf9dc739c02e265bfff0dd7e4c1", func := "loop.example/g01403/laws.FnExactCanChange", spec := "fnExactCanChange", unfollowed := true, recurses := true, apart := false, narrowed := true }
def FnExactCanChangeUptoSaid : Prop := fnExactCanChangeUptoRow.holds Try.pinned (OpenSpec.upto fnExactCanChangeSpec)

/-- 'laws.FnExactFactorOf', WHERE WHAT IT READS IS OF BULK AT MOST 1048576: true; the input reads as it did. -/
def fnExactFactorOfUptoRow : OpenClaim := { program := "ytffhnkhjfggooaa", sum := "0f681989fce2d3388ee334a5ac4427bef8477bf9dc739c02e265bfff0dd7e4c1", func := "loop.example/g01403/laws.FnExactFactorOf", spec := "fnExactFactorOf", unfollowed := true, recurses := true, apart := false, narrowed := true }
def FnExactFactorOfUptoSaid : Prop := fnExactFactorOfUptoRow.holds Try.pinned (OpenSpec.upto fnExactFactorOfSpec)

/-- 'laws.FnExactSplitLevels', WHERE WHAT IT READS IS OF BULK AT MOST 1048576: true; the input reads as it did. -/
def fnExactSplitLevelsUptoRow : OpenClaim := { program := "ytffhnkhjfggooaa", sum := "0f681989fce2d3388ee334a5ac4427bef8477bf9dc739c02e265bfff0dd7e4c1", func := "loop.example/g01403/laws.FnExactSplitLevels", spec := "fnExactSplitLevels", inPlace := ["math.Float64bits", "math.Float64frombits"], unfollowed := true, recurses := true, apart := false, narrowed := true }
def FnExactSplitLevelsUptoSaid : Prop := fnExactSplitLevelsUptoRow.holds Try.pinned (OpenSpec.upto fnExactSplitLevelsSpec)

/-- 'laws.FnExactCountShell', WHERE WHAT IT READS IS OF BULK AT MOST 1048576: true; the input reads as it did. -/
def fnExactCountShellUptoRow : OpenClaim := { program := "ytffhnkhjfggooaa", sum := "0f681989fce2d3388ee334a5ac4427bef8477bf9dc739c02e265bfff0dd7e4c1", func := "loop.example/g01403/laws.FnExactCountShell", spec := "fnExactCountShell", apart := false, narrowed := true }
def FnExactCountShellUptoSaid : Prop := fnExactCountShellUptoRow.holds Try.pinned (OpenSpec.upto fnExactCountShellSpec)

/-- 'laws.FnExactRotorLevels', WHERE WHAT IT READS IS OF BULK AT MOST 1048576: true; the input reads as it did. -/
def fnExactRotorLevelsUptoRow : OpenClaim := { program := "ytffhnkhjfggooaa", sum := "0f681989fce2d3388ee334a5ac4427bef8477bf9dc739c02e265bfff0dd7e4c1", func := "loop.example/g01403/laws.FnExactRotorLevels", spec := "fnExactRotorLevels", inPlace := ["math.Float64bits", "math.Float64frombits"], unfollowed := true, recurses := true, apart := false, narrowed := true }
def FnExactRotorLevelsUptoSaid : Prop := fnExactRotorLevelsUptoRow.holds Try.pinned (OpenSpec.upto fnExactRotorLevelsSpec)

/-- 'laws.FnExactTopLevels', WHERE WHAT IT READS IS OF BULK AT MOST 1048576: true; the input reads as it did. -/
def fnExactTopLevelsUptoRow : OpenClaim := { program := "ytffhnkhjfggooaa", sum := "0f681989fce2d3388ee334a5ac4427bef8477bf9dc739c02e265bfff0dd7e4c1", func := "loop.example/g01403/laws.FnExactTopLevels", spec := "fnExactTopLevels", inPlace := ["math.Float64bits", "math.Float64frombits"], unfollowed := true, recurses := true, apart := false, narrowed := true }
def FnExactTopLevelsUptoSaid : Prop := fnExactTopLevelsUptoRow.holds Try.pinned (OpenSpec.upto fnExactTopLevelsSpec)

/-- 'laws.FnExactRotorStates', WHERE WHAT IT READS IS OF BULK AT MOST 1048576: true; the input reads as it did. -/
def fnExactRotorStatesUptoRow : OpenClaim := { program := "ytffhnkhjfggooaa", sum := "0f681989fce2d3388ee334a5ac4427bef8477bf9dc739c02e265bfff0dd7e4c1", func := "loop.example/g01403/laws.FnExactRotorStates", spec := "fnExactRotorStates", apart := false, narrowed := true }
def FnExactRotorStatesUptoSaid : Prop := fnExactRotorStatesUptoRow.holds Try.pinned (OpenSpec.upto fnExactRotorStatesSpec)

/-- 'laws.FnExactRotorWeights', WHERE WHAT IT READS IS OF BULK AT MOST 1048576: true; the input reads as it did. -/
def fnExactRotorWeightsUptoRow : OpenClaim := { program := "ytffhnkhjfggooaa", sum := "0f681989fce2d3388ee334a5ac4427bef8477bf9dc739c02e265bfff0dd7e4c1", func := "loop.example/g01403/laws.FnExactRotorWeights", spec := "fnExactRotorWeights", inPlace := ["math.Float64frombits", "math.Float64bits"], unfollowed := true, recurses := true, apart := false, narrowed := true }
def FnExactRotorWeightsUptoSaid : Prop := fnExactRotorWeightsUptoRow.holds Try.pinned (OpenSpec.upto fnExactRotorWeightsSpec)

/-- 'laws.FnExactTotalsOf', WHERE WHAT IT READS IS OF BULK AT MOST 1048576: true; the input reads as it did. -/
def fnExactTotalsOfUptoRow : OpenClaim := { program := "ytffhnkhjfggooaa", sum := "0f681989fce2d3388ee334a5ac4427bef8477bf9dc739c02e265bfff0dd7e4c1", func := "loop.example/g01403/laws.FnExactTotalsOf", spec := "fnExactTotalsOf", unfollowed := true, recurses := true, apart := false, narrowed := true }
def FnExactTotalsOfUptoSaid : Prop := fnExactTotalsOfUptoRow.holds Try.pinned (OpenSpec.upto fnExactTotalsOfSpec)

/-- 'laws.FnExactCountTotals', WHERE WHAT IT READS IS OF BULK AT MOST 1048576: true; the input reads as it did. -/
def fnExactCountTotalsUptoRow : OpenClaim := { program := "ytffhnkhjfggooaa", sum := "0f681989fce2d3388ee334a5ac4427bef8477bf9dc739c02e265bfff0dd7e4c1", func := "loop.example/g01403/laws.FnExactCountTotals", spec := "fnExactCountTotals", unfollowed := true, recurses := true, apart := false, narrowed := true }
def FnExactCountTotalsUptoSaid : Prop := fnExactCountTotalsUptoRow.holds Try.pinned (OpenSpec.upto fnExactCountTotalsSpec)

/-- 'laws.FnTotals', WHERE WHAT IT READS IS OF BULK AT MOST 1048576: true; the input reads as it did. -/
def fnTotalsUptoRow : OpenClaim := { program := "ytffhnkhjfggooaa", sum := "0f681989fce2d3388ee334a5ac4427bef8477bf9dc739c02e265bfff0dd7e4c1", func := "loop.example/g01403/laws.FnTotals", spec := "fnTotals", unfollowed := true, recurses := true, apart := false, narrowed := true }
def FnTotalsUptoSaid : Prop := fnTotalsUptoRow.holds Try.pinned (OpenSpec.upto fnTotalsSpec)

end Rows
end Go.Proofs.Ytffhnkhjfggooaa
