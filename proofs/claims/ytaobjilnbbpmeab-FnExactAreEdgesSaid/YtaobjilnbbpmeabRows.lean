/-
  No cell of these rows narrows 'for every input' (looked for: loops, veiled, ifaces, maps, wideKeys, modest, calm, conditions, laid).
  DERIVED. THE GIVEN ROWS OF THIS SEAT. 12 by the template 'for every input the law returns true; each argument reads behind the call as it read before'; 0 by the template 'total and deterministic' (their statements: YtaobjilnbbpmeabTotals.lean).
  GIVEN WITH THE SEED: the statements are not yours to turn. If you find one false, say at which input.
  Laid BY PROGRAM, IN A SANDBOX (cutbox-rows.mjs): the forced cells as the released guide's own fill.sh prints them over the translation c03f4d1d5112b030… (all of the seat's roots in one cut). By AI agents, Wed Nov 11 2026. No macro, syntax, notation, axiom, sorry.
-/
import Derived.Test.YtaobjilnbbpmeabChecked
import GoSem.Claim
import GoSem.ClaimJoined
import GoSem.ClaimMapViews
import Derived.JoinedTies
import Derived.KernelRfl
namespace Go.Proofs.Ytaobjilnbbpmeab
/- THE CELL 'sum', in the pinned program and in every row, IS THE sha256 OF THE DUMP (.gsa) THAT YtaobjilnbbpmeabProg.lean LOADS. Nothing in Lean hashes anything: it is a label: what it is worth is what the hold of that sum in a sandbox is worth. -/
noncomputable def Try.pinned : Pinned := { name := "ytaobjilnbbpmeab", sum := "c03f4d1d5112b030d7436a138a20435aad044535e43488b334b564ffa22e1614", checked := Try.checked }
namespace Rows
def none {H : Type} : Left H := { results := [], args := [] }

/-- 'laws.FnExactSameLines': WHATEVER THE INPUT: true; the input reads as it did. -/
def fnExactSameLinesSpec : ChangeSpec := { name := "fnExactSameLines", fn := fun _ => fun
  | [d1, d2] => { results := [.lit (.bool true)], args := [d1, d2] }
  | _ => none }
def fnExactSameLinesRow : OpenClaim := { program := "ytaobjilnbbpmeab", sum := "c03f4d1d5112b030d7436a138a20435aad044535e43488b334b564ffa22e1614", func := "loop.example/g01403/laws.FnExactSameLines", spec := "fnExactSameLines", inPlace := ["math.Float32bits"], unfollowed := true, recurses := true, apart := false }
def FnExactSameLinesSaid : Prop := fnExactSameLinesRow.holds Try.pinned (OpenSpec.ofChange fnExactSameLinesSpec)

/-- ITS FALSE NEIGHBOUR: 'it returns false'. Refute it at one input. -/
def fnExactSameLinesWrong : ChangeSpec := { name := "fnExactSameLines", fn := fun _ => fun
  | [d1, d2] => { results := [.lit (.bool false)], args := [d1, d2] }
  | _ => none }
def FnExactSameLinesWrongFalsely : Prop := fnExactSameLinesRow.holds Try.pinned (OpenSpec.ofChange fnExactSameLinesWrong)

/-- 'laws.FnExactLinesAt': WHATEVER THE INPUT: true; the input reads as it did. -/
def fnExactLinesAtSpec : ChangeSpec := { name := "fnExactLinesAt", fn := fun _ => fun
  | [d1, d2] => { results := [.lit (.bool true)], args := [d1, d2] }
  | _ => none }
def fnExactLinesAtRow : OpenClaim := { program := "ytaobjilnbbpmeab", sum := "c03f4d1d5112b030d7436a138a20435aad044535e43488b334b564ffa22e1614", func := "loop.example/g01403/laws.FnExactLinesAt", spec := "fnExactLinesAt", inPlace := ["math.Float64frombits", "math.Float64bits"], unfollowed := true, recurses := true, apart := false }
def FnExactLinesAtSaid : Prop := fnExactLinesAtRow.holds Try.pinned (OpenSpec.ofChange fnExactLinesAtSpec)

/-- ITS FALSE NEIGHBOUR: 'it returns false'. Refute it at one input. -/
def fnExactLinesAtWrong : ChangeSpec := { name := "fnExactLinesAt", fn := fun _ => fun
  | [d1, d2] => { results := [.lit (.bool false)], args := [d1, d2] }
  | _ => none }
def FnExactLinesAtWrongFalsely : Prop := fnExactLinesAtRow.holds Try.pinned (OpenSpec.ofChange fnExactLinesAtWrong)

/-- 'laws.FnExactSpectrumOf': WHATEVER THE INPUT: true; the input reads as it did. -/
def fnExactSpectrumOfSpec : ChangeSpec := { name := "fnExactSpectrumOf", fn := fun _ => fun
  | [d1, d2, d3, d4] => { results := [.lit (.bool true)], args := [d1, d2, d3, d4] }
  | _ => none }
def fnExactSpectrumOfRow : OpenClaim := { program := "ytaobjilnbbpmeab", sum := "c03f4d1d5112b030d7436a138a20435aad044535e43488b334b564ffa22e1614", func := "loop.example/g01403/laws.FnExactSpectrumOf", spec := "fnExactSpectrumOf", inPlace := ["math.Float64frombits", "math.Float64bits"], unfollowed := true, recurses := true, apart := false }
def FnExactSpectrumOfSaid : Prop := fnExactSpectrumOfRow.holds Try.pinned (OpenSpec.ofChange fnExactSpectrumOfSpec)

/-- ITS FALSE NEIGHBOUR: 'it returns false'. Refute it at one input. -/
def fnExactSpectrumOfWrong : ChangeSpec := { name := "fnExactSpectrumOf", fn := fun _ => fun
  | [d1, d2, d3, d4] => { results := [.lit (.bool false)], args := [d1, d2, d3, d4] }
  | _ => none }
def FnExactSpectrumOfWrongFalsely : Prop := fnExactSpectrumOfRow.holds Try.pinned (OpenSpec.ofChange fnExactSpectrumOfWrong)

/-- 'laws.FnExactShiftLines': WHATEVER THE INPUT: true; the input reads as it did. -/
def fnExactShiftLinesSpec : ChangeSpec := { name := "fnExactShiftLines", fn := fun _ => fun
  | [d1, d2, d3] => { results := [.lit (.bool true)], args := [d1, d2, d3] }
  | _ => none }
def fnExactShiftLinesRow : OpenClaim := { program := "ytaobjilnbbpmeab", sum := "c03f4d1d5112b030d7436a138a20435aad044535e43488b334b564ffa22e1614", func := "loop.example/g01403/laws.FnExactShiftLines", spec := "fnExactShiftLines", inPlace := ["math.Float64bits", "math.Float64frombits"], unfollowed := true, recurses := true, apart := false }
def FnExactShiftLinesSaid : Prop := fnExactShiftLinesRow.holds Try.pinned (OpenSpec.ofChange fnExactShiftLinesSpec)

/-- ITS FALSE NEIGHBOUR: 'it returns false'. Refute it at one input. -/
def fnExactShiftLinesWrong : ChangeSpec := { name := "fnExactShiftLines", fn := fun _ => fun
  | [d1, d2, d3] => { results := [.lit (.bool false)], args := [d1, d2, d3] }
  | _ => none }
def FnExactShiftLinesWrongFalsely : Prop := fnExactShiftLinesRow.holds Try.pinned (OpenSpec.ofChange fnExactShiftLinesWrong)

/-- 'laws.FnExactRestOf': WHATEVER THE INPUT: true; the input reads as it did. -/
def fnExactRestOfSpec : ChangeSpec := { name := "fnExactRestOf", fn := fun _ => fun
  | [d1, d2, d3, d4] => { results := [.lit (.bool true)], args := [d1, d2, d3, d4] }
  | _ => none }
def fnExactRestOfRow : OpenClaim := { program := "ytaobjilnbbpmeab", sum := "c03f4d1d5112b030d7436a138a20435aad044535e43488b334b564ffa22e1614", func := "loop.example/g01403/laws.FnExactRestOf", spec := "fnExactRestOf", inPlace := ["math.Float64frombits", "math.Float64bits"], unfollowed := true, recurses := true, apart := false }
def FnExactRestOfSaid : Prop := fnExactRestOfRow.holds Try.pinned (OpenSpec.ofChange fnExactRestOfSpec)

/-- ITS FALSE NEIGHBOUR: 'it returns false'. Refute it at one input. -/
def fnExactRestOfWrong : ChangeSpec := { name := "fnExactRestOf", fn := fun _ => fun
  | [d1, d2, d3, d4] => { results := [.lit (.bool false)], args := [d1, d2, d3, d4] }
  | _ => none }
def FnExactRestOfWrongFalsely : Prop := fnExactRestOfRow.holds Try.pinned (OpenSpec.ofChange fnExactRestOfWrong)

/-- 'laws.FnExactFitHeights': WHATEVER THE INPUT: true; the input reads as it did. -/
def fnExactFitHeightsSpec : ChangeSpec := { name := "fnExactFitHeights", fn := fun _ => fun
  | [d1, d2, d3, d4] => { results := [.lit (.bool true)], args := [d1, d2, d3, d4] }
  | _ => none }
def fnExactFitHeightsRow : OpenClaim := { program := "ytaobjilnbbpmeab", sum := "c03f4d1d5112b030d7436a138a20435aad044535e43488b334b564ffa22e1614", func := "loop.example/g01403/laws.FnExactFitHeights", spec := "fnExactFitHeights", inPlace := ["math.Float64frombits", "math.Float64bits"], unfollowed := true, recurses := true, apart := false }
def FnExactFitHeightsSaid : Prop := fnExactFitHeightsRow.holds Try.pinned (OpenSpec.ofChange fnExactFitHeightsSpec)

/-- ITS FALSE NEIGHBOUR: 'it returns false'. Refute it at one input. -/
def fnExactFitHeightsWrong : ChangeSpec := { name := "fnExactFitHeights", fn := fun _ => fun
  | [d1, d2, d3, d4] => { results := [.lit (.bool false)], args := [d1, d2, d3, d4] }
  | _ => none }
def FnExactFitHeightsWrongFalsely : Prop := fnExactFitHeightsRow.holds Try.pinned (OpenSpec.ofChange fnExactFitHeightsWrong)

/-- 'laws.FnExactCountLines': WHATEVER THE INPUT: true; the input reads as it did. -/
def fnExactCountLinesSpec : ChangeSpec := { name := "fnExactCountLines", fn := fun _ => fun
  | [d1, d2, d3, d4] => { results := [.lit (.bool true)], args := [d1, d2, d3, d4] }
  | _ => none }
def fnExactCountLinesRow : OpenClaim := { program := "ytaobjilnbbpmeab", sum := "c03f4d1d5112b030d7436a138a20435aad044535e43488b334b564ffa22e1614", func := "loop.example/g01403/laws.FnExactCountLines", spec := "fnExactCountLines", inPlace := ["math.Float64frombits", "math.Float64bits"], unfollowed := true, recurses := true, apart := false }
def FnExactCountLinesSaid : Prop := fnExactCountLinesRow.holds Try.pinned (OpenSpec.ofChange fnExactCountLinesSpec)

/-- ITS FALSE NEIGHBOUR: 'it returns false'. Refute it at one input. -/
def fnExactCountLinesWrong : ChangeSpec := { name := "fnExactCountLines", fn := fun _ => fun
  | [d1, d2, d3, d4] => { results := [.lit (.bool false)], args := [d1, d2, d3, d4] }
  | _ => none }
def FnExactCountLinesWrongFalsely : Prop := fnExactCountLinesRow.holds Try.pinned (OpenSpec.ofChange fnExactCountLinesWrong)

/-- 'laws.FnExactAreEdges': WHATEVER THE INPUT: true; the input reads as it did. -/
def fnExactAreEdgesSpec : ChangeSpec := { name := "fnExactAreEdges", fn := fun _ => fun
  | [d1, d2] => { results := [.lit (.bool true)], args := [d1, d2] }
  | _ => none }
def fnExactAreEdgesRow : OpenClaim := { program := "ytaobjilnbbpmeab", sum := "c03f4d1d5112b030d7436a138a20435aad044535e43488b334b564ffa22e1614", func := "loop.example/g01403/laws.FnExactAreEdges", spec := "fnExactAreEdges", inPlace := ["math.Float64bits", "math.Float64frombits"], unfollowed := true, recurses := true, apart := false }
def FnExactAreEdgesSaid : Prop := fnExactAreEdgesRow.holds Try.pinned (OpenSpec.ofChange fnExactAreEdgesSpec)

/-- ITS FALSE NEIGHBOUR: 'it returns false'. Refute it at one input. -/
def fnExactAreEdgesWrong : ChangeSpec := { name := "fnExactAreEdges", fn := fun _ => fun
  | [d1, d2] => { results := [.lit (.bool false)], args := [d1, d2] }
  | _ => none }
def FnExactAreEdgesWrongFalsely : Prop := fnExactAreEdgesRow.holds Try.pinned (OpenSpec.ofChange fnExactAreEdgesWrong)

/-- 'laws.FnExactEdgeLevels': WHATEVER THE INPUT: true; the input reads as it did. -/
def fnExactEdgeLevelsSpec : ChangeSpec := { name := "fnExactEdgeLevels", fn := fun _ => fun
  | [d1, d2] => { results := [.lit (.bool true)], args := [d1, d2] }
  | _ => none }
def fnExactEdgeLevelsRow : OpenClaim := { program := "ytaobjilnbbpmeab", sum := "c03f4d1d5112b030d7436a138a20435aad044535e43488b334b564ffa22e1614", func := "loop.example/g01403/laws.FnExactEdgeLevels", spec := "fnExactEdgeLevels", inPlace := ["math.Float64bits", "math.Float64frombits"], unfollowed := true, recurses := true, apart := false }
def FnExactEdgeLevelsSaid : Prop := fnExactEdgeLevelsRow.holds Try.pinned (OpenSpec.ofChange fnExactEdgeLevelsSpec)

/-- ITS FALSE NEIGHBOUR: 'it returns false'. Refute it at one input. -/
def fnExactEdgeLevelsWrong : ChangeSpec := { name := "fnExactEdgeLevels", fn := fun _ => fun
  | [d1, d2] => { results := [.lit (.bool false)], args := [d1, d2] }
  | _ => none }
def FnExactEdgeLevelsWrongFalsely : Prop := fnExactEdgeLevelsRow.holds Try.pinned (OpenSpec.ofChange fnExactEdgeLevelsWrong)

/-- 'laws.FnExactWorstRing': WHATEVER THE INPUT: true; the input reads as it did. -/
def fnExactWorstRingSpec : ChangeSpec := { name := "fnExactWorstRing", fn := fun _ => fun
  | [d1, d2] => { results := [.lit (.bool true)], args := [d1, d2] }
  | _ => none }
def fnExactWorstRingRow : OpenClaim := { program := "ytaobjilnbbpmeab", sum := "c03f4d1d5112b030d7436a138a20435aad044535e43488b334b564ffa22e1614", func := "loop.example/g01403/laws.FnExactWorstRing", spec := "fnExactWorstRing", inPlace := ["math.Float64bits", "math.Float64frombits"], unfollowed := true, recurses := true, apart := false }
def FnExactWorstRingSaid : Prop := fnExactWorstRingRow.holds Try.pinned (OpenSpec.ofChange fnExactWorstRingSpec)

/-- ITS FALSE NEIGHBOUR: 'it returns false'. Refute it at one input. -/
def fnExactWorstRingWrong : ChangeSpec := { name := "fnExactWorstRing", fn := fun _ => fun
  | [d1, d2] => { results := [.lit (.bool false)], args := [d1, d2] }
  | _ => none }
def FnExactWorstRingWrongFalsely : Prop := fnExactWorstRingRow.holds Try.pinned (OpenSpec.ofChange fnExactWorstRingWrong)

/-- 'laws.FnExactLevelBalance': WHATEVER THE INPUT: true; the input reads as it did. -/
def fnExactLevelBalanceSpec : ChangeSpec := { name := "fnExactLevelBalance", fn := fun _ => fun
  | [d1, d2] => { results := [.lit (.bool true)], args := [d1, d2] }
  | _ => none }
def fnExactLevelBalanceRow : OpenClaim := { program := "ytaobjilnbbpmeab", sum := "c03f4d1d5112b030d7436a138a20435aad044535e43488b334b564ffa22e1614", func := "loop.example/g01403/laws.FnExactLevelBalance", spec := "fnExactLevelBalance", inPlace := ["math.Float64bits", "math.Float64frombits"], unfollowed := true, recurses := true, apart := false }
def FnExactLevelBalanceSaid : Prop := fnExactLevelBalanceRow.holds Try.pinned (OpenSpec.ofChange fnExactLevelBalanceSpec)

/-- ITS FALSE NEIGHBOUR: 'it returns false'. Refute it at one input. -/
def fnExactLevelBalanceWrong : ChangeSpec := { name := "fnExactLevelBalance", fn := fun _ => fun
  | [d1, d2] => { results := [.lit (.bool false)], args := [d1, d2] }
  | _ => none }
def FnExactLevelBalanceWrongFalsely : Prop := fnExactLevelBalanceRow.holds Try.pinned (OpenSpec.ofChange fnExactLevelBalanceWrong)

/-- 'laws.FnExactPulseTurns': WHATEVER THE INPUT: true; the input reads as it did. -/
def fnExactPulseTurnsSpec : ChangeSpec := { name := "fnExactPulseTurns", fn := fun _ => fun
  | [d] => { results := [.lit (.bool true)], args := [d] }
  | _ => none }
def fnExactPulseTurnsRow : OpenClaim := { program := "ytaobjilnbbpmeab", sum := "c03f4d1d5112b030d7436a138a20435aad044535e43488b334b564ffa22e1614", func := "loop.example/g01403/laws.FnExactPulseTurns", spec := "fnExactPulseTurns", inPlace := ["math.sqrt", "math.Float32frombits", "math.Float64frombits", "math.Float64bits"], unfollowed := true, recurses := true, apart := false }
def FnExactPulseTurnsSaid : Prop := fnExactPulseTurnsRow.holds Try.pinned (OpenSpec.ofChange fnExactPulseTurnsSpec)

/-- ITS FALSE NEIGHBOUR: 'it returns false'. Refute it at one input. -/
def fnExactPulseTurnsWrong : ChangeSpec := { name := "fnExactPulseTurns", fn := fun _ => fun
  | [d] => { results := [.lit (.bool false)], args := [d] }
  | _ => none }
def FnExactPulseTurnsWrongFalsely : Prop := fnExactPulseTurnsRow.holds Try.pinned (OpenSpec.ofChange fnExactPulseTurnsWrong)

/- THE SECOND FORM. 'bulk': how many values and letters a reading holds, each counted each time it is reached (what is shared counts as often as it is met; a slice's spare places count too). A statement '..UptoSaid' is the law's where the arguments, and the package variables that the reading takes, are together of bulk at most 1048576: NARROWER than '..Said'. Prove '..Said' where nothing that the law and all that it calls make is longer than what came in: it says more and counts as full. Else prove '..UptoSaid'. A law counts once. -/
mutual
def uptoBulk {H : Type} : DataW H → Nat
  | .lit (.string bytes) => bytes.length + 1
  | .lit _ => 1
  | .nil => 1
  | .ptr d => uptoBulk d + 1
  | .slice elems spare => uptoBulkAll elems + uptoBulkAll spare + 1
  | .agg parts => uptoBulkAll parts + 1
  | .iface _ d => uptoBulk d + 1
  | .map entries => uptoBulkEntries entries + 1
  | .held _ => 1
def uptoBulkAll {H : Type} : List (DataW H) → Nat
  | [] => 0
  | d :: r => uptoBulk d + uptoBulkAll r
def uptoBulkEntries {H : Type} : List (Lit × DataW H) → Nat
  | [] => 0
  | x :: r => uptoBulkEntry x + uptoBulkEntries r
def uptoBulkEntry {H : Type} : Lit × DataW H → Nat
  | (.string bytes, d) => bytes.length + uptoBulk d + 1
  | (_, d) => uptoBulk d + 1
 end
def uptoSmall : (H : Type) → List (DataW H) → Bool := fun _ ds => decide (uptoBulkAll ds ≤ 1048576)
def OpenSpec.upto (s : _root_.Go.ChangeSpec) : _root_.Go.OpenSpec := { _root_.Go.OpenSpec.ofChange s with cond := some uptoSmall }

/-- 'laws.FnExactSameLines', WHERE WHAT IT READS IS OF BULK AT MOST 1048576: true; the input reads as it did. -/
def fnExactSameLinesUptoRow : OpenClaim := { program := "ytaobjilnbbpmeab", sum := "c03f4d1d5112b030d7436a138a20435aad044535e43488b334b564ffa22e1614", func := "loop.example/g01403/laws.FnExactSameLines", spec := "fnExactSameLines", inPlace := ["math.Float32bits"], unfollowed := true, recurses := true, apart := false, narrowed := true }
def FnExactSameLinesUptoSaid : Prop := fnExactSameLinesUptoRow.holds Try.pinned (OpenSpec.upto fnExactSameLinesSpec)

/-- 'laws.FnExactLinesAt', WHERE WHAT IT READS IS OF BULK AT MOST 1048576: true; the input reads as it did. -/
def fnExactLinesAtUptoRow : OpenClaim := { program := "ytaobjilnbbpmeab", sum := "c03f4d1d5112b030d7436a138a20435aad044535e43488b334b564ffa22e1614", func := "loop.example/g01403/laws.FnExactLinesAt", spec := "fnExactLinesAt", inPlace := ["math.Float64frombits", "math.Float64bits"], unfollowed := true, recurses := true, apart := false, narrowed := true }
def FnExactLinesAtUptoSaid : Prop := fnExactLinesAtUptoRow.holds Try.pinned (OpenSpec.upto fnExactLinesAtSpec)

/-- 'laws.FnExactSpectrumOf', WHERE WHAT IT READS IS OF BULK AT MOST 1048576: true; the input reads as it did. -/
def fnExactSpectrumOfUptoRow : OpenClaim := { program := "ytaobjilnbbpmeab", sum := "c03f4d1d5112b030d7436a138a20435aad044535e43488b334b564ffa22e1614", func := "loop.example/g01403/laws.FnExactSpectrumOf", spec := "fnExactSpectrumOf", inPlace := ["math.Float64frombits", "math.Float64bits"], unfollowed := true, recurses := true, apart := false, narrowed := true }
def FnExactSpectrumOfUptoSaid : Prop := fnExactSpectrumOfUptoRow.holds Try.pinned (OpenSpec.upto fnExactSpectrumOfSpec)

/-- 'laws.FnExactShiftLines', WHERE WHAT IT READS IS OF BULK AT MOST 1048576: true; the input reads as it did. -/
def fnExactShiftLinesUptoRow : OpenClaim := { program := "ytaobjilnbbpmeab", sum := "c03f4d1d5112b030d7436a138a20435aad044535e43488b334b564ffa22e1614", func := "loop.example/g01403/laws.FnExactShiftLines", spec := "fnExactShiftLines", inPlace := ["math.Float64bits", "math.Float64frombits"], unfollowed := true, recurses := true, apart := false, narrowed := true }
def FnExactShiftLinesUptoSaid : Prop := fnExactShiftLinesUptoRow.holds Try.pinned (OpenSpec.upto fnExactShiftLinesSpec)

/-- 'laws.FnExactRestOf', WHERE WHAT IT READS IS OF BULK AT MOST 1048576: true; the input reads as it did. -/
def fnExactRestOfUptoRow : OpenClaim := { program := "ytaobjilnbbpmeab", sum := "c03f4d1d5112b030d7436a138a20435aad044535e43488b334b564ffa22e1614", func := "loop.example/g01403/laws.FnExactRestOf", spec := "fnExactRestOf", inPlace := ["math.Float64frombits", "math.Float64bits"], unfollowed := true, recurses := true, apart := false, narrowed := true }
def FnExactRestOfUptoSaid : Prop := fnExactRestOfUptoRow.holds Try.pinned (OpenSpec.upto fnExactRestOfSpec)

/-- 'laws.FnExactFitHeights', WHERE WHAT IT READS IS OF BULK AT MOST 1048576: true; the input reads as it did. -/
def fnExactFitHeightsUptoRow : OpenClaim := { program := "ytaobjilnbbpmeab", sum := "c03f4d1d5112b030d7436a138a20435aad044535e43488b334b564ffa22e1614", func := "loop.example/g01403/laws.FnExactFitHeights", spec := "fnExactFitHeights", inPlace := ["math.Float64frombits", "math.Float64bits"], unfollowed := true, recurses := true, apart := false, narrowed := true }
def FnExactFitHeightsUptoSaid : Prop := fnExactFitHeightsUptoRow.holds Try.pinned (OpenSpec.upto fnExactFitHeightsSpec)

/-- 'laws.FnExactCountLines', WHERE WHAT IT READS IS OF BULK AT MOST 1048576: true; the input reads as it did. -/
def fnExactCountLinesUptoRow : OpenClaim := { program := "ytaobjilnbbpmeab", sum := "c03f4d1d5112b030d7436a138a20435aad044535e43488b334b564ffa22e1614", func := "loop.example/g01403/laws.FnExactCountLines", spec := "fnExactCountLines", inPlace := ["math.Float64frombits", "math.Float64bits"], unfollowed := true, recurses := true, apart := false, narrowed := true }
def FnExactCountLinesUptoSaid : Prop := fnExactCountLinesUptoRow.holds Try.pinned (OpenSpec.upto fnExactCountLinesSpec)

/-- 'laws.FnExactAreEdges', WHERE WHAT IT READS IS OF BULK AT MOST 1048576: true; the input reads as it did. -/
def fnExactAreEdgesUptoRow : OpenClaim := { program := "ytaobjilnbbpmeab", sum := "c03f4d1d5112b030d7436a138a20435aad044535e43488b334b564ffa22e1614", func := "loop.example/g01403/laws.FnExactAreEdges", spec := "fnExactAreEdges", inPlace := ["math.Float64bits", "math.Float64frombits"], unfollowed := true, recurses := true, apart := false, narrowed := true }
def FnExactAreEdgesUptoSaid : Prop := fnExactAreEdgesUptoRow.holds Try.pinned (OpenSpec.upto fnExactAreEdgesSpec)

/-- 'laws.FnExactEdgeLevels', WHERE WHAT IT READS IS OF BULK AT MOST 1048576: true; the input reads as it did. -/
def fnExactEdgeLevelsUptoRow : OpenClaim := { program := "ytaobjilnbbpmeab", sum := "c03f4d1d5112b030d7436a138a20435aad044535e43488b334b564ffa22e1614", func := "loop.example/g01403/laws.FnExactEdgeLevels", spec := "fnExactEdgeLevels", inPlace := ["math.Float64bits", "math.Float64frombits"], unfollowed := true, recurses := true, apart := false, narrowed := true }
def FnExactEdgeLevelsUptoSaid : Prop := fnExactEdgeLevelsUptoRow.holds Try.pinned (OpenSpec.upto fnExactEdgeLevelsSpec)

/-- 'laws.FnExactWorstRing', WHERE WHAT IT READS IS OF BULK AT MOST 1048576: true; the input reads as it did. -/
def fnExactWorstRingUptoRow : OpenClaim := { program := "ytaobjilnbbpmeab", sum := "c03f4d1d5112b030d7436a138a20435aad044535e43488b334b564ffa22e1614", func := "loop.example/g01403/laws.FnExactWorstRing", spec := "fnExactWorstRing", inPlace := ["math.Float64bits", "math.Float64frombits"], unfollowed := true, recurses := true, apart := false, narrowed := true }
def FnExactWorstRingUptoSaid : Prop := fnExactWorstRingUptoRow.holds Try.pinned (OpenSpec.upto fnExactWorstRingSpec)

/-- 'laws.FnExactLevelBalance', WHERE WHAT IT READS IS OF BULK AT MOST 1048576: true; the input reads as it did. -/
def fnExactLevelBalanceUptoRow : OpenClaim := { program := "ytaobjilnbbpmeab", sum := "c03f4d1d5112b030d7436a138a20435aad044535e43488b334b564ffa22e1614", func := "loop.example/g01403/laws.FnExactLevelBalance", spec := "fnExactLevelBalance", inPlace := ["math.Float64bits", "math.Float64frombits"], unfollowed := true, recurses := true, apart := false, narrowed := true }
def FnExactLevelBalanceUptoSaid : Prop := fnExactLevelBalanceUptoRow.holds Try.pinned (OpenSpec.upto fnExactLevelBalanceSpec)

/-- 'laws.FnExactPulseTurns', WHERE WHAT IT READS IS OF BULK AT MOST 1048576: true; the input reads as it did. -/
def fnExactPulseTurnsUptoRow : OpenClaim := { program := "ytaobjilnbbpmeab", sum := "c03f4d1d5112b030d7436a138a20435aad044535e43488b334b564ffa22e1614", func := "loop.example/g01403/laws.FnExactPulseTurns", spec := "fnExactPulseTurns", inPlace := ["math.sqrt", "math.Float32frombits", "math.Float64frombits", "math.Float64bits"], unfollowed := true, recurses := true, apart := false, narrowed := true }
def FnExactPulseTurnsUptoSaid : Prop := fnExactPulseTurnsUptoRow.holds Try.pinned (OpenSpec.upto fnExactPulseTurnsSpec)

end Rows
end Go.Proofs.Ytaobjilnbbpmeab
