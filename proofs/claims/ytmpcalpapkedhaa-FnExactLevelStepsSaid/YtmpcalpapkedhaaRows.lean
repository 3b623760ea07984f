/-
  No cell of these rows narrows 'for every input' (looked for: loops, veiled, ifaces, maps, wideKeys, modest, calm, conditions, laid).
  DERIVED. THE GIVEN ROWS OF THIS SEAT. 12 by the template 'for every input the law returns true; each argument reads behind the call as it read before'; 0 by the template 'total and deterministic' (their statements: YtmpcalpapkedhaaTotals.lean).
  GIVEN WITH THE SEED: the statements are not yours to turn. If you find one false, say at which input.
  Laid BY PROGRAM, IN A SANDBOX (cutbox-rows.mjs): the forced cells as the released guide's own fill.sh prints them over the translation 906f07a5d109fd83… (all of the seat's roots in one cut). By AI agents, Wed Nov 11 2026. No macro, syntax, notation, axiom, sorry.
-/
import Derived.Test.YtmpcalpapkedhaaChecked
import GoSem.Claim
import GoSem.ClaimJoined
import GoSem.ClaimMapViews
import Derived.JoinedTies
import Derived.KernelRfl
namespace Go.Proofs.Ytmpcalpapkedhaa
/- THE CELL 'sum', in the pinned program and in every row, IS THE sha256 OF THE DUMP (.gsa) THAT YtmpcalpapkedhaaProg.lean LOADS. Nothing in Lean hashes anything: it is a label: what it is worth is what the hold of that sum in a sandbox is worth. -/
noncomputable def Try.pinned : Pinned := { name := "ytmpcalpapkedhaa", sum := "906f07a5d109fd839781a2f80e2ef003ed04ccc8b175388cbedd198addf9657a", checked := Try.checked }
namespace Rows
def none {H : Type} : Left H := { results := [], args := [] }

/-- 'laws.FnExactPulseTurns': WHATEVER THE INPUT: true; the input reads as it did. -/
def fnExactPulseTurnsSpec : ChangeSpec := { name := "fnExactPulseTurns", fn := fun _ => fun
  | [d] => { results := [.lit (.bool true)], args := [d] }
  | _ => none }
def fnExactPulseTurnsRow : OpenClaim := { program := "ytmpcalpapkedhaa", sum := "906f07a5d109fd839781a2f80e2ef003ed04ccc8b175388cbedd198addf9657a", func := "loop.example/g01403/laws.FnExactPulseTurns", spec := "fnExactPulseTurns", inPlace := ["math.sqrt", "math.Float32frombits", "math.Float64frombits", "math.Float64bits"], unfollowed := true, recurses := true, apart := false }
def FnExactPulseTurnsSaid : Prop := fnExactPulseTurnsRow.holds Try.pinned (OpenSpec.ofChange fnExactPulseTurnsSpec)

/-- ITS FALSE NEIGHBOUR: 'it returns false'. Refute it at one input. -/
def fnExactPulseTurnsWrong : ChangeSpec := { name := "fnExactPulseTurns", fn := fun _ => fun
  | [d] => { results := [.lit (.bool false)], args := [d] }
  | _ => none }
def FnExactPulseTurnsWrongFalsely : Prop := fnExactPulseTurnsRow.holds Try.pinned (OpenSpec.ofChange fnExactPulseTurnsWrong)

/-- 'laws.FnExactScanLines': WHATEVER THE INPUT: true; the input reads as it did. -/
def fnExactScanLinesSpec : ChangeSpec := { name := "fnExactScanLines", fn := fun _ => fun
  | [d] => { results := [.lit (.bool true)], args := [d] }
  | _ => none }
def fnExactScanLinesRow : OpenClaim := { program := "ytmpcalpapkedhaa", sum := "906f07a5d109fd839781a2f80e2ef003ed04ccc8b175388cbedd198addf9657a", func := "loop.example/g01403/laws.FnExactScanLines", spec := "fnExactScanLines", inPlace := ["math.Float32frombits", "math.Float64frombits", "math.Float64bits"], unfollowed := true, recurses := true, apart := false }
def FnExactScanLinesSaid : Prop := fnExactScanLinesRow.holds Try.pinned (OpenSpec.ofChange fnExactScanLinesSpec)

/-- ITS FALSE NEIGHBOUR: 'it returns false'. Refute it at one input. -/
def fnExactScanLinesWrong : ChangeSpec := { name := "fnExactScanLines", fn := fun _ => fun
  | [d] => { results := [.lit (.bool false)], args := [d] }
  | _ => none }
def FnExactScanLinesWrongFalsely : Prop := fnExactScanLinesRow.holds Try.pinned (OpenSpec.ofChange fnExactScanLinesWrong)

/-- 'laws.FnExactJoinSteps': WHATEVER THE INPUT: true; the input reads as it did. -/
def fnExactJoinStepsSpec : ChangeSpec := { name := "fnExactJoinSteps", fn := fun _ => fun
  | [d1, d2, d3] => { results := [.lit (.bool true)], args := [d1, d2, d3] }
  | _ => none }
def fnExactJoinStepsRow : OpenClaim := { program := "ytmpcalpapkedhaa", sum := "906f07a5d109fd839781a2f80e2ef003ed04ccc8b175388cbedd198addf9657a", func := "loop.example/g01403/laws.FnExactJoinSteps", spec := "fnExactJoinSteps", inPlace := ["math.Float32bits", "math.Float64bits", "math.Float64frombits"], unfollowed := true, recurses := true, apart := false }
def FnExactJoinStepsSaid : Prop := fnExactJoinStepsRow.holds Try.pinned (OpenSpec.ofChange fnExactJoinStepsSpec)

/-- ITS FALSE NEIGHBOUR: 'it returns false'. Refute it at one input. -/
def fnExactJoinStepsWrong : ChangeSpec := { name := "fnExactJoinSteps", fn := fun _ => fun
  | [d1, d2, d3] => { results := [.lit (.bool false)], args := [d1, d2, d3] }
  | _ => none }
def FnExactJoinStepsWrongFalsely : Prop := fnExactJoinStepsRow.holds Try.pinned (OpenSpec.ofChange fnExactJoinStepsWrong)

/-- 'laws.FnExactShiftLines': WHATEVER THE INPUT: true; the input reads as it did. -/
def fnExactShiftLinesSpec : ChangeSpec := { name := "fnExactShiftLines", fn := fun _ => fun
  | [d1, d2, d3] => { results := [.lit (.bool true)], args := [d1, d2, d3] }
  | _ => none }
def fnExactShiftLinesRow : OpenClaim := { program := "ytmpcalpapkedhaa", sum := "906f07a5d109fd839781a2f80e2ef003ed04ccc8b175388cbedd198addf9657a", func := "loop.example/g01403/laws.FnExactShiftLines", spec := "fnExactShiftLines", inPlace := ["math.Float64bits", "math.Float64frombits"], unfollowed := true, recurses := true, apart := false }
def FnExactShiftLinesSaid : Prop := fnExactShiftLinesRow.holds Try.pinned (OpenSpec.ofChange fnExactShiftLinesSpec)

/-- ITS FALSE NEIGHBOUR: 'it returns false'. Refute it at one input. -/
def fnExactShiftLinesWrong : ChangeSpec := { name := "fnExactShiftLines", fn := fun _ => fun
  | [d1, d2, d3] => { results := [.lit (.bool false)], args := [d1, d2, d3] }
  | _ => none }
def FnExactShiftLinesWrongFalsely : Prop := fnExactShiftLinesRow.holds Try.pinned (OpenSpec.ofChange fnExactShiftLinesWrong)

/-- 'laws.FnExactCosmicMarks': WHATEVER THE INPUT: true; the input reads as it did. -/
def fnExactCosmicMarksSpec : ChangeSpec := { name := "fnExactCosmicMarks", fn := fun _ => fun
  | [d1, d2] => { results := [.lit (.bool true)], args := [d1, d2] }
  | _ => none }
def fnExactCosmicMarksRow : OpenClaim := { program := "ytmpcalpapkedhaa", sum := "906f07a5d109fd839781a2f80e2ef003ed04ccc8b175388cbedd198addf9657a", func := "loop.example/g01403/laws.FnExactCosmicMarks", spec := "fnExactCosmicMarks", inPlace := ["math.Float64bits", "math.Float64frombits"], unfollowed := true, recurses := true, apart := false }
def FnExactCosmicMarksSaid : Prop := fnExactCosmicMarksRow.holds Try.pinned (OpenSpec.ofChange fnExactCosmicMarksSpec)

/-- ITS FALSE NEIGHBOUR: 'it returns false'. Refute it at one input. -/
def fnExactCosmicMarksWrong : ChangeSpec := { name := "fnExactCosmicMarks", fn := fun _ => fun
  | [d1, d2] => { results := [.lit (.bool false)], args := [d1, d2] }
  | _ => none }
def FnExactCosmicMarksWrongFalsely : Prop := fnExactCosmicMarksRow.holds Try.pinned (OpenSpec.ofChange fnExactCosmicMarksWrong)

/-- 'laws.FnExactEdgeLevels': WHATEVER THE INPUT: true; the input reads as it did. -/
def fnExactEdgeLevelsSpec : ChangeSpec := { name := "fnExactEdgeLevels", fn := fun _ => fun
  | [d1, d2] => { results := [.lit (.bool true)], args := [d1, d2] }
  | _ => none }
def fnExactEdgeLevelsRow : OpenClaim := { program := "ytmpcalpapkedhaa", sum := "906f07a5d109fd839781a2f80e2ef003ed04ccc8b175388cbedd198addf9657a", func := "loop.example/g01403/laws.FnExactEdgeLevels", spec := "fnExactEdgeLevels", inPlace := ["math.Float64bits", "math.Float64frombits"], unfollowed := true, recurses := true, apart := false }
def FnExactEdgeLevelsSaid : Prop := fnExactEdgeLevelsRow.holds Try.pinned (OpenSpec.ofChange fnExactEdgeLevelsSpec)

/-- ITS FALSE NEIGHBOUR: 'it returns false'. Refute it at one input. -/
def fnExactEdgeLevelsWrong : ChangeSpec := { name := "fnExactEdgeLevels", fn := fun _ => fun
  | [d1, d2] => { results := [.lit (.bool false)], args := [d1, d2] }
  | _ => none }
def FnExactEdgeLevelsWrongFalsely : Prop := fnExactEdgeLevelsRow.holds Try.pinned (OpenSpec.ofChange fnExactEdgeLevelsWrong)

/-- 'laws.FnExactWorstRing': WHATEVER THE INPUT: true; the input reads as it did. -/
def fnExactWorstRingSpec : ChangeSpec := { name := "fnExactWorstRing", fn := fun _ => fun
  | [d1, d2] => { results := [.lit (.bool true)], args := [d1, d2] }
  | _ => none }
def fnExactWorstRingRow : OpenClaim := { program := "ytmpcalpapkedhaa", sum := "906f07a5d109fd839781a2f80e2ef003ed04ccc8b175388cbedd198addf9657a", func := "loop.example/g01403/laws.FnExactWorstRing", spec := "fnExactWorstRing", inPlace := ["math.Float64bits", "math.Float64frombits"], unfollowed := true, recurses := true, apart := false }
def FnExactWorstRingSaid : Prop := fnExactWorstRingRow.holds Try.pinned (OpenSpec.ofChange fnExactWorstRingSpec)

/-- ITS FALSE NEIGHBOUR: 'it returns false'. Refute it at one input. -/
def fnExactWorstRingWrong : ChangeSpec := { name := "fnExactWorstRing", fn := fun _ => fun
  | [d1, d2] => { results := [.lit (.bool false)], args := [d1, d2] }
  | _ => none }
def FnExactWorstRingWrongFalsely : Prop := fnExactWorstRingRow.holds Try.pinned (OpenSpec.ofChange fnExactWorstRingWrong)

/-- 'laws.FnExactLevelBalance': WHATEVER THE INPUT: true; the input reads as it did. -/
def fnExactLevelBalanceSpec : ChangeSpec := { name := "fnExactLevelBalance", fn := fun _ => fun
  | [d1, d2] => { results := [.lit (.bool true)], args := [d1, d2] }
  | _ => none }
def fnExactLevelBalanceRow : OpenClaim := { program := "ytmpcalpapkedhaa", sum := "906f07a5d109fd839781a2f80e2ef003ed04ccc8b175388cbedd198addf9657a", func := "loop.example/g01403/laws.FnExactLevelBalance", spec := "fnExactLevelBalance", inPlace := ["math.Float64bits", "math.Float64frombits"], unfollowed := true, recurses := true, apart := false }
def FnExactLevelBalanceSaid : Prop := fnExactLevelBalanceRow.holds Try.pinned (OpenSpec.ofChange fnExactLevelBalanceSpec)

/-- ITS FALSE NEIGHBOUR: 'it returns false'. Refute it at one input. -/
def fnExactLevelBalanceWrong : ChangeSpec := { name := "fnExactLevelBalance", fn := fun _ => fun
  | [d1, d2] => { results := [.lit (.bool false)], args := [d1, d2] }
  | _ => none }
def FnExactLevelBalanceWrongFalsely : Prop := fnExactLevelBalanceRow.holds Try.pinned (OpenSpec.ofChange fnExactLevelBalanceWrong)

/-- 'laws.FnExactLampCurve': WHATEVER THE INPUT: true; the input reads as it did. -/
def fnExactLampCurveSpec : ChangeSpec := { name := "fnExactLampCurve", fn := fun _ => fun
  | [d1, d2] => { results := [.lit (.bool true)], args := [d1, d2] }
  | _ => none }
def fnExactLampCurveRow : OpenClaim := { program := "ytmpcalpapkedhaa", sum := "906f07a5d109fd839781a2f80e2ef003ed04ccc8b175388cbedd198addf9657a", func := "loop.example/g01403/laws.FnExactLampCurve", spec := "fnExactLampCurve", inPlace := ["math.Float64bits", "math.Float64frombits"], unfollowed := true, recurses := true, apart := false }
def FnExactLampCurveSaid : Prop := fnExactLampCurveRow.holds Try.pinned (OpenSpec.ofChange fnExactLampCurveSpec)

/-- ITS FALSE NEIGHBOUR: 'it returns false'. Refute it at one input. -/
def fnExactLampCurveWrong : ChangeSpec := { name := "fnExactLampCurve", fn := fun _ => fun
  | [d1, d2] => { results := [.lit (.bool false)], args := [d1, d2] }
  | _ => none }
def FnExactLampCurveWrongFalsely : Prop := fnExactLampCurveRow.holds Try.pinned (OpenSpec.ofChange fnExactLampCurveWrong)

/-- 'laws.FnExactFitHeights': WHATEVER THE INPUT: true; the input reads as it did. -/
def fnExactFitHeightsSpec : ChangeSpec := { name := "fnExactFitHeights", fn := fun _ => fun
  | [d1, d2, d3, d4] => { results := [.lit (.bool true)], args := [d1, d2, d3, d4] }
  | _ => none }
def fnExactFitHeightsRow : OpenClaim := { program := "ytmpcalpapkedhaa", sum := "906f07a5d109fd839781a2f80e2ef003ed04ccc8b175388cbedd198addf9657a", func := "loop.example/g01403/laws.FnExactFitHeights", spec := "fnExactFitHeights", inPlace := ["math.Float64frombits", "math.Float64bits"], unfollowed := true, recurses := true, apart := false }
def FnExactFitHeightsSaid : Prop := fnExactFitHeightsRow.holds Try.pinned (OpenSpec.ofChange fnExactFitHeightsSpec)

/-- ITS FALSE NEIGHBOUR: 'it returns false'. Refute it at one input. -/
def fnExactFitHeightsWrong : ChangeSpec := { name := "fnExactFitHeights", fn := fun _ => fun
  | [d1, d2, d3, d4] => { results := [.lit (.bool false)], args := [d1, d2, d3, d4] }
  | _ => none }
def FnExactFitHeightsWrongFalsely : Prop := fnExactFitHeightsRow.holds Try.pinned (OpenSpec.ofChange fnExactFitHeightsWrong)

/-- 'laws.FnExactLevelSteps': WHATEVER THE INPUT: true; the input reads as it did. -/
def fnExactLevelStepsSpec : ChangeSpec := { name := "fnExactLevelSteps", fn := fun _ => fun
  | [d1, d2, d3, d4, d5] => { results := [.lit (.bool true)], args := [d1, d2, d3, d4, d5] }
  | _ => none }
def fnExactLevelStepsRow : OpenClaim := { program := "ytmpcalpapkedhaa", sum := "906f07a5d109fd839781a2f80e2ef003ed04ccc8b175388cbedd198addf9657a", func := "loop.example/g01403/laws.FnExactLevelSteps", spec := "fnExactLevelSteps", inPlace := ["math.Float64bits", "math.Float64frombits"], unfollowed := true, recurses := true, apart := false }
def FnExactLevelStepsSaid : Prop := fnExactLevelStepsRow.holds Try.pinned (OpenSpec.ofChange fnExactLevelStepsSpec)

/-- ITS FALSE NEIGHBOUR: 'it returns false'. Refute it at one input. -/
def fnExactLevelStepsWrong : ChangeSpec := { name := "fnExactLevelSteps", fn := fun _ => fun
  | [d1, d2, d3, d4, d5] => { results := [.lit (.bool false)], args := [d1, d2, d3, d4, d5] }
  | _ => none }
def FnExactLevelStepsWrongFalsely : Prop := fnExactLevelStepsRow.holds Try.pinned (OpenSpec.ofChange fnExactLevelStepsWrong)

/-- 'laws.FnExactCountLines': WHATEVER THE INPUT: true; the input reads as it did. -/
def fnExactCountLinesSpec : ChangeSpec := { name := "fnExactCountLines", fn := fun _ => fun
  | [d1, d2, d3, d4] => { results := [.lit (.bool true)], args := [d1, d2, d3, d4] }
  | _ => none }
def fnExactCountLinesRow : OpenClaim := { program := "ytmpcalpapkedhaa", sum := "906f07a5d109fd839781a2f80e2ef003ed04ccc8b175388cbedd198addf9657a", func := "loop.example/g01403/laws.FnExactCountLines", spec := "fnExactCountLines", inPlace := ["math.Float64frombits", "math.Float64bits"], unfollowed := true, recurses := true, apart := false }
def FnExactCountLinesSaid : Prop := fnExactCountLinesRow.holds Try.pinned (OpenSpec.ofChange fnExactCountLinesSpec)

/-- ITS FALSE NEIGHBOUR: 'it returns false'. Refute it at one input. -/
def fnExactCountLinesWrong : ChangeSpec := { name := "fnExactCountLines", fn := fun _ => fun
  | [d1, d2, d3, d4] => { results := [.lit (.bool false)], args := [d1, d2, d3, d4] }
  | _ => none }
def FnExactCountLinesWrongFalsely : Prop := fnExactCountLinesRow.holds Try.pinned (OpenSpec.ofChange fnExactCountLinesWrong)

/- THE SECOND FORM. 'bulk': how many values and letters a reading holds, each counted each time it is reached (what is shared counts as often as it is met; a slice's spare places count too). A statement '..UptoSaid' is the law's where the arguments, and the package variables that the reading takes, are together of bulk at most 1048576: NARROWER than '..Said'. Prove '..Said' where nothing that the law and all that it calls make is longer than what came in: it says more and counts as full. Else prove '..UptoSaid'. A law counts once. -/
mutual
def uptoBulk {H : Type} : DataW H → Nat
  | .lit (.string bytes) => bytes.length + 1
  | .lit _ => 1
  | .nil => 1
  | .ptr d => uptoBulk d + 1
  | .slice elems spare => uptoBulkAll elems + uptoBulkAll spare + 1
  | .agg parts => uptoBulkAll parts + 1
  | .iface _ d => uptoBulk d + 1
  | .map entries => uptoBulkEntries entries + 1
  | .held _ => 1
def uptoBulkAll {H : Type} : List (DataW H) → Nat
  | [] => 0
  | d :: r => uptoBulk d + uptoBulkAll r
def uptoBulkEntries {H : Type} : List (Lit × DataW H) → Nat
  | [] => 0
  | x :: r => uptoBulkEntry x + uptoBulkEntries r
def uptoBulkEntry {H : Type} : Lit × DataW H → Nat
  | (.string bytes, d) => bytes.length + uptoBulk d + 1
  | (_, d) => uptoBulk d + 1
 end
def uptoSmall : (H : Type) → List (DataW H) → Bool := fun _ ds => decide (uptoBulkAll ds ≤ 1048576)
def OpenSpec.upto (s : _root_.Go.ChangeSpec) : _root_.Go.OpenSpec := { _root_.Go.OpenSpec.ofChange s with cond := some uptoSmall }

/-- 'laws.FnExactPulseTurns', WHERE WHAT IT READS IS OF BULK AT MOST 1048576: true; the input reads as it did. -/
def fnExactPulseTurnsUptoRow : OpenClaim := { program := "ytmpcalpapkedhaa", sum := "906f07a5d109fd839781a2f80e2ef003ed04ccc8b175388cbedd198addf9657a", func := "loop.example/g01403/laws.FnExactPulseTurns", spec := "fnExactPulseTurns", inPlace := ["math.sqrt", "math.Float32frombits", "math.Float64frombits", "math.Float64bits"], unfollowed := true, recurses := true, apart := false, narrowed := true }
def FnExactPulseTurnsUptoSaid : Prop := fnExactPulseTurnsUptoRow.holds Try.pinned (OpenSpec.upto fnExactPulseTurnsSpec)

/-- 'laws.FnExactScanLines', WHERE WHAT IT READS IS OF BULK AT MOST 1048576: true; the input reads as it did. -/
def fnExactScanLinesUptoRow : OpenClaim := { program := "ytmpcalpapkedhaa", sum := "906f07a5d109fd839781a2f80e2ef003ed04ccc8b175388cbedd198addf9657a", func := "loop.example/g01403/laws.FnExactScanLines", spec := "fnExactScanLines", inPlace := ["math.Float32frombits", "math.Float64frombits", "math.Float64bits"], unfollowed := true, recurses := true, apart := false, narrowed := true }
def FnExactScanLinesUptoSaid : Prop := fnExactScanLinesUptoRow.holds Try.pinned (OpenSpec.upto fnExactScanLinesSpec)

/-- 'laws.FnExactJoinSteps', WHERE WHAT IT READS IS OF BULK AT MOST 1048576: true; the input reads as it did. -/
def fnExactJoinStepsUptoRow : OpenClaim := { program := "ytmpcalpapkedhaa", sum := "906f07a5d109fd839781a2f80e2ef003ed04ccc8b175388cbedd198addf9657a", func := "loop.example/g01403/laws.FnExactJoinSteps", spec := "fnExactJoinSteps", inPlace := ["math.Float32bits", "math.Float64bits", "math.Float64frombits"], unfollowed := true, recurses := true, apart := false, narrowed := true }
def FnExactJoinStepsUptoSaid : Prop := fnExactJoinStepsUptoRow.holds Try.pinned (OpenSpec.upto fnExactJoinStepsSpec)

/-- 'laws.FnExactShiftLines', WHERE WHAT IT READS IS OF BULK AT MOST 1048576: true; the input reads as it did. -/
def fnExactShiftLinesUptoRow : OpenClaim := { program := "ytmpcalpapkedhaa", sum := "906f07a5d109fd839781a2f80e2ef003ed04ccc8b175388cbedd198addf9657a", func := "loop.example/g01403/laws.FnExactShiftLines", spec := "fnExactShiftLines", inPlace := ["math.Float64bits", "math.Float64frombits"], unfollowed := true, recurses := true, apart := false, narrowed := true }
def FnExactShiftLinesUptoSaid : Prop := fnExactShiftLinesUptoRow.holds Try.pinned (OpenSpec.upto fnExactShiftLinesSpec)

/-- 'laws.FnExactCosmicMarks', WHERE WHAT IT READS IS OF BULK AT MOST 1048576: true; the input reads as it did. -/
def fnExactCosmicMarksUptoRow : OpenClaim := { program := "ytmpcalpapkedhaa", sum := "906f07a5d109fd839781a2f80e2ef003ed04ccc8b175388cbedd198addf9657a", func := "loop.example/g01403/laws.FnExactCosmicMarks", spec := "fnExactCosmicMarks", inPlace := ["math.Float64bits", "math.Float64frombits"], unfollowed := true, recurses := true, apart := false, narrowed := true }
def FnExactCosmicMarksUptoSaid : Prop := fnExactCosmicMarksUptoRow.holds Try.pinned (OpenSpec.upto fnExactCosmicMarksSpec)

/-- 'laws.FnExactEdgeLevels', WHERE WHAT IT READS IS OF BULK AT MOST 1048576: true; the input reads as it did. -/
def fnExactEdgeLevelsUptoRow : OpenClaim := { program := "ytmpcalpapkedhaa", sum := "906f07a5d109fd839781a2f80e2ef003ed04ccc8b175388cbedd198addf9657a", func := "loop.example/g01403/laws.FnExactEdgeLevels", spec := "fnExactEdgeLevels", inPlace := ["math.Float64bits", "math.Float64frombits"], unfollowed := true, recurses := true, apart := false, narrowed := true }
def FnExactEdgeLevelsUptoSaid : Prop := fnExactEdgeLevelsUptoRow.holds Try.pinned (OpenSpec.upto fnExactEdgeLevelsSpec)

/-- 'laws.FnExactWorstRing', WHERE WHAT IT READS IS OF BULK AT MOST 1048576: true; the input reads as it did. -/
def fnExactWorstRingUptoRow : OpenClaim := { program := "ytmpcalpapkedhaa", sum := "906f07a5d109fd839781a2f80e2ef003ed04ccc8b175388cbedd198addf9657a", func := "loop.example/g01403/laws.FnExactWorstRing", spec := "fnExactWorstRing", inPlace := ["math.Float64bits", "math.Float64frombits"], unfollowed := true, recurses := true, apart := false, narrowed := true }
def FnExactWorstRingUptoSaid : Prop := fnExactWorstRingUptoRow.holds Try.pinned (OpenSpec.upto fnExactWorstRingSpec)

/-- 'laws.FnExactLevelBalance', WHERE WHAT IT READS IS OF BULK AT MOST 1048576: true; the input reads as it did. -/
def fnExactLevelBalanceUptoRow : OpenClaim := { program := "ytmpcalpapkedhaa", sum := "906f07a5d109fd839781a2f80e2ef003ed04ccc8b175388cbedd198addf9657a", func := "loop.example/g01403/laws.FnExactLevelBalance", spec := "fnExactLevelBalance", inPlace := ["math.Float64bits", "math.Float64frombits"], unfollowed := true, recurses := true, apart := false, narrowed := true }
def FnExactLevelBalanceUptoSaid : Prop := fnExactLevelBalanceUptoRow.holds Try.pinned (OpenSpec.upto fnExactLevelBalanceSpec)

/-- 'laws.FnExactLampCurve', WHERE WHAT IT READS IS OF BULK AT MOST 1048576: true; the input reads as it did. -/
def fnExactLampCurveUptoRow : OpenClaim := { program := "ytmpcalpapkedhaa", sum := "906f07a5d109fd839781a2f80e2ef003ed04ccc8b175388cbedd198addf9657a", func := "loop.example/g01403/laws.FnExactLampCurve", spec := "fnExactLampCurve", inPlace := ["math.Float64bits", "math.Float64frombits"], unfollowed := true, recurses := true, apart := false, narrowed := true }
def FnExactLampCurveUptoSaid : Prop := fnExactLampCurveUptoRow.holds Try.pinned (OpenSpec.upto fnExactLampCurveSpec)

/-- 'laws.FnExactFitHeights', WHERE WHAT IT READS IS OF BULK AT MOST 1048576: true; the input reads as it did. -/
def fnExactFitHeightsUptoRow : OpenClaim := { program := "ytmpcalpapkedhaa", sum := "906f07a5d109fd839781a2f80e2ef003ed04ccc8b175388cbedd198addf9657a", func := "loop.example/g01403/laws.FnExactFitHeights", spec := "fnExactFitHeights", inPlace := ["math.Float64frombits", "math.Float64bits"], unfollowed := true, recurses := true, apart := false, narrowed := true }
def FnExactFitHeightsUptoSaid : Prop := fnExactFitHeightsUptoRow.holds Try.pinned (OpenSpec.upto fnExactFitHeightsSpec)

/-- 'laws.FnExactLevelSteps', WHERE WHAT IT READS IS OF BULK AT MOST 1048576: true; the input reads as it did. -/
def fnExactLevelStepsUptoRow : OpenClaim := { program := "ytmpcalpapkedhaa", sum := "906f07a5d109fd839781a2f80e2ef003ed04ccc8b175388cbedd198addf9657a", func := "loop.example/g01403/laws.FnExactLevelSteps", spec := "fnExactLevelSteps", inPlace := ["math.Float64bits", "math.Float64frombits"], unfollowed := true, recurses := true, apart := false, narrowed := true }
def FnExactLevelStepsUptoSaid : Prop := fnExactLevelStepsUptoRow.holds Try.pinned (OpenSpec.upto fnExactLevelStepsSpec)

/-- 'laws.FnExactCountLines', WHERE WHAT IT READS IS OF BULK AT MOST 1048576: true; the input reads as it did. -/
def fnExactCountLinesUptoRow : OpenClaim := { program := "ytmpcalpapkedhaa", sum := "906f07a5d109fd839781a2f80e2ef003ed04ccc8b175388cbedd198addf9657a", func := "loop.example/g01403/laws.FnExactCountLines", spec := "fnExactCountLines", inPlace := ["math.Float64frombits", "math.Float64bits"], unfollowed := true, recurses := true, apart := false, narrowed := true }
def FnExactCountLinesUptoSaid : Prop := fnExactCountLinesUptoRow.holds Try.pinned (OpenSpec.upto fnExactCountLinesSpec)

end Rows
end Go.Proofs.Ytmpcalpapkedhaa
