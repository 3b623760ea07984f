/-
  No cell of these rows narrows 'for every input' (looked for: loops, veiled, ifaces, maps, wideKeys, modest, calm, conditions, laid).
  DERIVED. THE GIVEN ROWS OF THIS SEAT. 12 by the template 'for every input the law returns true; each argument reads behind the call as it read before'; 0 by the template 'total and deterministic' (their statements: YtchpnjihhncfmaaTotals.lean).
  GIVEN WITH THE SEED: the statements are not yours to turn. If you find one false, say at which input.
  Laid BY PROGRAM, IN A SANDBOX (cutbox-rows.mjs): the forced cells as the released guide's own fill.sh prints them over the translation 76b0c7cea5dfa9e5… (all of the seat's roots in one cut). By AI agents, Wed Nov 11 2026. No macro, syntax, notation, axiom, sorry.
-/
import Derived.Test.YtchpnjihhncfmaaChecked
import GoSem.Claim
import GoSem.ClaimJoined
import GoSem.ClaimMapViews
import Derived.JoinedTies
import Derived.KernelRfl
namespace Go.Proofs.Ytchpnjihhncfmaa
/- THE CELL 'sum', in the pinned program and in every row, IS THE sha256 OF THE DUMP (.gsa) THAT YtchpnjihhncfmaaProg.lean LOADS. Nothing in Lean hashes anything: it is a label: what it is worth is what the hold of that sum in a sandbox is worth. -/
noncomputable def Try.pinned : Pinned := { name := "ytchpnjihhncfmaa", sum := "76b0c7cea5dfa9e549dbe3c1d0e7452bf2ad74386a19661b8c1a27f23d439546", checked := Try.checked }
namespace Rows
def none {H : Type} : Left H := { results := [], args := [] }

/-- 'laws.FnExactCosmicMarks': WHATEVER THE INPUT: true; the input reads as it did. -/
def fnExactCosmicMarksSpec : ChangeSpec := { name := "fnExactCosmicMarks", fn := fun _ => fun
  | [d1, d2] => { results := [.lit (.bool true)], args := [d1, d2] }
  | _ => none }
def fnExactCosmicMarksRow : OpenClaim := { program := "ytchpnjihhncfmaa", sum := "76b0c7cea5dfa9e549dbe3c1d0e7452bf2ad74386a19661b8c1a27f23d439546", func := "loop.example/g01403/laws.FnExactCosmicMarks", spec := "fnExactCosmicMarks", inPlace := ["math.Float64bits", "math.Float64frombits"], unfollowed := true, recurses := true, apart := false }
def FnExactCosmicMarksSaid : Prop := fnExactCosmicMarksRow.holds Try.pinned (OpenSpec.ofChange fnExactCosmicMarksSpec)

/-- ITS FALSE NEIGHBOUR: 'it returns false'. Refute it at one input. -/
def fnExactCosmicMarksWrong : ChangeSpec := { name := "fnExactCosmicMarks", fn := fun _ => fun
  | [d1, d2] => { results := [.lit (.bool false)], args := [d1, d2] }
  | _ => none }
def FnExactCosmicMarksWrongFalsely : Prop := fnExactCosmicMarksRow.holds Try.pinned (OpenSpec.ofChange fnExactCosmicMarksWrong)

/-- 'laws.FnExactScanLines': WHATEVER THE INPUT: true; the input reads as it did. -/
def fnExactScanLinesSpec : ChangeSpec := { name := "fnExactScanLines", fn := fun _ => fun
  | [d] => { results := [.lit (.bool true)], args := [d] }
  | _ => none }
def fnExactScanLinesRow : OpenClaim := { program := "ytchpnjihhncfmaa", sum := "76b0c7cea5dfa9e549dbe3c1d0e7452bf2ad74386a19661b8c1a27f23d439546", func := "loop.example/g01403/laws.FnExactScanLines", spec := "fnExactScanLines", inPlace := ["math.Float32frombits", "math.Float64frombits", "math.Float64bits"], unfollowed := true, recurses := true, apart := false }
def FnExactScanLinesSaid : Prop := fnExactScanLinesRow.holds Try.pinned (OpenSpec.ofChange fnExactScanLinesSpec)

/-- ITS FALSE NEIGHBOUR: 'it returns false'. Refute it at one input. -/
def fnExactScanLinesWrong : ChangeSpec := { name := "fnExactScanLines", fn := fun _ => fun
  | [d] => { results := [.lit (.bool false)], args := [d] }
  | _ => none }
def FnExactScanLinesWrongFalsely : Prop := fnExactScanLinesRow.holds Try.pinned (OpenSpec.ofChange fnExactScanLinesWrong)

/-- 'laws.FnExactLampCurve': WHATEVER THE INPUT: true; the input reads as it did. -/
def fnExactLampCurveSpec : ChangeSpec := { name := "fnExactLampCurve", fn := fun _ => fun
  | [d1, d2] => { results := [.lit (.bool true)], args := [d1, d2] }
  | _ => none }
def fnExactLampCurveRow : OpenClaim := { program := "ytchpnjihhncfmaa", sum := "76b0c7cea5dfa9e549dbe3c1d0e7452bf2ad74386a19661b8c1a27f23d439546", func := "loop.example/g01403/laws.FnExactLampCurve", spec := "fnExactLampCurve", inPlace := ["math.Float64bits", "math.Float64frombits"], unfollowed := true, recurses := true, apart := false }
def FnExactLampCurveSaid : Prop := fnExactLampCurveRow.holds Try.pinned (OpenSpec.ofChange fnExactLampCurveSpec)

/-- ITS FALSE NEIGHBOUR: 'it returns false'. Refute it at one input. -/
def fnExactLampCurveWrong : ChangeSpec := { name := "fnExactLampCurve", fn := fun _ => fun
  | [d1, d2] => { results := [.lit (.bool false)], args := [d1, d2] }
  | _ => none }
def FnExactLampCurveWrongFalsely : Prop := fnExactLampCurveRow.holds Try.pinned (OpenSpec.ofChange fnExactLampCurveWrong)

/-- 'laws.FnExactBentPeaks': WHATEVER THE INPUT: true; the input reads as it did. -/
def fnExactBentPeaksSpec : ChangeSpec := { name := "fnExactBentPeaks", fn := fun _ => fun
  | [d1, d2] => { results := [.lit (.bool true)], args := [d1, d2] }
  | _ => none }
def fnExactBentPeaksRow : OpenClaim := { program := "ytchpnjihhncfmaa", sum := "76b0c7cea5dfa9e549dbe3c1d0e7452bf2ad74386a19661b8c1a27f23d439546", func := "loop.example/g01403/laws.FnExactBentPeaks", spec := "fnExactBentPeaks", inPlace := ["math.Float64bits", "math.Float64frombits"], unfollowed := true, recurses := true, apart := false }
def FnExactBentPeaksSaid : Prop := fnExactBentPeaksRow.holds Try.pinned (OpenSpec.ofChange fnExactBentPeaksSpec)

/-- ITS FALSE NEIGHBOUR: 'it returns false'. Refute it at one input. -/
def fnExactBentPeaksWrong : ChangeSpec := { name := "fnExactBentPeaks", fn := fun _ => fun
  | [d1, d2] => { results := [.lit (.bool false)], args := [d1, d2] }
  | _ => none }
def FnExactBentPeaksWrongFalsely : Prop := fnExactBentPeaksRow.holds Try.pinned (OpenSpec.ofChange fnExactBentPeaksWrong)

/-- 'laws.FnExactCriterionOf': WHATEVER THE INPUT: true; the input reads as it did. -/
def fnExactCriterionOfSpec : ChangeSpec := { name := "fnExactCriterionOf", fn := fun _ => fun
  | [d1, d2, d3] => { results := [.lit (.bool true)], args := [d1, d2, d3] }
  | _ => none }
def fnExactCriterionOfRow : OpenClaim := { program := "ytchpnjihhncfmaa", sum := "76b0c7cea5dfa9e549dbe3c1d0e7452bf2ad74386a19661b8c1a27f23d439546", func := "loop.example/g01403/laws.FnExactCriterionOf", spec := "fnExactCriterionOf", inPlace := ["math.Float64frombits", "math.Float64bits"], apart := false }
def FnExactCriterionOfSaid : Prop := fnExactCriterionOfRow.holds Try.pinned (OpenSpec.ofChange fnExactCriterionOfSpec)

/-- ITS FALSE NEIGHBOUR: 'it returns false'. Refute it at one input. -/
def fnExactCriterionOfWrong : ChangeSpec := { name := "fnExactCriterionOf", fn := fun _ => fun
  | [d1, d2, d3] => { results := [.lit (.bool false)], args := [d1, d2, d3] }
  | _ => none }
def FnExactCriterionOfWrongFalsely : Prop := fnExactCriterionOfRow.holds Try.pinned (OpenSpec.ofChange fnExactCriterionOfWrong)

/-- 'laws.FnExactLinesAt': WHATEVER THE INPUT: true; the input reads as it did. -/
def fnExactLinesAtSpec : ChangeSpec := { name := "fnExactLinesAt", fn := fun _ => fun
  | [d1, d2] => { results := [.lit (.bool true)], args := [d1, d2] }
  | _ => none }
def fnExactLinesAtRow : OpenClaim := { program := "ytchpnjihhncfmaa", sum := "76b0c7cea5dfa9e549dbe3c1d0e7452bf2ad74386a19661b8c1a27f23d439546", func := "loop.example/g01403/laws.FnExactLinesAt", spec := "fnExactLinesAt", inPlace := ["math.Float64frombits", "math.Float64bits"], unfollowed := true, recurses := true, apart := false }
def FnExactLinesAtSaid : Prop := fnExactLinesAtRow.holds Try.pinned (OpenSpec.ofChange fnExactLinesAtSpec)

/-- ITS FALSE NEIGHBOUR: 'it returns false'. Refute it at one input. -/
def fnExactLinesAtWrong : ChangeSpec := { name := "fnExactLinesAt", fn := fun _ => fun
  | [d1, d2] => { results := [.lit (.bool false)], args := [d1, d2] }
  | _ => none }
def FnExactLinesAtWrongFalsely : Prop := fnExactLinesAtRow.holds Try.pinned (OpenSpec.ofChange fnExactLinesAtWrong)

/-- 'laws.FnExactSpectrumOf': WHATEVER THE INPUT: true; the input reads as it did. -/
def fnExactSpectrumOfSpec : ChangeSpec := { name := "fnExactSpectrumOf", fn := fun _ => fun
  | [d1, d2, d3, d4] => { results := [.lit (.bool true)], args := [d1, d2, d3, d4] }
  | _ => none }
def fnExactSpectrumOfRow : OpenClaim := { program := "ytchpnjihhncfmaa", sum := "76b0c7cea5dfa9e549dbe3c1d0e7452bf2ad74386a19661b8c1a27f23d439546", func := "loop.example/g01403/laws.FnExactSpectrumOf", spec := "fnExactSpectrumOf", inPlace := ["math.Float64frombits", "math.Float64bits"], unfollowed := true, recurses := true, apart := false }
def FnExactSpectrumOfSaid : Prop := fnExactSpectrumOfRow.holds Try.pinned (OpenSpec.ofChange fnExactSpectrumOfSpec)

/-- ITS FALSE NEIGHBOUR: 'it returns false'. Refute it at one input. -/
def fnExactSpectrumOfWrong : ChangeSpec := { name := "fnExactSpectrumOf", fn := fun _ => fun
  | [d1, d2, d3, d4] => { results := [.lit (.bool false)], args := [d1, d2, d3, d4] }
  | _ => none }
def FnExactSpectrumOfWrongFalsely : Prop := fnExactSpectrumOfRow.holds Try.pinned (OpenSpec.ofChange fnExactSpectrumOfWrong)

/-- 'laws.FnExactRestOf': WHATEVER THE INPUT: true; the input reads as it did. -/
def fnExactRestOfSpec : ChangeSpec := { name := "fnExactRestOf", fn := fun _ => fun
  | [d1, d2, d3, d4] => { results := [.lit (.bool true)], args := [d1, d2, d3, d4] }
  | _ => none }
def fnExactRestOfRow : OpenClaim := { program := "ytchpnjihhncfmaa", sum := "76b0c7cea5dfa9e549dbe3c1d0e7452bf2ad74386a19661b8c1a27f23d439546", func := "loop.example/g01403/laws.FnExactRestOf", spec := "fnExactRestOf", inPlace := ["math.Float64frombits", "math.Float64bits"], unfollowed := true, recurses := true, apart := false }
def FnExactRestOfSaid : Prop := fnExactRestOfRow.holds Try.pinned (OpenSpec.ofChange fnExactRestOfSpec)

/-- ITS FALSE NEIGHBOUR: 'it returns false'. Refute it at one input. -/
def fnExactRestOfWrong : ChangeSpec := { name := "fnExactRestOf", fn := fun _ => fun
  | [d1, d2, d3, d4] => { results := [.lit (.bool false)], args := [d1, d2, d3, d4] }
  | _ => none }
def FnExactRestOfWrongFalsely : Prop := fnExactRestOfRow.holds Try.pinned (OpenSpec.ofChange fnExactRestOfWrong)

/-- 'laws.FnExactSameLines': WHATEVER THE INPUT: true; the input reads as it did. -/
def fnExactSameLinesSpec : ChangeSpec := { name := "fnExactSameLines", fn := fun _ => fun
  | [d1, d2] => { results := [.lit (.bool true)], args := [d1, d2] }
  | _ => none }
def fnExactSameLinesRow : OpenClaim := { program := "ytchpnjihhncfmaa", sum := "76b0c7cea5dfa9e549dbe3c1d0e7452bf2ad74386a19661b8c1a27f23d439546", func := "loop.example/g01403/laws.FnExactSameLines", spec := "fnExactSameLines", inPlace := ["math.Float32bits"], unfollowed := true, recurses := true, apart := false }
def FnExactSameLinesSaid : Prop := fnExactSameLinesRow.holds Try.pinned (OpenSpec.ofChange fnExactSameLinesSpec)

/-- ITS FALSE NEIGHBOUR: 'it returns false'. Refute it at one input. -/
def fnExactSameLinesWrong : ChangeSpec := { name := "fnExactSameLines", fn := fun _ => fun
  | [d1, d2] => { results := [.lit (.bool false)], args := [d1, d2] }
  | _ => none }
def FnExactSameLinesWrongFalsely : Prop := fnExactSameLinesRow.holds Try.pinned (OpenSpec.ofChange fnExactSameLinesWrong)

/-- 'laws.FnExactPeaksOf': WHATEVER THE INPUT: true; the input reads as it did. -/
def fnExactPeaksOfSpec : ChangeSpec := { name := "fnExactPeaksOf", fn := fun _ => fun
  | [d1, d2, d3] => { results := [.lit (.bool true)], args := [d1, d2, d3] }
  | _ => none }
def fnExactPeaksOfRow : OpenClaim := { program := "ytchpnjihhncfmaa", sum := "76b0c7cea5dfa9e549dbe3c1d0e7452bf2ad74386a19661b8c1a27f23d439546", func := "loop.example/g01403/laws.FnExactPeaksOf", spec := "fnExactPeaksOf", inPlace := ["math.Float64bits", "math.Float64frombits"], unfollowed := true, recurses := true, apart := false }
def FnExactPeaksOfSaid : Prop := fnExactPeaksOfRow.holds Try.pinned (OpenSpec.ofChange fnExactPeaksOfSpec)

/-- ITS FALSE NEIGHBOUR: 'it returns false'. Refute it at one input. -/
def fnExactPeaksOfWrong : ChangeSpec := { name := "fnExactPeaksOf", fn := fun _ => fun
  | [d1, d2, d3] => { results := [.lit (.bool false)], args := [d1, d2, d3] }
  | _ => none }
def FnExactPeaksOfWrongFalsely : Prop := fnExactPeaksOfRow.holds Try.pinned (OpenSpec.ofChange fnExactPeaksOfWrong)

/-- 'laws.FnExactLevelSteps': WHATEVER THE INPUT: true; the input reads as it did. -/
def fnExactLevelStepsSpec : ChangeSpec := { name := "fnExactLevelSteps", fn := fun _ => fun
  | [d1, d2, d3, d4, d5] => { results := [.lit (.bool true)], args := [d1, d2, d3, d4, d5] }
  | _ => none }
def fnExactLevelStepsRow : OpenClaim := { program := "ytchpnjihhncfmaa", sum := "76b0c7cea5dfa9e549dbe3c1d0e7452bf2ad74386a19661b8c1a27f23d439546", func := "loop.example/g01403/laws.FnExactLevelSteps", spec := "fnExactLevelSteps", inPlace := ["math.Float64bits", "math.Float64frombits"], unfollowed := true, recurses := true, apart := false }
def FnExactLevelStepsSaid : Prop := fnExactLevelStepsRow.holds Try.pinned (OpenSpec.ofChange fnExactLevelStepsSpec)

/-- ITS FALSE NEIGHBOUR: 'it returns false'. Refute it at one input. -/
def fnExactLevelStepsWrong : ChangeSpec := { name := "fnExactLevelSteps", fn := fun _ => fun
  | [d1, d2, d3, d4, d5] => { results := [.lit (.bool false)], args := [d1, d2, d3, d4, d5] }
  | _ => none }
def FnExactLevelStepsWrongFalsely : Prop := fnExactLevelStepsRow.holds Try.pinned (OpenSpec.ofChange fnExactLevelStepsWrong)

/-- 'laws.FnExactPulseTurns': WHATEVER THE INPUT: true; the input reads as it did. -/
def fnExactPulseTurnsSpec : ChangeSpec := { name := "fnExactPulseTurns", fn := fun _ => fun
  | [d] => { results := [.lit (.bool true)], args := [d] }
  | _ => none }
def fnExactPulseTurnsRow : OpenClaim := { program := "ytchpnjihhncfmaa", sum := "76b0c7cea5dfa9e549dbe3c1d0e7452bf2ad74386a19661b8c1a27f23d439546", func := "loop.example/g01403/laws.FnExactPulseTurns", spec := "fnExactPulseTurns", inPlace := ["math.sqrt", "math.Float32frombits", "math.Float64frombits", "math.Float64bits"], unfollowed := true, recurses := true, apart := false }
def FnExactPulseTurnsSaid : Prop := fnExactPulseTurnsRow.holds Try.pinned (OpenSpec.ofChange fnExactPulseTurnsSpec)

/-- ITS FALSE NEIGHBOUR: 'it returns false'. Refute it at one input. -/
def fnExactPulseTurnsWrong : ChangeSpec := { name := "fnExactPulseTurns", fn := fun _ => fun
  | [d] => { results := [.lit (.bool false)], args := [d] }
  | _ => none }
def FnExactPulseTurnsWrongFalsely : Prop := fnExactPulseTurnsRow.holds Try.pinned (OpenSpec.ofChange fnExactPulseTurnsWrong)

/- THE SECOND FORM. 'bulk': how many values and letters a reading holds, each counted each time it is reached (what is shared counts as often as it is met; a slice's spare places count too). A statement '..UptoSaid' is the law's where the arguments, and the package variables that the reading takes, are together of bulk at most 1048576: NARROWER than '..Said'. Prove '..Said' where nothing that the law and all that it calls make is longer than what came in: it says more and counts as full. Else prove '..UptoSaid'. A law counts once. -/
mutual
def uptoBulk {H : Type} : DataW H → Nat
  | .lit (.string bytes) => bytes.length + 1
  | .lit _ => 1
  | .nil => 1
  | .ptr d => uptoBulk d + 1
  | .slice elems spare => uptoBulkAll elems + uptoBulkAll spare + 1
  | .agg parts => uptoBulkAll parts + 1
  | .iface _ d => uptoBulk d + 1
  | .map entries => uptoBulkEntries entries + 1
  | .held _ => 1
def uptoBulkAll {H : Type} : List (DataW H) → Nat
  | [] => 0
  | d :: r => uptoBulk d + uptoBulkAll r
def uptoBulkEntries {H : Type} : List (Lit × DataW H) → Nat
  | [] => 0
  | x :: r => uptoBulkEntry x + uptoBulkEntries r
def uptoBulkEntry {H : Type} : Lit × DataW H → Nat
  | (.string bytes, d) => bytes.length + uptoBulk d + 1
  | (_, d) => uptoBulk d + 1
 end
def uptoSmall : (H : Type) → List (DataW H) → Bool := fun _ ds => decide (uptoBulkAll ds ≤ 1048576)
def OpenSpec.upto (s : _root_.Go.ChangeSpec) : _root_.Go.OpenSpec := { _root_.Go.OpenSpec.ofChange s with cond := some uptoSmall }

/-- 'laws.FnExactCosmicMarks', WHERE WHAT IT READS IS OF BULK AT MOST 1048576: true; the input reads as it did. -/
def fnExactCosmicMarksUptoRow : OpenClaim := { program := "ytchpnjihhncfmaa", sum := "76b0c7cea5dfa9e549dbe3c1d0e7452bf2ad74386a19661b8c1a27f23d439546", func := "loop.example/g01403/laws.FnExactCosmicMarks", spec := "fnExactCosmicMarks", inPlace := ["math.Float64bits", "math.Float64frombits"], unfollowed := true, recurses := true, apart := false, narrowed := true }
def FnExactCosmicMarksUptoSaid : Prop := fnExactCosmicMarksUptoRow.holds Try.pinned (OpenSpec.upto fnExactCosmicMarksSpec)

/-- 'laws.FnExactScanLines', WHERE WHAT IT READS IS OF BULK AT MOST 1048576: true; the input reads as it did. -/
def fnExactScanLinesUptoRow : OpenClaim := { program := "ytchpnjihhncfmaa", sum := "76b0c7cea5dfa9e549dbe3c1d0e7452bf2ad74386a19661b8c1a27f23d439546", func := "loop.example/g01403/laws.FnExactScanLines", spec := "fnExactScanLines", inPlace := ["math.Float32frombits", "math.Float64frombits", "math.Float64bits"], unfollowed := true, recurses := true, apart := false, narrowed := true }
def FnExactScanLinesUptoSaid : Prop := fnExactScanLinesUptoRow.holds Try.pinned (OpenSpec.upto fnExactScanLinesSpec)

/-- 'laws.FnExactLampCurve', WHERE WHAT IT READS IS OF BULK AT MOST 1048576: true; the input reads as it did. -/
def fnExactLampCurveUptoRow : OpenClaim := { program := "ytchpnjihhncfmaa", sum := "76b0c7cea5dfa9e549dbe3c1d0e7452bf2ad74386a19661b8c1a27f23d439546", func := "loop.example/g01403/laws.FnExactLampCurve", spec := "fnExactLampCurve", inPlace := ["math.Float64bits", "math.Float64frombits"], unfollowed := true, recurses := true, apart := false, narrowed := true }
def FnExactLampCurveUptoSaid : Prop := fnExactLampCurveUptoRow.holds Try.pinned (OpenSpec.upto fnExactLampCurveSpec)

/-- 'laws.FnExactBentPeaks', WHERE WHAT IT READS IS OF BULK AT MOST 1048576: true; the input reads as it did. -/
def fnExactBentPeaksUptoRow : OpenClaim := { program := "ytchpnjihhncfmaa", sum := "76b0c7cea5dfa9e549dbe3c1d0e7452bf2ad74386a19661b8c1a27f23d439546", func := "loop.example/g01403/laws.FnExactBentPeaks", spec := "fnExactBentPeaks", inPlace := ["math.Float64bits", "math.Float64frombits"], unfollowed := true, recurses := true, apart := false, narrowed := true }
def FnExactBentPeaksUptoSaid : Prop := fnExactBentPeaksUptoRow.holds Try.pinned (OpenSpec.upto fnExactBentPeaksSpec)

/-- 'laws.FnExactCriterionOf', WHERE WHAT IT READS IS OF BULK AT MOST 1048576: true; the input reads as it did. -/
def fnExactCriterionOfUptoRow : OpenClaim := { program := "ytchpnjihhncfmaa", sum := "76b0c7cea5dfa9e549dbe3c1d0e7452bf2ad74386a19661b8c1a27f23d439546", func := "loop.example/g01403/laws.FnExactCriterionOf", spec := "fnExactCriterionOf", inPlace := ["math.Float64frombits", "math.Float64bits"], apart := false, narrowed := true }
def FnExactCriterionOfUptoSaid : Prop := fnExactCriterionOfUptoRow.holds Try.pinned (OpenSpec.upto fnExactCriterionOfSpec)

/-- 'laws.FnExactLinesAt', WHERE WHAT IT READS IS OF BULK AT MOST 1048576: true; the input reads as it did. -/
def fnExactLinesAtUptoRow : OpenClaim := { program := "ytchpnjihhncfmaa", sum := "76b0c7cea5dfa9e549dbe3c1d0e7452bf2ad74386a19661b8c1a27f23d439546", func := "loop.example/g01403/laws.FnExactLinesAt", spec := "fnExactLinesAt", inPlace := ["math.Float64frombits", "math.Float64bits"], unfollowed := true, recurses := true, apart := false, narrowed := true }
def FnExactLinesAtUptoSaid : Prop := fnExactLinesAtUptoRow.holds Try.pinned (OpenSpec.upto fnExactLinesAtSpec)

/-- 'laws.FnExactSpectrumOf', WHERE WHAT IT READS IS OF BULK AT MOST 1048576: true; the input reads as it did. -/
def fnExactSpectrumOfUptoRow : OpenClaim := { program := "ytchpnjihhncfmaa", sum := "76b0c7cea5dfa9e549dbe3c1d0e7452bf2ad74386a19661b8c1a27f23d439546", func := "loop.example/g01403/laws.FnExactSpectrumOf", spec := "fnExactSpectrumOf", inPlace := ["math.Float64frombits", "math.Float64bits"], unfollowed := true, recurses := true, apart := false, narrowed := true }
def FnExactSpectrumOfUptoSaid : Prop := fnExactSpectrumOfUptoRow.holds Try.pinned (OpenSpec.upto fnExactSpectrumOfSpec)

/-- 'laws.FnExactRestOf', WHERE WHAT IT READS IS OF BULK AT MOST 1048576: true; the input reads as it did. -/
def fnExactRestOfUptoRow : OpenClaim := { program := "ytchpnjihhncfmaa", sum := "76b0c7cea5dfa9e549dbe3c1d0e7452bf2ad74386a19661b8c1a27f23d439546", func := "loop.example/g01403/laws.FnExactRestOf", spec := "fnExactRestOf", inPlace := ["math.Float64frombits", "math.Float64bits"], unfollowed := true, recurses := true, apart := false, narrowed := true }
def FnExactRestOfUptoSaid : Prop := fnExactRestOfUptoRow.holds Try.pinned (OpenSpec.upto fnExactRestOfSpec)

/-- 'laws.FnExactSameLines', WHERE WHAT IT READS IS OF BULK AT MOST 1048576: true; the input reads as it did. -/
def fnExactSameLinesUptoRow : OpenClaim := { program := "ytchpnjihhncfmaa", sum := "76b0c7cea5dfa9e549dbe3c1d0e7452bf2ad74386a19661b8c1a27f23d439546", func := "loop.example/g01403/laws.FnExactSameLines", spec := "fnExactSameLines", inPlace := ["math.Float32bits"], unfollowed := true, recurses := true, apart := false, narrowed := true }
def FnExactSameLinesUptoSaid : Prop := fnExactSameLinesUptoRow.holds Try.pinned (OpenSpec.upto fnExactSameLinesSpec)

/-- 'laws.FnExactPeaksOf', WHERE WHAT IT READS IS OF BULK AT MOST 1048576: true; the input reads as it did. -/
def fnExactPeaksOfUptoRow : OpenClaim := { program := "ytchpnjihhncfmaa", sum := "76b0c7cea5dfa9e549dbe3c1d0e7452bf2ad74386a19661b8c1a27f23d439546", func := "loop.example/g01403/laws.FnExactPeaksOf", spec := "fnExactPeaksOf", inPlace := ["math.Float64bits", "math.Float64frombits"], unfollowed := true, recurses := true, apart := false, narrowed := true }
def FnExactPeaksOfUptoSaid : Prop := fnExactPeaksOfUptoRow.holds Try.pinned (OpenSpec.upto fnExactPeaksOfSpec)

/-- 'laws.FnExactLevelSteps', WHERE WHAT IT READS IS OF BULK AT MOST 1048576: true; the input reads as it did. -/
def fnExactLevelStepsUptoRow : OpenClaim := { program := "ytchpnjihhncfmaa", sum := "76b0c7cea5dfa9e549dbe3c1d0e7452bf2ad74386a19661b8c1a27f23d439546", func := "loop.example/g01403/laws.FnExactLevelSteps", spec := "fnExactLevelSteps", inPlace := ["math.Float64bits", "math.Float64frombits"], unfollowed := true, recurses := true, apart := false, narrowed := true }
def FnExactLevelStepsUptoSaid : Prop := fnExactLevelStepsUptoRow.holds Try.pinned (OpenSpec.upto fnExactLevelStepsSpec)

/-- 'laws.FnExactPulseTurns', WHERE WHAT IT READS IS OF BULK AT MOST 1048576: true; the input reads as it did. -/
def fnExactPulseTurnsUptoRow : OpenClaim := { program := "ytchpnjihhncfmaa", sum := "76b0c7cea5dfa9e549dbe3c1d0e7452bf2ad74386a19661b8c1a27f23d439546", func := "loop.example/g01403/laws.FnExactPulseTurns", spec := "fnExactPulseTurns", inPlace := ["math.sqrt", "math.Float32frombits", "math.Float64frombits", "math.Float64bits"], unfollowed := true, recurses := true, apart := false, narrowed := true }
def FnExactPulseTurnsUptoSaid : Prop := fnExactPulseTurnsUptoRow.holds Try.pinned (OpenSpec.upto fnExactPulseTurnsSpec)

end Rows
end Go.Proofs.Ytchpnjihhncfmaa
