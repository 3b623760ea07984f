/-
  No cell of these rows narrows 'for every input' (looked for: loops, veiled, ifaces, maps, wideKeys, modest, calm, conditions, laid).
  DERIVED. THE GIVEN ROWS OF THIS SEAT. 7 by the template 'for every input the law returns true; each argument reads behind the call as it read before'; 0 by the template 'total and deterministic' (their statements: YtogmcinaoemnpaaTotals.lean).
  GIVEN WITH THE SEED: the statements are not yours to turn. If you find one false, say at which input.
  Laid BY PROGRAM, IN A SANDBOX (cutbox-rows.mjs): the forced cells as the released guide's own fill.sh prints them over the translation 8417624ea9cbf736… (all of the seat's roots in one cut). By AI agents, Wed Nov 11 2026. No macro, syntax, notation, axiom, sorry.
-/
import Derived.Test.YtogmcinaoemnpaaChecked
import GoSem.Claim
import GoSem.ClaimJoined
import GoSem.ClaimMapViews
import Derived.JoinedTies
import Derived.KernelRfl
namespace Go.Proofs.Ytogmcinaoemnpaa
/- THE CELL 'sum', in the pinned program and in every row, IS THE sha256 OF THE DUMP (.gsa) THAT YtogmcinaoemnpaaProg.lean LOADS. Nothing in Lean hashes anything: it is a label: what it is worth is what the hold of that sum in a sandbox is worth. -/
noncomputable def Try.pinned : Pinned := { name := "ytogmcinaoemnpaa", sum := "8417624ea9cbf73653fbe057f09564fb45088b808f177d76363fa1ee931d6404", checked := Try.checked }
namespace Rows
def none {H : Type} : Left H := { results := [], args := [] }

/-- 'laws.FnExactLevelBalance': WHATEVER THE INPUT: true; the input reads as it did. -/
def fnExactLevelBalanceSpec : ChangeSpec := { name := "fnExactLevelBalance", fn := fun _ => fun
  | [d1, d2] => { results := [.lit (.bool true)], args := [d1, d2] }
  | _ => none }
def fnExactLevelBalanceRow : OpenClaim := { program := "ytogmcinaoemnpaa", sum := "8417624ea9cbf73653fbe057f09564fb45088b808f177d76363fa1ee931d6404", func := "loop.example/g01403/laws.FnExactLevelBalance", spec := "fnExactLevelBalance", inPlace := ["math.Float64bits", "math.Float64frombits"], unfollowed := true, recurses := true, apart := false }
def FnExactLevelBalanceSaid : Prop := fnExactLevelBalanceRow.holds Try.pinned (OpenSpec.ofChange fnExactLevelBalanceSpec)

/-- ITS FALSE NEIGHBOUR: 'it returns false'. Refute it at one input. -/
def fnExactLevelBalanceWrong : ChangeSpec := { name := "fnExactLevelBalance", fn := fun _ => fun
  | [d1, d2] => { results := [.lit (.bool false)], args := [d1, d2] }
  | _ => none }
def FnExactLevelBalanceWrongFalsely : Prop := fnExactLevelBalanceRow.holds Try.pinned (OpenSpec.ofChange fnExactLevelBalanceWrong)

/-- 'laws.FnExactLampCurve': WHATEVER THE INPUT: true; the input reads as it did. -/
def fnExactLampCurveSpec : ChangeSpec := { name := "fnExactLampCurve", fn := fun _ => fun
  | [d1, d2] => { results := [.lit (.bool true)], args := [d1, d2] }
  | _ => none }
def fnExactLampCurveRow : OpenClaim := { program := "ytogmcinaoemnpaa", sum := "8417624ea9cbf73653fbe057f09564fb45088b808f177d76363fa1ee931d6404", func := "loop.example/g01403/laws.FnExactLampCurve", spec := "fnExactLampCurve", inPlace := ["math.Float64bits", "math.Float64frombits"], unfollowed := true, recurses := true, apart := false }
def FnExactLampCurveSaid : Prop := fnExactLampCurveRow.holds Try.pinned (OpenSpec.ofChange fnExactLampCurveSpec)

/-- ITS FALSE NEIGHBOUR: 'it returns false'. Refute it at one input. -/
def fnExactLampCurveWrong : ChangeSpec := { name := "fnExactLampCurve", fn := fun _ => fun
  | [d1, d2] => { results := [.lit (.bool false)], args := [d1, d2] }
  | _ => none }
def FnExactLampCurveWrongFalsely : Prop := fnExactLampCurveRow.holds Try.pinned (OpenSpec.ofChange fnExactLampCurveWrong)

/-- 'laws.FnExactJoinSteps': WHATEVER THE INPUT: true; the input reads as it did. -/
def fnExactJoinStepsSpec : ChangeSpec := { name := "fnExactJoinSteps", fn := fun _ => fun
  | [d1, d2, d3] => { results := [.lit (.bool true)], args := [d1, d2, d3] }
  | _ => none }
def fnExactJoinStepsRow : OpenClaim := { program := "ytogmcinaoemnpaa", sum := "8417624ea9cbf73653fbe057f09564fb45088b808f177d76363fa1ee931d6404", func := "loop.example/g01403/laws.FnExactJoinSteps", spec := "fnExactJoinSteps", inPlace := ["math.Float32bits", "math.Float64bits", "math.Float64frombits"], unfollowed := true, recurses := true, apart := false }
def FnExactJoinStepsSaid : Prop := fnExactJoinStepsRow.holds Try.pinned (OpenSpec.ofChange fnExactJoinStepsSpec)

/-- ITS FALSE NEIGHBOUR: 'it returns false'. Refute it at one input. -/
def fnExactJoinStepsWrong : ChangeSpec := { name := "fnExactJoinSteps", fn := fun _ => fun
  | [d1, d2, d3] => { results := [.lit (.bool false)], args := [d1, d2, d3] }
  | _ => none }
def FnExactJoinStepsWrongFalsely : Prop := fnExactJoinStepsRow.holds Try.pinned (OpenSpec.ofChange fnExactJoinStepsWrong)

/-- 'laws.FnExactSoftScan': WHATEVER THE INPUT: true; the input reads as it did. -/
def fnExactSoftScanSpec : ChangeSpec := { name := "fnExactSoftScan", fn := fun _ => fun
  | [d1, d2] => { results := [.lit (.bool true)], args := [d1, d2] }
  | _ => none }
def fnExactSoftScanRow : OpenClaim := { program := "ytogmcinaoemnpaa", sum := "8417624ea9cbf73653fbe057f09564fb45088b808f177d76363fa1ee931d6404", func := "loop.example/g01403/laws.FnExactSoftScan", spec := "fnExactSoftScan", inPlace := ["math.Float32frombits", "math.Float64frombits", "math.Float64bits"], unfollowed := true, recurses := true, apart := false }
def FnExactSoftScanSaid : Prop := fnExactSoftScanRow.holds Try.pinned (OpenSpec.ofChange fnExactSoftScanSpec)

/-- ITS FALSE NEIGHBOUR: 'it returns false'. Refute it at one input. -/
def fnExactSoftScanWrong : ChangeSpec := { name := "fnExactSoftScan", fn := fun _ => fun
  | [d1, d2] => { results := [.lit (.bool false)], args := [d1, d2] }
  | _ => none }
def FnExactSoftScanWrongFalsely : Prop := fnExactSoftScanRow.holds Try.pinned (OpenSpec.ofChange fnExactSoftScanWrong)

/-- 'laws.FnExactCountTotals': WHATEVER THE INPUT: true; the input reads as it did. -/
def fnExactCountTotalsSpec : ChangeSpec := { name := "fnExactCountTotals", fn := fun _ => fun
  | [d] => { results := [.lit (.bool true)], args := [d] }
  | _ => none }
def fnExactCountTotalsRow : OpenClaim := { program := "ytogmcinaoemnpaa", sum := "8417624ea9cbf73653fbe057f09564fb45088b808f177d76363fa1ee931d6404", func := "loop.example/g01403/laws.FnExactCountTotals", spec := "fnExactCountTotals", unfollowed := true, recurses := true, apart := false }
def FnExactCountTotalsSaid : Prop := fnExactCountTotalsRow.holds Try.pinned (OpenSpec.ofChange fnExactCountTotalsSpec)

/-- ITS FALSE NEIGHBOUR: 'it returns false'. Refute it at one input. -/
def fnExactCountTotalsWrong : ChangeSpec := { name := "fnExactCountTotals", fn := fun _ => fun
  | [d] => { results := [.lit (.bool false)], args := [d] }
  | _ => none }
def FnExactCountTotalsWrongFalsely : Prop := fnExactCountTotalsRow.holds Try.pinned (OpenSpec.ofChange fnExactCountTotalsWrong)

/-- 'laws.FnTotals': WHATEVER THE INPUT: true; the input reads as it did. -/
def fnTotalsSpec : ChangeSpec := { name := "fnTotals", fn := fun _ => fun
  | [d1, d2] => { results := [.lit (.bool true)], args := [d1, d2] }
  | _ => none }
def fnTotalsRow : OpenClaim := { program := "ytogmcinaoemnpaa", sum := "8417624ea9cbf73653fbe057f09564fb45088b808f177d76363fa1ee931d6404", func := "loop.example/g01403/laws.FnTotals", spec := "fnTotals", unfollowed := true, recurses := true, apart := false }
def FnTotalsSaid : Prop := fnTotalsRow.holds Try.pinned (OpenSpec.ofChange fnTotalsSpec)

/-- ITS FALSE NEIGHBOUR: 'it returns false'. Refute it at one input. -/
def fnTotalsWrong : ChangeSpec := { name := "fnTotals", fn := fun _ => fun
  | [d1, d2] => { results := [.lit (.bool false)], args := [d1, d2] }
  | _ => none }
def FnTotalsWrongFalsely : Prop := fnTotalsRow.holds Try.pinned (OpenSpec.ofChange fnTotalsWrong)

/-- 'laws.FnExactFitHeights': WHATEVER THE INPUT: true; the input reads as it did. -/
def fnExactFitHeightsSpec : ChangeSpec := { name := "fnExactFitHeights", fn := fun _ => fun
  | [d1, d2, d3, d4] => { results := [.lit (.bool true)], args := [d1, d2, d3, d4] }
  | _ => none }
def fnExactFitHeightsRow : OpenClaim := { program := "ytogmcinaoemnpaa", sum := "8417624ea9cbf73653fbe057f09564fb45088b808f177d76363fa1ee931d6404", func := "loop.example/g01403/laws.FnExactFitHeights", spec := "fnExactFitHeights", inPlace := ["math.Float64frombits", "math.Float64bits"], unfollowed := true, recurses := true, apart := false }
def FnExactFitHeightsSaid : Prop := fnExactFitHeightsRow.holds Try.pinned (OpenSpec.ofChange fnExactFitHeightsSpec)

/-- ITS FALSE NEIGHBOUR: 'it returns false'. Refute it at one input. -/
def fnExactFitHeightsWrong : ChangeSpec := { name := "fnExactFitHeights", fn := fun _ => fun
  | [d1, d2, d3, d4] => { results := [.lit (.bool false)], args := [d1, d2, d3, d4] }
  | _ => none }
def FnExactFitHeightsWrongFalsely : Prop := fnExactFitHeightsRow.holds Try.pinned (OpenSpec.ofChange fnExactFitHeightsWrong)

/- THE SECOND FORM. 'bulk': how many values and letters a reading holds, each counted each time it is reached (what is shared counts as often as it is met; a slice's spare places count too). A statement '..UptoSaid' is the law's where the arguments, and the package variables that the reading takes, are together of bulk at most 1048576: NARROWER than '..Said'. Prove '..Said' where nothing that the law and all that it calls make is longer than what came in: it says more and counts as full. Else prove '..UptoSaid'. A law counts once. -/
mutual
def uptoBulk {H : Type} : DataW H → Nat
  | .lit (.string bytes) => bytes.length + 1
  | .lit _ => 1
  | .nil => 1
  | .ptr d => uptoBulk d + 1
  | .slice elems spare => uptoBulkAll elems + uptoBulkAll spare + 1
  | .agg parts => uptoBulkAll parts + 1
  | .iface _ d => uptoBulk d + 1
  | .map entries => uptoBulkEntries entries + 1
  | .held _ => 1
def uptoBulkAll {H : Type} : List (DataW H) → Nat
  | [] => 0
  | d :: r => uptoBulk d + uptoBulkAll r
def uptoBulkEntries {H : Type} : List (Lit × DataW H) → Nat
  | [] => 0
  | x :: r => uptoBulkEntry x + uptoBulkEntries r
def uptoBulkEntry {H : Type} : Lit × DataW H → Nat
  | (.string bytes, d) => bytes.length + uptoBulk d + 1
  | (_, d) => uptoBulk d + 1
 end
def uptoSmall : (H : Type) → List (DataW H) → Bool := fun _ ds => decide (uptoBulkAll ds ≤ 1048576)
def OpenSpec.upto (s : _root_.Go.ChangeSpec) : _root_.Go.OpenSpec := { _root_.Go.OpenSpec.ofChange s with cond := some uptoSmall }

/-- 'laws.FnExactLevelBalance', WHERE WHAT IT READS IS OF BULK AT MOST 1048576: true; the input reads as it did. -/
def fnExactLevelBalanceUptoRow : OpenClaim := { program := "ytogmcinaoemnpaa", sum := "8417624ea9cbf73653fbe057f09564fb45088b808f177d76363fa1ee931d6404", func := "loop.example/g01403/laws.FnExactLevelBalance", spec := "fnExactLevelBalance", inPlace := ["math.Float64bits", "math.Float64frombits"], unfollowed := true, recurses := true, apart := false, narrowed := true }
def FnExactLevelBalanceUptoSaid : Prop := fnExactLevelBalanceUptoRow.holds Try.pinned (OpenSpec.upto fnExactLevelBalanceSpec)

/-- 'laws.FnExactLampCurve', WHERE WHAT IT READS IS OF BULK AT MOST 1048576: true; the input reads as it did. -/
def fnExactLampCurveUptoRow : OpenClaim := { program := "ytogmcinaoemnpaa", sum := "8417624ea9cbf73653fbe057f09564fb45088b808f177d76363fa1ee931d6404", func := "loop.example/g01403/laws.FnExactLampCurve", spec := "fnExactLampCurve", inPlace := ["math.Float64bits", "math.Float64frombits"], unfollowed := true, recurses := true, apart := false, narrowed := true }
def FnExactLampCurveUptoSaid : Prop := fnExactLampCurveUptoRow.holds Try.pinned (OpenSpec.upto fnExactLampCurveSpec)

/-- 'laws.FnExactJoinSteps', WHERE WHAT IT READS IS OF BULK AT MOST 1048576: true; the input reads as it did. -/
def fnExactJoinStepsUptoRow : OpenClaim := { program := "ytogmcinaoemnpaa", sum := "8417624ea9cbf73653fbe057f09564fb45088b808f177d76363fa1ee931d6404", func := "loop.example/g01403/laws.FnExactJoinSteps", spec := "fnExactJoinSteps", inPlace := ["math.Float32bits", "math.Float64bits", "math.Float64frombits"], unfollowed := true, recurses := true, apart := false, narrowed := true }
def FnExactJoinStepsUptoSaid : Prop := fnExactJoinStepsUptoRow.holds Try.pinned (OpenSpec.upto fnExactJoinStepsSpec)

/-- 'laws.FnExactSoftScan', WHERE WHAT IT READS IS OF BULK AT MOST 1048576: true; the input reads as it did. -/
def fnExactSoftScanUptoRow : OpenClaim := { program := "ytogmcinaoemnpaa", sum := "8417624ea9cbf73653fbe057f09564fb45088b808f177d76363fa1ee931d6404", func := "loop.example/g01403/laws.FnExactSoftScan", spec := "fnExactSoftScan", inPlace := ["math.Float32frombits", "math.Float64frombits", "math.Float64bits"], unfollowed := true, recurses := true, apart := false, narrowed := true }
def FnExactSoftScanUptoSaid : Prop := fnExactSoftScanUptoRow.holds Try.pinned (OpenSpec.upto fnExactSoftScanSpec)

/-- 'laws.FnExactCountTotals', WHERE WHAT IT READS IS OF BULK AT MOST 1048576: true; the input reads as it did. -/
def fnExactCountTotalsUptoRow : OpenClaim := { program := "ytogmcinaoemnpaa", sum := "8417624ea9cbf73653fbe057f09564fb45088b808f177d76363fa1ee931d6404", func := "loop.example/g01403/laws.FnExactCountTotals", spec := "fnExactCountTotals", unfollowed := true, recurses := true, apart := false, narrowed := true }
def FnExactCountTotalsUptoSaid : Prop := fnExactCountTotalsUptoRow.holds Try.pinned (OpenSpec.upto fnExactCountTotalsSpec)

/-- 'laws.FnTotals', WHERE WHAT IT READS IS OF BULK AT MOST 1048576: true; the input reads as it did. -/
def fnTotalsUptoRow : OpenClaim := { program := "ytogmcinaoemnpaa", sum := "8417624ea9cbf73653fbe057f09564fb45088b808f177d76363fa1ee931d6404", func := "loop.example/g01403/laws.FnTotals", spec := "fnTotals", unfollowed := true, recurses := true, apart := false, narrowed := true }
def FnTotalsUptoSaid : Prop := fnTotalsUptoRow.holds Try.pinned (OpenSpec.upto fnTotalsSpec)

/-- 'laws.FnExactFitHeights', WHERE WHAT IT READS IS OF BULK AT MOST 1048576: true; the input reads as it did. -/
def fnExactFitHeightsUptoRow : OpenClaim := { program := "ytogmcinaoemnpaa", sum := "8417624ea9cbf73653fbe057f09564fb45088b808f177d76363fa1ee931d6404", func := "loop.example/g01403/laws.FnExactFitHeights", spec := "fnExactFitHeights", inPlace := ["math.Float64frombits", "math.Float64bits"], unfollowed := true, recurses := true, apart := false, narrowed := true }
def FnExactFitHeightsUptoSaid : Prop := fnExactFitHeightsUptoRow.holds Try.pinned (OpenSpec.upto fnExactFitHeightsSpec)

end Rows
end Go.Proofs.Ytogmcinaoemnpaa
