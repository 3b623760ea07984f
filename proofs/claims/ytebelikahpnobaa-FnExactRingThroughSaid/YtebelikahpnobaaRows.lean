/-
  No cell of these rows narrows 'for every input' (looked for: loops, veiled, ifaces, maps, wideKeys, modest, calm, conditions, laid).
  DERIVED. THE GIVEN ROWS OF THIS SEAT. 12 by the template 'for every input the law returns true; each argument reads behind the call as it read before'; 0 by the template 'total and deterministic' (their statements: YtebelikahpnobaaTotals.lean).
  GIVEN WITH THE SEED: the statements are not yours to turn. If you find one false, say at which input.
  Laid BY PROGRAM, IN A SANDBOX (cutbox-rows.mjs): the forced cells as the released guide's own fill.sh prints them over the translation 7c0f31c915a23ae5… (all of the seat's roots in one cut). By AI agents, Wed Nov 11 2026. No macro, syntax, notation, axiom, sorry.
-/
import Derived.Test.YtebelikahpnobaaChecked
import GoSem.Claim
import GoSem.ClaimJoined
import GoSem.ClaimMapViews
import Derived.JoinedTies
import Derived.KernelRfl
namespace Go.Proofs.Ytebelikahpnobaa
/- THE CELL 'sum', in the pinned program and in every row, IS THE sha256 OF THE DUMP (.gsa) THAT YtebelikahpnobaaProg.lean LOADS. Nothing in Lean hashes anything: it is a label: what it is worth is what the hold of that sum in a sandbox is worth. -/
noncomputable def Try.pinned : Pinned := { name := "ytebelikahpnobaa", sum := "7c0f31c915a23ae5fcdf93de6126201b3bb3b55670a689dd2e7d62da7c35aa61", checked := Try.checked }
namespace Rows
def none {H : Type} : Left H := { results := [], args := [] }

/-- 'laws.FnExactValidPulse': WHATEVER THE INPUT: true; the input reads as it did. -/
def fnExactValidPulseSpec : ChangeSpec := { name := "fnExactValidPulse", fn := fun _ => fun
  | [d] => { results := [.lit (.bool true)], args := [d] }
  | _ => none }
def fnExactValidPulseRow : OpenClaim := { program := "ytebelikahpnobaa", sum := "7c0f31c915a23ae5fcdf93de6126201b3bb3b55670a689dd2e7d62da7c35aa61", func := "loop.example/g01403/laws.FnExactValidPulse", spec := "fnExactValidPulse", inPlace := ["math.Float64bits", "math.Float64frombits"], unfollowed := true, recurses := true, apart := false }
def FnExactValidPulseSaid : Prop := fnExactValidPulseRow.holds Try.pinned (OpenSpec.ofChange fnExactValidPulseSpec)

/-- ITS FALSE NEIGHBOUR: 'it returns false'. Refute it at one input. -/
def fnExactValidPulseWrong : ChangeSpec := { name := "fnExactValidPulse", fn := fun _ => fun
  | [d] => { results := [.lit (.bool false)], args := [d] }
  | _ => none }
def FnExactValidPulseWrongFalsely : Prop := fnExactValidPulseRow.holds Try.pinned (OpenSpec.ofChange fnExactValidPulseWrong)

/-- 'laws.FnExactSamePulse': WHATEVER THE INPUT: true; the input reads as it did. -/
def fnExactSamePulseSpec : ChangeSpec := { name := "fnExactSamePulse", fn := fun _ => fun
  | [d1, d2] => { results := [.lit (.bool true)], args := [d1, d2] }
  | _ => none }
def fnExactSamePulseRow : OpenClaim := { program := "ytebelikahpnobaa", sum := "7c0f31c915a23ae5fcdf93de6126201b3bb3b55670a689dd2e7d62da7c35aa61", func := "loop.example/g01403/laws.FnExactSamePulse", spec := "fnExactSamePulse", inPlace := ["math.Float32bits"], apart := false }
def FnExactSamePulseSaid : Prop := fnExactSamePulseRow.holds Try.pinned (OpenSpec.ofChange fnExactSamePulseSpec)

/-- ITS FALSE NEIGHBOUR: 'it returns false'. Refute it at one input. -/
def fnExactSamePulseWrong : ChangeSpec := { name := "fnExactSamePulse", fn := fun _ => fun
  | [d1, d2] => { results := [.lit (.bool false)], args := [d1, d2] }
  | _ => none }
def FnExactSamePulseWrongFalsely : Prop := fnExactSamePulseRow.holds Try.pinned (OpenSpec.ofChange fnExactSamePulseWrong)

/-- 'laws.FnExactPumpLevel': WHATEVER THE INPUT: true; the input reads as it did. -/
def fnExactPumpLevelSpec : ChangeSpec := { name := "fnExactPumpLevel", fn := fun _ => fun
  | [d1, d2] => { results := [.lit (.bool true)], args := [d1, d2] }
  | _ => none }
def fnExactPumpLevelRow : OpenClaim := { program := "ytebelikahpnobaa", sum := "7c0f31c915a23ae5fcdf93de6126201b3bb3b55670a689dd2e7d62da7c35aa61", func := "loop.example/g01403/laws.FnExactPumpLevel", spec := "fnExactPumpLevel", inPlace := ["math.Float64bits", "math.Float64frombits"], apart := false }
def FnExactPumpLevelSaid : Prop := fnExactPumpLevelRow.holds Try.pinned (OpenSpec.ofChange fnExactPumpLevelSpec)

/-- ITS FALSE NEIGHBOUR: 'it returns false'. Refute it at one input. -/
def fnExactPumpLevelWrong : ChangeSpec := { name := "fnExactPumpLevel", fn := fun _ => fun
  | [d1, d2] => { results := [.lit (.bool false)], args := [d1, d2] }
  | _ => none }
def FnExactPumpLevelWrongFalsely : Prop := fnExactPumpLevelRow.holds Try.pinned (OpenSpec.ofChange fnExactPumpLevelWrong)

/-- 'laws.FnExactLightOf': WHATEVER THE INPUT: true; the input reads as it did. -/
def fnExactLightOfSpec : ChangeSpec := { name := "fnExactLightOf", fn := fun _ => fun
  | [d1, d2, d3, d4] => { results := [.lit (.bool true)], args := [d1, d2, d3, d4] }
  | _ => none }
def fnExactLightOfRow : OpenClaim := { program := "ytebelikahpnobaa", sum := "7c0f31c915a23ae5fcdf93de6126201b3bb3b55670a689dd2e7d62da7c35aa61", func := "loop.example/g01403/laws.FnExactLightOf", spec := "fnExactLightOf", inPlace := ["math.sqrt", "math.Float64bits", "math.Float64frombits"], unfollowed := true, recurses := true, apart := false }
def FnExactLightOfSaid : Prop := fnExactLightOfRow.holds Try.pinned (OpenSpec.ofChange fnExactLightOfSpec)

/-- ITS FALSE NEIGHBOUR: 'it returns false'. Refute it at one input. -/
def fnExactLightOfWrong : ChangeSpec := { name := "fnExactLightOf", fn := fun _ => fun
  | [d1, d2, d3, d4] => { results := [.lit (.bool false)], args := [d1, d2, d3, d4] }
  | _ => none }
def FnExactLightOfWrongFalsely : Prop := fnExactLightOfRow.holds Try.pinned (OpenSpec.ofChange fnExactLightOfWrong)

/-- 'laws.FnExactCombPlaces': WHATEVER THE INPUT: true; the input reads as it did. -/
def fnExactCombPlacesSpec : ChangeSpec := { name := "fnExactCombPlaces", fn := fun _ => fun
  | [d1, d2, d3] => { results := [.lit (.bool true)], args := [d1, d2, d3] }
  | _ => none }
def fnExactCombPlacesRow : OpenClaim := { program := "ytebelikahpnobaa", sum := "7c0f31c915a23ae5fcdf93de6126201b3bb3b55670a689dd2e7d62da7c35aa61", func := "loop.example/g01403/laws.FnExactCombPlaces", spec := "fnExactCombPlaces", inPlace := ["math.Float64bits", "math.Float64frombits"], unfollowed := true, recurses := true, apart := false }
def FnExactCombPlacesSaid : Prop := fnExactCombPlacesRow.holds Try.pinned (OpenSpec.ofChange fnExactCombPlacesSpec)

/-- ITS FALSE NEIGHBOUR: 'it returns false'. Refute it at one input. -/
def fnExactCombPlacesWrong : ChangeSpec := { name := "fnExactCombPlaces", fn := fun _ => fun
  | [d1, d2, d3] => { results := [.lit (.bool false)], args := [d1, d2, d3] }
  | _ => none }
def FnExactCombPlacesWrongFalsely : Prop := fnExactCombPlacesRow.holds Try.pinned (OpenSpec.ofChange fnExactCombPlacesWrong)

/-- 'laws.FnExactCombNearest': WHATEVER THE INPUT: true; the input reads as it did. -/
def fnExactCombNearestSpec : ChangeSpec := { name := "fnExactCombNearest", fn := fun _ => fun
  | [d1, d2, d3] => { results := [.lit (.bool true)], args := [d1, d2, d3] }
  | _ => none }
def fnExactCombNearestRow : OpenClaim := { program := "ytebelikahpnobaa", sum := "7c0f31c915a23ae5fcdf93de6126201b3bb3b55670a689dd2e7d62da7c35aa61", func := "loop.example/g01403/laws.FnExactCombNearest", spec := "fnExactCombNearest", inPlace := ["math.Float64bits", "math.Float64frombits", "math.archFloor", "math.archTrunc"], unfollowed := true, recurses := true, apart := false }
def FnExactCombNearestSaid : Prop := fnExactCombNearestRow.holds Try.pinned (OpenSpec.ofChange fnExactCombNearestSpec)

/-- ITS FALSE NEIGHBOUR: 'it returns false'. Refute it at one input. -/
def fnExactCombNearestWrong : ChangeSpec := { name := "fnExactCombNearest", fn := fun _ => fun
  | [d1, d2, d3] => { results := [.lit (.bool false)], args := [d1, d2, d3] }
  | _ => none }
def FnExactCombNearestWrongFalsely : Prop := fnExactCombNearestRow.holds Try.pinned (OpenSpec.ofChange fnExactCombNearestWrong)

/-- 'laws.FnExactHeldShare': WHATEVER THE INPUT: true; the input reads as it did. -/
def fnExactHeldShareSpec : ChangeSpec := { name := "fnExactHeldShare", fn := fun _ => fun
  | [d1, d2, d3, d4] => { results := [.lit (.bool true)], args := [d1, d2, d3, d4] }
  | _ => none }
def fnExactHeldShareRow : OpenClaim := { program := "ytebelikahpnobaa", sum := "7c0f31c915a23ae5fcdf93de6126201b3bb3b55670a689dd2e7d62da7c35aa61", func := "loop.example/g01403/laws.FnExactHeldShare", spec := "fnExactHeldShare", inPlace := ["math.Float64bits", "math.Float64frombits"], unfollowed := true, recurses := true, apart := false }
def FnExactHeldShareSaid : Prop := fnExactHeldShareRow.holds Try.pinned (OpenSpec.ofChange fnExactHeldShareSpec)

/-- ITS FALSE NEIGHBOUR: 'it returns false'. Refute it at one input. -/
def fnExactHeldShareWrong : ChangeSpec := { name := "fnExactHeldShare", fn := fun _ => fun
  | [d1, d2, d3, d4] => { results := [.lit (.bool false)], args := [d1, d2, d3, d4] }
  | _ => none }
def FnExactHeldShareWrongFalsely : Prop := fnExactHeldShareRow.holds Try.pinned (OpenSpec.ofChange fnExactHeldShareWrong)

/-- 'laws.FnExactSwingShare': WHATEVER THE INPUT: true; the input reads as it did. -/
def fnExactSwingShareSpec : ChangeSpec := { name := "fnExactSwingShare", fn := fun _ => fun
  | [d1, d2, d3] => { results := [.lit (.bool true)], args := [d1, d2, d3] }
  | _ => none }
def fnExactSwingShareRow : OpenClaim := { program := "ytebelikahpnobaa", sum := "7c0f31c915a23ae5fcdf93de6126201b3bb3b55670a689dd2e7d62da7c35aa61", func := "loop.example/g01403/laws.FnExactSwingShare", spec := "fnExactSwingShare", inPlace := ["math.sqrt", "math.Float32frombits", "math.Float64frombits", "math.Float64bits"], unfollowed := true, recurses := true, apart := false }
def FnExactSwingShareSaid : Prop := fnExactSwingShareRow.holds Try.pinned (OpenSpec.ofChange fnExactSwingShareSpec)

/-- ITS FALSE NEIGHBOUR: 'it returns false'. Refute it at one input. -/
def fnExactSwingShareWrong : ChangeSpec := { name := "fnExactSwingShare", fn := fun _ => fun
  | [d1, d2, d3] => { results := [.lit (.bool false)], args := [d1, d2, d3] }
  | _ => none }
def FnExactSwingShareWrongFalsely : Prop := fnExactSwingShareRow.holds Try.pinned (OpenSpec.ofChange fnExactSwingShareWrong)

/-- 'laws.FnExactCrossShare': WHATEVER THE INPUT: true; the input reads as it did. -/
def fnExactCrossShareSpec : ChangeSpec := { name := "fnExactCrossShare", fn := fun _ => fun
  | [d1, d2] => { results := [.lit (.bool true)], args := [d1, d2] }
  | _ => none }
def fnExactCrossShareRow : OpenClaim := { program := "ytebelikahpnobaa", sum := "7c0f31c915a23ae5fcdf93de6126201b3bb3b55670a689dd2e7d62da7c35aa61", func := "loop.example/g01403/laws.FnExactCrossShare", spec := "fnExactCrossShare", inPlace := ["math.Float64frombits", "math.Float64bits"], unfollowed := true, recurses := true, apart := false }
def FnExactCrossShareSaid : Prop := fnExactCrossShareRow.holds Try.pinned (OpenSpec.ofChange fnExactCrossShareSpec)

/-- ITS FALSE NEIGHBOUR: 'it returns false'. Refute it at one input. -/
def fnExactCrossShareWrong : ChangeSpec := { name := "fnExactCrossShare", fn := fun _ => fun
  | [d1, d2] => { results := [.lit (.bool false)], args := [d1, d2] }
  | _ => none }
def FnExactCrossShareWrongFalsely : Prop := fnExactCrossShareRow.holds Try.pinned (OpenSpec.ofChange fnExactCrossShareWrong)

/-- 'laws.FnExactLightSteps': WHATEVER THE INPUT: true; the input reads as it did. -/
def fnExactLightStepsSpec : ChangeSpec := { name := "fnExactLightSteps", fn := fun _ => fun
  | [d1, d2, d3, d4, d5, d6, d7, d8] => { results := [.lit (.bool true)], args := [d1, d2, d3, d4, d5, d6, d7, d8] }
  | _ => none }
def fnExactLightStepsRow : OpenClaim := { program := "ytebelikahpnobaa", sum := "7c0f31c915a23ae5fcdf93de6126201b3bb3b55670a689dd2e7d62da7c35aa61", func := "loop.example/g01403/laws.FnExactLightSteps", spec := "fnExactLightSteps", inPlace := ["math.Float64bits", "math.Float64frombits"], unfollowed := true, recurses := true, apart := false }
def FnExactLightStepsSaid : Prop := fnExactLightStepsRow.holds Try.pinned (OpenSpec.ofChange fnExactLightStepsSpec)

/-- ITS FALSE NEIGHBOUR: 'it returns false'. Refute it at one input. -/
def fnExactLightStepsWrong : ChangeSpec := { name := "fnExactLightSteps", fn := fun _ => fun
  | [d1, d2, d3, d4, d5, d6, d7, d8] => { results := [.lit (.bool false)], args := [d1, d2, d3, d4, d5, d6, d7, d8] }
  | _ => none }
def FnExactLightStepsWrongFalsely : Prop := fnExactLightStepsRow.holds Try.pinned (OpenSpec.ofChange fnExactLightStepsWrong)

/-- 'laws.FnExactDampSteps': WHATEVER THE INPUT: true; the input reads as it did. -/
def fnExactDampStepsSpec : ChangeSpec := { name := "fnExactDampSteps", fn := fun _ => fun
  | [d1, d2, d3, d4, d5, d6, d7] => { results := [.lit (.bool true)], args := [d1, d2, d3, d4, d5, d6, d7] }
  | _ => none }
def fnExactDampStepsRow : OpenClaim := { program := "ytebelikahpnobaa", sum := "7c0f31c915a23ae5fcdf93de6126201b3bb3b55670a689dd2e7d62da7c35aa61", func := "loop.example/g01403/laws.FnExactDampSteps", spec := "fnExactDampSteps", inPlace := ["math.Float64bits", "math.Float64frombits"], unfollowed := true, recurses := true, apart := false }
def FnExactDampStepsSaid : Prop := fnExactDampStepsRow.holds Try.pinned (OpenSpec.ofChange fnExactDampStepsSpec)

/-- ITS FALSE NEIGHBOUR: 'it returns false'. Refute it at one input. -/
def fnExactDampStepsWrong : ChangeSpec := { name := "fnExactDampSteps", fn := fun _ => fun
  | [d1, d2, d3, d4, d5, d6, d7] => { results := [.lit (.bool false)], args := [d1, d2, d3, d4, d5, d6, d7] }
  | _ => none }
def FnExactDampStepsWrongFalsely : Prop := fnExactDampStepsRow.holds Try.pinned (OpenSpec.ofChange fnExactDampStepsWrong)

/-- 'laws.FnExactRingThrough': WHATEVER THE INPUT: true; the input reads as it did. -/
def fnExactRingThroughSpec : ChangeSpec := { name := "fnExactRingThrough", fn := fun _ => fun
  | [d1, d2] => { results := [.lit (.bool true)], args := [d1, d2] }
  | _ => none }
def fnExactRingThroughRow : OpenClaim := { program := "ytebelikahpnobaa", sum := "7c0f31c915a23ae5fcdf93de6126201b3bb3b55670a689dd2e7d62da7c35aa61", func := "loop.example/g01403/laws.FnExactRingThrough", spec := "fnExactRingThrough", inPlace := ["math.Float32frombits", "math.Float64frombits", "math.Float64bits"], unfollowed := true, recurses := true, apart := false }
def FnExactRingThroughSaid : Prop := fnExactRingThroughRow.holds Try.pinned (OpenSpec.ofChange fnExactRingThroughSpec)

/-- ITS FALSE NEIGHBOUR: 'it returns false'. Refute it at one input. -/
def fnExactRingThroughWrong : ChangeSpec := { name := "fnExactRingThrough", fn := fun _ => fun
  | [d1, d2] => { results := [.lit (.bool false)], args := [d1, d2] }
  | _ => none }
def FnExactRingThroughWrongFalsely : Prop := fnExactRingThroughRow.holds Try.pinned (OpenSpec.ofChange fnExactRingThroughWrong)

/- THE SECOND FORM. 'bulk': how many values and letters a reading holds, each counted each time it is reached (what is shared counts as often as it is met; a slice's spare places count too). A statement '..UptoSaid' is the law's where the arguments, and the package variables that the reading takes, are together of bulk at most 1048576: NARROWER than '..Said'. Prove '..Said' where nothing that the law and all that it calls make is longer than what came in: it says more and counts as full. Else prove '..UptoSaid'. A law counts once. -/
mutual
def uptoBulk {H : Type} : DataW H → Nat
  | .lit (.string bytes) => bytes.length + 1
  | .lit _ => 1
  | .nil => 1
  | .ptr d => uptoBulk d + 1
  | .slice elems spare => uptoBulkAll elems + uptoBulkAll spare + 1
  | .agg parts => uptoBulkAll parts + 1
  | .iface _ d => uptoBulk d + 1
  | .map entries => uptoBulkEntries entries + 1
  | .held _ => 1
def uptoBulkAll {H : Type} : List (DataW H) → Nat
  | [] => 0
  | d :: r => uptoBulk d + uptoBulkAll r
def uptoBulkEntries {H : Type} : List (Lit × DataW H) → Nat
  | [] => 0
  | x :: r => uptoBulkEntry x + uptoBulkEntries r
def uptoBulkEntry {H : Type} : Lit × DataW H → Nat
  | (.string bytes, d) => bytes.length + uptoBulk d + 1
  | (_, d) => uptoBulk d + 1
 end
def uptoSmall : (H : Type) → List (DataW H) → Bool := fun _ ds => decide (uptoBulkAll ds ≤ 1048576)
def OpenSpec.upto (s : _root_.Go.ChangeSpec) : _root_.Go.OpenSpec := { _root_.Go.OpenSpec.ofChange s with cond := some uptoSmall }

/-- 'laws.FnExactValidPulse', WHERE WHAT IT READS IS OF BULK AT MOST 1048576: true; the input reads as it did. -/
def fnExactValidPulseUptoRow : OpenClaim := { program := "ytebelikahpnobaa", sum := "7c0f31c915a23ae5fcdf93de6126201b3bb3b55670a689dd2e7d62da7c35aa61", func := "loop.example/g01403/laws.FnExactValidPulse", spec := "fnExactValidPulse", inPlace := ["math.Float64bits", "math.Float64frombits"], unfollowed := true, recurses := true, apart := false, narrowed := true }
def FnExactValidPulseUptoSaid : Prop := fnExactValidPulseUptoRow.holds Try.pinned (OpenSpec.upto fnExactValidPulseSpec)

/-- 'laws.FnExactSamePulse', WHERE WHAT IT READS IS OF BULK AT MOST 1048576: true; the input reads as it did. -/
def fnExactSamePulseUptoRow : OpenClaim := { program := "ytebelikahpnobaa", sum := "7c0f31c915a23ae5fcdf93de6126201b3bb3b55670a689dd2e7d62da7c35aa61", func := "loop.example/g01403/laws.FnExactSamePulse", spec := "fnExactSamePulse", inPlace := ["math.Float32bits"], apart := false, narrowed := true }
def FnExactSamePulseUptoSaid : Prop := fnExactSamePulseUptoRow.holds Try.pinned (OpenSpec.upto fnExactSamePulseSpec)

/-- 'laws.FnExactPumpLevel', WHERE WHAT IT READS IS OF BULK AT MOST 1048576: true; the input reads as it did. -/
def fnExactPumpLevelUptoRow : OpenClaim := { program := "ytebelikahpnobaa", sum := "7c0f31c915a23ae5fcdf93de6126201b3bb3b55670a689dd2e7d62da7c35aa61", func := "loop.example/g01403/laws.FnExactPumpLevel", spec := "fnExactPumpLevel", inPlace := ["math.Float64bits", "math.Float64frombits"], apart := false, narrowed := true }
def FnExactPumpLevelUptoSaid : Prop := fnExactPumpLevelUptoRow.holds Try.pinned (OpenSpec.upto fnExactPumpLevelSpec)

/-- 'laws.FnExactLightOf', WHERE WHAT IT READS IS OF BULK AT MOST 1048576: true; the input reads as it did. -/
def fnExactLightOfUptoRow : OpenClaim := { program := "ytebelikahpnobaa", sum := "7c0f31c915a23ae5fcdf93de6126201b3bb3b55670a689dd2e7d62da7c35aa61", func := "loop.example/g01403/laws.FnExactLightOf", spec := "fnExactLightOf", inPlace := ["math.sqrt", "math.Float64bits", "math.Float64frombits"], unfollowed := true, recurses := true, apart := false, narrowed := true }
def FnExactLightOfUptoSaid : Prop := fnExactLightOfUptoRow.holds Try.pinned (OpenSpec.upto fnExactLightOfSpec)

/-- 'laws.FnExactCombPlaces', WHERE WHAT IT READS IS OF BULK AT MOST 1048576: true; the input reads as it did. -/
def fnExactCombPlacesUptoRow : OpenClaim := { program := "ytebelikahpnobaa", sum := "7c0f31c915a23ae5fcdf93de6126201b3bb3b55670a689dd2e7d62da7c35aa61", func := "loop.example/g01403/laws.FnExactCombPlaces", spec := "fnExactCombPlaces", inPlace := ["math.Float64bits", "math.Float64frombits"], unfollowed := true, recurses := true, apart := false, narrowed := true }
def FnExactCombPlacesUptoSaid : Prop := fnExactCombPlacesUptoRow.holds Try.pinned (OpenSpec.upto fnExactCombPlacesSpec)

/-- 'laws.FnExactCombNearest', WHERE WHAT IT READS IS OF BULK AT MOST 1048576: true; the input reads as it did. -/
def fnExactCombNearestUptoRow : OpenClaim := { program := "ytebelikahpnobaa", sum := "7c0f31c915a23ae5fcdf93de6126201b3bb3b55670a689dd2e7d62da7c35aa61", func := "loop.example/g01403/laws.FnExactCombNearest", spec := "fnExactCombNearest", inPlace := ["math.Float64bits", "math.Float64frombits", "math.archFloor", "math.archTrunc"], unfollowed := true, recurses := true, apart := false, narrowed := true }
def FnExactCombNearestUptoSaid : Prop := fnExactCombNearestUptoRow.holds Try.pinned (OpenSpec.upto fnExactCombNearestSpec)

/-- 'laws.FnExactHeldShare', WHERE WHAT IT READS IS OF BULK AT MOST 1048576: true; the input reads as it did. -/
def fnExactHeldShareUptoRow : OpenClaim := { program := "ytebelikahpnobaa", sum := "7c0f31c915a23ae5fcdf93de6126201b3bb3b55670a689dd2e7d62da7c35aa61", func := "loop.example/g01403/laws.FnExactHeldShare", spec := "fnExactHeldShare", inPlace := ["math.Float64bits", "math.Float64frombits"], unfollowed := true, recurses := true, apart := false, narrowed := true }
def FnExactHeldShareUptoSaid : Prop := fnExactHeldShareUptoRow.holds Try.pinned (OpenSpec.upto fnExactHeldShareSpec)

/-- 'laws.FnExactSwingShare', WHERE WHAT IT READS IS OF BULK AT MOST 1048576: true; the input reads as it did. -/
def fnExactSwingShareUptoRow : OpenClaim := { program := "ytebelikahpnobaa", sum := "7c0f31c915a23ae5fcdf93de6126201b3bb3b55670a689dd2e7d62da7c35aa61", func := "loop.example/g01403/laws.FnExactSwingShare", spec := "fnExactSwingShare", inPlace := ["math.sqrt", "math.Float32frombits", "math.Float64frombits", "math.Float64bits"], unfollowed := true, recurses := true, apart := false, narrowed := true }
def FnExactSwingShareUptoSaid : Prop := fnExactSwingShareUptoRow.holds Try.pinned (OpenSpec.upto fnExactSwingShareSpec)

/-- 'laws.FnExactCrossShare', WHERE WHAT IT READS IS OF BULK AT MOST 1048576: true; the input reads as it did. -/
def fnExactCrossShareUptoRow : OpenClaim := { program := "ytebelikahpnobaa", sum := "7c0f31c915a23ae5fcdf93de6126201b3bb3b55670a689dd2e7d62da7c35aa61", func := "loop.example/g01403/laws.FnExactCrossShare", spec := "fnExactCrossShare", inPlace := ["math.Float64frombits", "math.Float64bits"], unfollowed := true, recurses := true, apart := false, narrowed := true }
def FnExactCrossShareUptoSaid : Prop := fnExactCrossShareUptoRow.holds Try.pinned (OpenSpec.upto fnExactCrossShareSpec)

/-- 'laws.FnExactLightSteps', WHERE WHAT IT READS IS OF BULK AT MOST 1048576: true; the input reads as it did. -/
def fnExactLightStepsUptoRow : OpenClaim := { program := "ytebelikahpnobaa", sum := "7c0f31c915a23ae5fcdf93de6126201b3bb3b55670a689dd2e7d62da7c35aa61", func := "loop.example/g01403/laws.FnExactLightSteps", spec := "fnExactLightSteps", inPlace := ["math.Float64bits", "math.Float64frombits"], unfollowed := true, recurses := true, apart := false, narrowed := true }
def FnExactLightStepsUptoSaid : Prop := fnExactLightStepsUptoRow.holds Try.pinned (OpenSpec.upto fnExactLightStepsSpec)

/-- 'laws.FnExactDampSteps', WHERE WHAT IT READS IS OF BULK AT MOST 1048576: true; the input reads as it did. -/
def fnExactDampStepsUptoRow : OpenClaim := { program := "ytebelikahpnobaa", sum := "7c0f31c915a23ae5fcdf93de6126201b3bb3b55670a689dd2e7d62da7c35aa61", func := "loop.example/g01403/laws.FnExactDampSteps", spec := "fnExactDampSteps", inPlace := ["math.Float64bits", "math.Float64frombits"], unfollowed := true, recurses := true, apart := false, narrowed := true }
def FnExactDampStepsUptoSaid : Prop := fnExactDampStepsUptoRow.holds Try.pinned (OpenSpec.upto fnExactDampStepsSpec)

/-- 'laws.FnExactRingThrough', WHERE WHAT IT READS IS OF BULK AT MOST 1048576: true; the input reads as it did. -/
def fnExactRingThroughUptoRow : OpenClaim := { program := "ytebelikahpnobaa", sum := "7c0f31c915a23ae5fcdf93de6126201b3bb3b55670a689dd2e7d62da7c35aa61", func := "loop.example/g01403/laws.FnExactRingThrough", spec := "fnExactRingThrough", inPlace := ["math.Float32frombits", "math.Float64frombits", "math.Float64bits"], unfollowed := true, recurses := true, apart := false, narrowed := true }
def FnExactRingThroughUptoSaid : Prop := fnExactRingThroughUptoRow.holds Try.pinned (OpenSpec.upto fnExactRingThroughSpec)

end Rows
end Go.Proofs.Ytebelikahpnobaa
