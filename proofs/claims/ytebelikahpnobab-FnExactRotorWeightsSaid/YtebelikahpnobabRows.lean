/-
  No cell of these rows narrows 'for every input' (looked for: loops, veiled, ifaces, maps, wideKeys, modest, calm, conditions, laid).
  DERIVED. THE GIVEN ROWS OF THIS SEAT. 8 by the template 'for every input the law returns true; each argument reads behind the call as it read before'; 0 by the template 'total and deterministic' (their statements: YtebelikahpnobabTotals.lean).
  GIVEN WITH THE SEED: the statements are not yours to turn. If you find one false, say at which input.
  Laid BY PROGRAM, IN A SANDBOX (cutbox-rows.mjs): the forced cells as the released guide's own fill.sh prints them over the translation 4107468807705607… (all of the seat's roots in one cut). By AI agents, Wed Nov 11 2026. No macro, syntax, notation, axiom, sorry.
-/
import Derived.Test.YtebelikahpnobabChecked
import GoSem.Claim
import GoSem.ClaimJoined
import GoSem.ClaimMapViews
import Derived.JoinedTies
import Derived.KernelRfl
namespace Go.Proofs.Ytebelikahpnobab
/- THE CELL 'sum', in the pinned program and in every row, IS THE sha256 OF THE DUMP (.gsa) THAT YtebelikahpnobabProg.lean LOADS. Nothing in Lean hashes anything: it is a label: what it is worth is what the hold of that sum in a sandbox is worth. -/
noncomputable def Try.pinned : Pinned := { name := "ytebelikahpnobab", sum := "41074688077056079b763750d5b6ffdece99e09178876a8483ed0c8a9f3e5723", checked := Try.checked }
namespace Rows
def none {H : Type} : Left H := { results := [], args := [] }

/-- 'laws.FnExactLevelSteps': WHATEVER THE INPUT: true; the input reads as it did. -/
def fnExactLevelStepsSpec : ChangeSpec := { name := "fnExactLevelSteps", fn := fun _ => fun
  | [d1, d2, d3, d4, d5] => { results := [.lit (.bool true)], args := [d1, d2, d3, d4, d5] }
  | _ => none }
def fnExactLevelStepsRow : OpenClaim := { program := "ytebelikahpnobab", sum := "41074688077056079b763750d5b6ffdece99e09178876a8483ed0c8a9f3e5723", func := "loop.example/g01403/laws.FnExactLevelSteps", spec := "fnExactLevelSteps", inPlace := ["math.Float64bits", "math.Float64frombits"], unfollowed := true, recurses := true, leaving := true, apart := false }
def FnExactLevelStepsSaid : Prop := fnExactLevelStepsRow.holds Try.pinned (OpenSpec.ofChange fnExactLevelStepsSpec)

/-- ITS FALSE NEIGHBOUR: 'it returns false'. Refute it at one input. -/
def fnExactLevelStepsWrong : ChangeSpec := { name := "fnExactLevelSteps", fn := fun _ => fun
  | [d1, d2, d3, d4, d5] => { results := [.lit (.bool false)], args := [d1, d2, d3, d4, d5] }
  | _ => none }
def FnExactLevelStepsWrongFalsely : Prop := fnExactLevelStepsRow.holds Try.pinned (OpenSpec.ofChange fnExactLevelStepsWrong)

/-- 'laws.FnExactLevelBalance': WHATEVER THE INPUT: true; the input reads as it did. -/
def fnExactLevelBalanceSpec : ChangeSpec := { name := "fnExactLevelBalance", fn := fun _ => fun
  | [d1, d2] => { results := [.lit (.bool true)], args := [d1, d2] }
  | _ => none }
def fnExactLevelBalanceRow : OpenClaim := { program := "ytebelikahpnobab", sum := "41074688077056079b763750d5b6ffdece99e09178876a8483ed0c8a9f3e5723", func := "loop.example/g01403/laws.FnExactLevelBalance", spec := "fnExactLevelBalance", inPlace := ["math.Float64bits", "math.Float64frombits"], unfollowed := true, recurses := true, leaving := true, apart := false }
def FnExactLevelBalanceSaid : Prop := fnExactLevelBalanceRow.holds Try.pinned (OpenSpec.ofChange fnExactLevelBalanceSpec)

/-- ITS FALSE NEIGHBOUR: 'it returns false'. Refute it at one input. -/
def fnExactLevelBalanceWrong : ChangeSpec := { name := "fnExactLevelBalance", fn := fun _ => fun
  | [d1, d2] => { results := [.lit (.bool false)], args := [d1, d2] }
  | _ => none }
def FnExactLevelBalanceWrongFalsely : Prop := fnExactLevelBalanceRow.holds Try.pinned (OpenSpec.ofChange fnExactLevelBalanceWrong)

/-- 'laws.FnExactPulseTurns': WHATEVER THE INPUT: true; the input reads as it did. -/
def fnExactPulseTurnsSpec : ChangeSpec := { name := "fnExactPulseTurns", fn := fun _ => fun
  | [d] => { results := [.lit (.bool true)], args := [d] }
  | _ => none }
def fnExactPulseTurnsRow : OpenClaim := { program := "ytebelikahpnobab", sum := "41074688077056079b763750d5b6ffdece99e09178876a8483ed0c8a9f3e5723", func := "loop.example/g01403/laws.FnExactPulseTurns", spec := "fnExactPulseTurns", inPlace := ["math.sqrt", "math.Float32frombits", "math.Float64frombits", "math.Float64bits"], unfollowed := true, recurses := true, leaving := true, apart := false }
def FnExactPulseTurnsSaid : Prop := fnExactPulseTurnsRow.holds Try.pinned (OpenSpec.ofChange fnExactPulseTurnsSpec)

/-- ITS FALSE NEIGHBOUR: 'it returns false'. Refute it at one input. -/
def fnExactPulseTurnsWrong : ChangeSpec := { name := "fnExactPulseTurns", fn := fun _ => fun
  | [d] => { results := [.lit (.bool false)], args := [d] }
  | _ => none }
def FnExactPulseTurnsWrongFalsely : Prop := fnExactPulseTurnsRow.holds Try.pinned (OpenSpec.ofChange fnExactPulseTurnsWrong)

/-- 'laws.FnExactRotorWeights': WHATEVER THE INPUT: true; the input reads as it did. -/
def fnExactRotorWeightsSpec : ChangeSpec := { name := "fnExactRotorWeights", fn := fun _ => fun
  | [d1, d2, d3] => { results := [.lit (.bool true)], args := [d1, d2, d3] }
  | _ => none }
def fnExactRotorWeightsRow : OpenClaim := { program := "ytebelikahpnobab", sum := "41074688077056079b763750d5b6ffdece99e09178876a8483ed0c8a9f3e5723", func := "loop.example/g01403/laws.FnExactRotorWeights", spec := "fnExactRotorWeights", inPlace := ["math.Float64frombits", "math.Float64bits"], unfollowed := true, recurses := true, leaving := true, apart := false }
def FnExactRotorWeightsSaid : Prop := fnExactRotorWeightsRow.holds Try.pinned (OpenSpec.ofChange fnExactRotorWeightsSpec)

/-- ITS FALSE NEIGHBOUR: 'it returns false'. Refute it at one input. -/
def fnExactRotorWeightsWrong : ChangeSpec := { name := "fnExactRotorWeights", fn := fun _ => fun
  | [d1, d2, d3] => { results := [.lit (.bool false)], args := [d1, d2, d3] }
  | _ => none }
def FnExactRotorWeightsWrongFalsely : Prop := fnExactRotorWeightsRow.holds Try.pinned (OpenSpec.ofChange fnExactRotorWeightsWrong)

/-- 'laws.FnExactCountTotals': WHATEVER THE INPUT: true; the input reads as it did. -/
def fnExactCountTotalsSpec : ChangeSpec := { name := "fnExactCountTotals", fn := fun _ => fun
  | [d] => { results := [.lit (.bool true)], args := [d] }
  | _ => none }
def fnExactCountTotalsRow : OpenClaim := { program := "ytebelikahpnobab", sum := "41074688077056079b763750d5b6ffdece99e09178876a8483ed0c8a9f3e5723", func := "loop.example/g01403/laws.FnExactCountTotals", spec := "fnExactCountTotals", unfollowed := true, recurses := true, leaving := true, apart := false }
def FnExactCountTotalsSaid : Prop := fnExactCountTotalsRow.holds Try.pinned (OpenSpec.ofChange fnExactCountTotalsSpec)

/-- ITS FALSE NEIGHBOUR: 'it returns false'. Refute it at one input. -/
def fnExactCountTotalsWrong : ChangeSpec := { name := "fnExactCountTotals", fn := fun _ => fun
  | [d] => { results := [.lit (.bool false)], args := [d] }
  | _ => none }
def FnExactCountTotalsWrongFalsely : Prop := fnExactCountTotalsRow.holds Try.pinned (OpenSpec.ofChange fnExactCountTotalsWrong)

/-- 'laws.FnPumped': WHATEVER THE INPUT: true; the input reads as it did. -/
def fnPumpedSpec : ChangeSpec := { name := "fnPumped", fn := fun _ => fun
  | [d1, d2] => { results := [.lit (.bool true)], args := [d1, d2] }
  | _ => none }
def fnPumpedRow : OpenClaim := { program := "ytebelikahpnobab", sum := "41074688077056079b763750d5b6ffdece99e09178876a8483ed0c8a9f3e5723", func := "loop.example/g01403/laws.FnPumped", spec := "fnPumped", inPlace := ["math.Float64bits", "math.Float64frombits", "math.sqrt", "math.archFloor", "math.archTrunc"], unfollowed := true, recurses := true, leaving := true, apart := false }
def FnPumpedSaid : Prop := fnPumpedRow.holds Try.pinned (OpenSpec.ofChange fnPumpedSpec)

/-- ITS FALSE NEIGHBOUR: 'it returns false'. Refute it at one input. -/
def fnPumpedWrong : ChangeSpec := { name := "fnPumped", fn := fun _ => fun
  | [d1, d2] => { results := [.lit (.bool false)], args := [d1, d2] }
  | _ => none }
def FnPumpedWrongFalsely : Prop := fnPumpedRow.holds Try.pinned (OpenSpec.ofChange fnPumpedWrong)

/-- 'laws.FnDamped': WHATEVER THE INPUT: true; the input reads as it did. -/
def fnDampedSpec : ChangeSpec := { name := "fnDamped", fn := fun _ => fun
  | [d1, d2] => { results := [.lit (.bool true)], args := [d1, d2] }
  | _ => none }
def fnDampedRow : OpenClaim := { program := "ytebelikahpnobab", sum := "41074688077056079b763750d5b6ffdece99e09178876a8483ed0c8a9f3e5723", func := "loop.example/g01403/laws.FnDamped", spec := "fnDamped", inPlace := ["math.Float64bits", "math.Float64frombits", "math.sqrt", "(*sync.WaitGroup).Add", "internal/race.ReleaseMerge", "internal/race.Disable", "internal/race.Enable", "internal/synctest.IsInBubble", "internal/synctest.Associate[sync.WaitGroup]", "sync.fatal", "sync/atomic.OrUint64", "sync/atomic.AddUint64", "internal/race.Read", "sync/atomic.LoadUint64", "sync/atomic.StoreUint64", "internal/synctest.Disassociate[sync.WaitGroup]", "sync.runtime_Semrelease", "(*sync.WaitGroup).Done", "(*sync.WaitGroup).Wait", "internal/race.Acquire", "internal/synctest.IsAssociated[sync.WaitGroup]", "sync/atomic.CompareAndSwapUint64", "internal/race.Write", "sync.runtime_SemacquireWaitGroup"], unfollowed := true, recurses := true, leaving := true, apart := false }
def FnDampedSaid : Prop := fnDampedRow.holds Try.pinned (OpenSpec.ofChange fnDampedSpec)

/-- ITS FALSE NEIGHBOUR: 'it returns false'. Refute it at one input. -/
def fnDampedWrong : ChangeSpec := { name := "fnDamped", fn := fun _ => fun
  | [d1, d2] => { results := [.lit (.bool false)], args := [d1, d2] }
  | _ => none }
def FnDampedWrongFalsely : Prop := fnDampedRow.holds Try.pinned (OpenSpec.ofChange fnDampedWrong)

/-- 'laws.FnTotals': WHATEVER THE INPUT: true; the input reads as it did. -/
def fnTotalsSpec : ChangeSpec := { name := "fnTotals", fn := fun _ => fun
  | [d1, d2] => { results := [.lit (.bool true)], args := [d1, d2] }
  | _ => none }
def fnTotalsRow : OpenClaim := { program := "ytebelikahpnobab", sum := "41074688077056079b763750d5b6ffdece99e09178876a8483ed0c8a9f3e5723", func := "loop.example/g01403/laws.FnTotals", spec := "fnTotals", unfollowed := true, recurses := true, leaving := true, apart := false }
def FnTotalsSaid : Prop := fnTotalsRow.holds Try.pinned (OpenSpec.ofChange fnTotalsSpec)

/-- ITS FALSE NEIGHBOUR: 'it returns false'. Refute it at one input. -/
def fnTotalsWrong : ChangeSpec := { name := "fnTotals", fn := fun _ => fun
  | [d1, d2] => { results := [.lit (.bool false)], args := [d1, d2] }
  | _ => none }
def FnTotalsWrongFalsely : Prop := fnTotalsRow.holds Try.pinned (OpenSpec.ofChange fnTotalsWrong)

/- THE SECOND FORM. 'bulk': how many values and letters a reading holds, each counted each time it is reached (what is shared counts as often as it is met; a slice's spare places count too). A statement '..UptoSaid' is the law's where the arguments, and the package variables that the reading takes, are together of bulk at most 1048576: NARROWER than '..Said'. Prove '..Said' where nothing that the law and all that it calls make is longer than what came in: it says more and counts as full. Else prove '..UptoSaid'. A law counts once. -/
mutual
def uptoBulk {H : Type} : DataW H → Nat
  | .lit (.string bytes) => bytes.length + 1
  | .lit _ => 1
  | .nil => 1
  | .ptr d => uptoBulk d + 1
  | .slice elems spare => uptoBulkAll elems + uptoBulkAll spare + 1
  | .agg parts => uptoBulkAll parts + 1
  | .iface _ d => uptoBulk d + 1
  | .map entries => uptoBulkEntries entries + 1
  | .held _ => 1
def uptoBulkAll {H : Type} : List (DataW H) → Nat
  | [] => 0
  | d :: r => uptoBulk d + uptoBulkAll r
def uptoBulkEntries {H : Type} : List (Lit × DataW H) → Nat
  | [] => 0
  | x :: r => uptoBulkEntry x + uptoBulkEntries r
def uptoBulkEntry {H : Type} : Lit × DataW H → Nat
  | (.string bytes, d) => bytes.length + uptoBulk d + 1
  | (_, d) => uptoBulk d + 1
 end
def uptoSmall : (H : Type) → List (DataW H) → Bool := fun _ ds => decide (uptoBulkAll ds ≤ 1048576)
def OpenSpec.upto (s : _root_.Go.ChangeSpec) : _root_.Go.OpenSpec := { _root_.Go.OpenSpec.ofChange s with cond := some uptoSmall }

/-- 'laws.FnExactLevelSteps', WHERE WHAT IT READS IS OF BULK AT MOST 1048576: true; the input reads as it did. -/
def fnExactLevelStepsUptoRow : OpenClaim := { program := "ytebelikahpnobab", sum := "41074688077056079b763750d5b6ffdece99e09178876a8483ed0c8a9f3e5723", func := "loop.example/g01403/laws.FnExactLevelSteps", spec := "fnExactLevelSteps", inPlace := ["math.Float64bits", "math.Float64frombits"], unfollowed := true, recurses := true, leaving := true, apart := false, narrowed := true }
def FnExactLevelStepsUptoSaid : Prop := fnExactLevelStepsUptoRow.holds Try.pinned (OpenSpec.upto fnExactLevelStepsSpec)

/-- 'laws.FnExactLevelBalance', WHERE WHAT IT READS IS OF BULK AT MOST 1048576: true; the input reads as it did. -/
def fnExactLevelBalanceUptoRow : OpenClaim := { program := "ytebelikahpnobab", sum := "41074688077056079b763750d5b6ffdece99e09178876a8483ed0c8a9f3e5723", func := "loop.example/g01403/laws.FnExactLevelBalance", spec := "fnExactLevelBalance", inPlace := ["math.Float64bits", "math.Float64frombits"], unfollowed := true, recurses := true, leaving := true, apart := false, narrowed := true }
def FnExactLevelBalanceUptoSaid : Prop := fnExactLevelBalanceUptoRow.holds Try.pinned (OpenSpec.upto fnExactLevelBalanceSpec)

/-- 'laws.FnExactPulseTurns', WHERE WHAT IT READS IS OF BULK AT MOST 1048576: true; the input reads as it did. -/
def fnExactPulseTurnsUptoRow : OpenClaim := { program := "ytebelikahpnobab", sum := "41074688077056079b763750d5b6ffdece99e09178876a8483ed0c8a9f3e5723", func := "loop.example/g01403/laws.FnExactPulseTurns", spec := "fnExactPulseTurns", inPlace := ["math.sqrt", "math.Float32frombits", "math.Float64frombits", "math.Float64bits"], unfollowed := true, recurses := true, leaving := true, apart := false, narrowed := true }
def FnExactPulseTurnsUptoSaid : Prop := fnExactPulseTurnsUptoRow.holds Try.pinned (OpenSpec.upto fnExactPulseTurnsSpec)

/-- 'laws.FnExactRotorWeights', WHERE WHAT IT READS IS OF BULK AT MOST 1048576: true; the input reads as it did. -/
def fnExactRotorWeightsUptoRow : OpenClaim := { program := "ytebelikahpnobab", sum := "41074688077056079b763750d5b6ffdece99e09178876a8483ed0c8a9f3e5723", func := "loop.example/g01403/laws.FnExactRotorWeights", spec := "fnExactRotorWeights", inPlace := ["math.Float64frombits", "math.Float64bits"], unfollowed := true, recurses := true, leaving := true, apart := false, narrowed := true }
def FnExactRotorWeightsUptoSaid : Prop := fnExactRotorWeightsUptoRow.holds Try.pinned (OpenSpec.upto fnExactRotorWeightsSpec)

/-- 'laws.FnExactCountTotals', WHERE WHAT IT READS IS OF BULK AT MOST 1048576: true; the input reads as it did. -/
def fnExactCountTotalsUptoRow : OpenClaim := { program := "ytebelikahpnobab", sum := "41074688077056079b763750d5b6ffdece99e09178876a8483ed0c8a9f3e5723", func := "loop.example/g01403/laws.FnExactCountTotals", spec := "fnExactCountTotals", unfollowed := true, recurses := true, leaving := true, apart := false, narrowed := true }
def FnExactCountTotalsUptoSaid : Prop := fnExactCountTotalsUptoRow.holds Try.pinned (OpenSpec.upto fnExactCountTotalsSpec)

/-- 'laws.FnPumped', WHERE WHAT IT READS IS OF BULK AT MOST 1048576: true; the input reads as it did. -/
def fnPumpedUptoRow : OpenClaim := { program := "ytebelikahpnobab", sum := "41074688077056079b763750d5b6ffdece99e09178876a8483ed0c8a9f3e5723", func := "loop.example/g01403/laws.FnPumped", spec := "fnPumped", inPlace := ["math.Float64bits", "math.Float64frombits", "math.sqrt", "math.archFloor", "math.archTrunc"], unfollowed := true, recurses := true, leaving := true, apart := false, narrowed := true }
def FnPumpedUptoSaid : Prop := fnPumpedUptoRow.holds Try.pinned (OpenSpec.upto fnPumpedSpec)

/-- 'laws.FnDamped', WHERE WHAT IT READS IS OF BULK AT MOST 1048576: true; the input reads as it did. -/
def fnDampedUptoRow : OpenClaim := { program := "ytebelikahpnobab", sum := "41074688077056079b763750d5b6ffdece99e09178876a8483ed0c8a9f3e5723", func := "loop.example/g01403/laws.FnDamped", spec := "fnDamped", inPlace := ["math.Float64bits", "math.Float64frombits", "math.sqrt", "(*sync.WaitGroup).Add", "internal/race.ReleaseMerge", "internal/race.Disable", "internal/race.Enable", "internal/synctest.IsInBubble", "internal/synctest.Associate[sync.WaitGroup]", "sync.fatal", "sync/atomic.OrUint64", "sync/atomic.AddUint64", "internal/race.Read", "sync/atomic.LoadUint64", "sync/atomic.StoreUint64", "internal/synctest.Disassociate[sync.WaitGroup]", "sync.runtime_Semrelease", "(*sync.WaitGroup).Done", "(*sync.WaitGroup).Wait", "internal/race.Acquire", "internal/synctest.IsAssociated[sync.WaitGroup]", "sync/atomic.CompareAndSwapUint64", "internal/race.Write", "sync.runtime_SemacquireWaitGroup"], unfollowed := true, recurses := true, leaving := true, apart := false, narrowed := true }
def FnDampedUptoSaid : Prop := fnDampedUptoRow.holds Try.pinned (OpenSpec.upto fnDampedSpec)

/-- 'laws.FnTotals', WHERE WHAT IT READS IS OF BULK AT MOST 1048576: true; the input reads as it did. -/
def fnTotalsUptoRow : OpenClaim := { program := "ytebelikahpnobab", sum := "41074688077056079b763750d5b6ffdece99e09178876a8483ed0c8a9f3e5723", func := "loop.example/g01403/laws.FnTotals", spec := "fnTotals", unfollowed := true, recurses := true, leaving := true, apart := false, narrowed := true }
def FnTotalsUptoSaid : Prop := fnTotalsUptoRow.holds Try.pinned (OpenSpec.upto fnTotalsSpec)

end Rows
end Go.Proofs.Ytebelikahpnobab
