/-
  No cell of these rows narrows 'for every input' (looked for: loops, veiled, ifaces, maps, wideKeys, modest, calm, conditions, laid).
  DERIVED. THE GIVEN ROWS OF THIS SEAT. 12 by the template 'for every input the law returns true; each argument reads behind the call as it read before'; 0 by the template 'total and deterministic' (their statements: YtfnapaijfdiflaaTotals.lean).
  GIVEN WITH THE SEED: the statements are not yours to turn. If you find one false, say at which input.
  Laid BY PROGRAM, IN A SANDBOX (cutbox-rows.mjs): the forced cells as the released guide's own fill.sh prints them over the translation ff05715e74b4e851… (all of the seat's roots in one cut). By AI agents, Wed Nov 11 2026. No macro, syntax, notation, axiom, sorry.
-/
import Derived.Test.YtfnapaijfdiflaaChecked
import GoSem.Claim
import GoSem.ClaimJoined
import GoSem.ClaimMapViews
import Derived.JoinedTies
import Derived.KernelRfl
namespace Go.Proofs.Ytfnapaijfdiflaa
/- THE CELL 'sum', in the pinned program and in every row, IS THE sha256 OF THE DUMP (.gsa) THAT YtfnapaijfdiflaaProg.lean LOADS. Nothing in Lean hashes anything: it is a label: what it is worth is what the hold of that sum in a sandbox is worth. -/
noncomputable def Try.pinned : Pinned := { name := "ytfnapaijfdiflaa", sum := "ff05715e74b4e851da27c95b3cd84ea14e4b3590d716f5ea3d6cd52b13ba84f5", checked := Try.checked }
namespace Rows
def none {H : Type} : Left H := { results := [], args := [] }

/-- 'laws.FnExactGratingOut': WHATEVER THE INPUT: true; the input reads as it did. -/
def fnExactGratingOutSpec : ChangeSpec := { name := "fnExactGratingOut", fn := fun _ => fun
  | [d1, d2, d3, d4] => { results := [.lit (.bool true)], args := [d1, d2, d3, d4] }
  | _ => none }
def fnExactGratingOutRow : OpenClaim := { program := "ytfnapaijfdiflaa", sum := "ff05715e74b4e851da27c95b3cd84ea14e4b3590d716f5ea3d6cd52b13ba84f5", func := "loop.example/g01403/laws.FnExactGratingOut", spec := "fnExactGratingOut", inPlace := ["math.Float64bits", "math.Float64frombits"], unfollowed := true, recurses := true, apart := false }
def FnExactGratingOutSaid : Prop := fnExactGratingOutRow.holds Try.pinned (OpenSpec.ofChange fnExactGratingOutSpec)

/-- ITS FALSE NEIGHBOUR: 'it returns false'. Refute it at one input. -/
def fnExactGratingOutWrong : ChangeSpec := { name := "fnExactGratingOut", fn := fun _ => fun
  | [d1, d2, d3, d4] => { results := [.lit (.bool false)], args := [d1, d2, d3, d4] }
  | _ => none }
def FnExactGratingOutWrongFalsely : Prop := fnExactGratingOutRow.holds Try.pinned (OpenSpec.ofChange fnExactGratingOutWrong)

/-- 'laws.FnExactManySlits': WHATEVER THE INPUT: true; the input reads as it did. -/
def fnExactManySlitsSpec : ChangeSpec := { name := "fnExactManySlits", fn := fun _ => fun
  | [d1, d2] => { results := [.lit (.bool true)], args := [d1, d2] }
  | _ => none }
def fnExactManySlitsRow : OpenClaim := { program := "ytfnapaijfdiflaa", sum := "ff05715e74b4e851da27c95b3cd84ea14e4b3590d716f5ea3d6cd52b13ba84f5", func := "loop.example/g01403/laws.FnExactManySlits", spec := "fnExactManySlits", inPlace := ["math.Float64frombits", "math.Float64bits"], apart := false }
def FnExactManySlitsSaid : Prop := fnExactManySlitsRow.holds Try.pinned (OpenSpec.ofChange fnExactManySlitsSpec)

/-- ITS FALSE NEIGHBOUR: 'it returns false'. Refute it at one input. -/
def fnExactManySlitsWrong : ChangeSpec := { name := "fnExactManySlits", fn := fun _ => fun
  | [d1, d2] => { results := [.lit (.bool false)], args := [d1, d2] }
  | _ => none }
def FnExactManySlitsWrongFalsely : Prop := fnExactManySlitsRow.holds Try.pinned (OpenSpec.ofChange fnExactManySlitsWrong)

/-- 'laws.FnExactNoiseRatio': WHATEVER THE INPUT: true; the input reads as it did. -/
def fnExactNoiseRatioSpec : ChangeSpec := { name := "fnExactNoiseRatio", fn := fun _ => fun
  | [d1, d2, d3] => { results := [.lit (.bool true)], args := [d1, d2, d3] }
  | _ => none }
def fnExactNoiseRatioRow : OpenClaim := { program := "ytfnapaijfdiflaa", sum := "ff05715e74b4e851da27c95b3cd84ea14e4b3590d716f5ea3d6cd52b13ba84f5", func := "loop.example/g01403/laws.FnExactNoiseRatio", spec := "fnExactNoiseRatio", inPlace := ["math.sqrt", "math.Float64bits", "math.Float64frombits"], unfollowed := true, recurses := true, apart := false }
def FnExactNoiseRatioSaid : Prop := fnExactNoiseRatioRow.holds Try.pinned (OpenSpec.ofChange fnExactNoiseRatioSpec)

/-- ITS FALSE NEIGHBOUR: 'it returns false'. Refute it at one input. -/
def fnExactNoiseRatioWrong : ChangeSpec := { name := "fnExactNoiseRatio", fn := fun _ => fun
  | [d1, d2, d3] => { results := [.lit (.bool false)], args := [d1, d2, d3] }
  | _ => none }
def FnExactNoiseRatioWrongFalsely : Prop := fnExactNoiseRatioRow.holds Try.pinned (OpenSpec.ofChange fnExactNoiseRatioWrong)

/-- 'laws.FnExactPadScan': WHATEVER THE INPUT: true; the input reads as it did. -/
def fnExactPadScanSpec : ChangeSpec := { name := "fnExactPadScan", fn := fun _ => fun
  | [d1, d2] => { results := [.lit (.bool true)], args := [d1, d2] }
  | _ => none }
def fnExactPadScanRow : OpenClaim := { program := "ytfnapaijfdiflaa", sum := "ff05715e74b4e851da27c95b3cd84ea14e4b3590d716f5ea3d6cd52b13ba84f5", func := "loop.example/g01403/laws.FnExactPadScan", spec := "fnExactPadScan", inPlace := ["math.Float64bits", "math.Float64frombits"], unfollowed := true, recurses := true, apart := false }
def FnExactPadScanSaid : Prop := fnExactPadScanRow.holds Try.pinned (OpenSpec.ofChange fnExactPadScanSpec)

/-- ITS FALSE NEIGHBOUR: 'it returns false'. Refute it at one input. -/
def fnExactPadScanWrong : ChangeSpec := { name := "fnExactPadScan", fn := fun _ => fun
  | [d1, d2] => { results := [.lit (.bool false)], args := [d1, d2] }
  | _ => none }
def FnExactPadScanWrongFalsely : Prop := fnExactPadScanRow.holds Try.pinned (OpenSpec.ofChange fnExactPadScanWrong)

/-- 'laws.FnExactDepthOf': WHATEVER THE INPUT: true; the input reads as it did. -/
def fnExactDepthOfSpec : ChangeSpec := { name := "fnExactDepthOf", fn := fun _ => fun
  | [d1, d2] => { results := [.lit (.bool true)], args := [d1, d2] }
  | _ => none }
def fnExactDepthOfRow : OpenClaim := { program := "ytfnapaijfdiflaa", sum := "ff05715e74b4e851da27c95b3cd84ea14e4b3590d716f5ea3d6cd52b13ba84f5", func := "loop.example/g01403/laws.FnExactDepthOf", spec := "fnExactDepthOf", inPlace := ["math.Float64frombits", "math.Float64bits"], unfollowed := true, recurses := true, apart := false }
def FnExactDepthOfSaid : Prop := fnExactDepthOfRow.holds Try.pinned (OpenSpec.ofChange fnExactDepthOfSpec)

/-- ITS FALSE NEIGHBOUR: 'it returns false'. Refute it at one input. -/
def fnExactDepthOfWrong : ChangeSpec := { name := "fnExactDepthOf", fn := fun _ => fun
  | [d1, d2] => { results := [.lit (.bool false)], args := [d1, d2] }
  | _ => none }
def FnExactDepthOfWrongFalsely : Prop := fnExactDepthOfRow.holds Try.pinned (OpenSpec.ofChange fnExactDepthOfWrong)

/-- 'laws.FnExactLampLine': WHATEVER THE INPUT: true; the input reads as it did. -/
def fnExactLampLineSpec : ChangeSpec := { name := "fnExactLampLine", fn := fun _ => fun
  | [d1, d2] => { results := [.lit (.bool true)], args := [d1, d2] }
  | _ => none }
def fnExactLampLineRow : OpenClaim := { program := "ytfnapaijfdiflaa", sum := "ff05715e74b4e851da27c95b3cd84ea14e4b3590d716f5ea3d6cd52b13ba84f5", func := "loop.example/g01403/laws.FnExactLampLine", spec := "fnExactLampLine", inPlace := ["math.Float64bits", "math.Float64frombits"], unfollowed := true, recurses := true, apart := false }
def FnExactLampLineSaid : Prop := fnExactLampLineRow.holds Try.pinned (OpenSpec.ofChange fnExactLampLineSpec)

/-- ITS FALSE NEIGHBOUR: 'it returns false'. Refute it at one input. -/
def fnExactLampLineWrong : ChangeSpec := { name := "fnExactLampLine", fn := fun _ => fun
  | [d1, d2] => { results := [.lit (.bool false)], args := [d1, d2] }
  | _ => none }
def FnExactLampLineWrongFalsely : Prop := fnExactLampLineRow.holds Try.pinned (OpenSpec.ofChange fnExactLampLineWrong)

/-- 'laws.FnExactWaveAt': WHATEVER THE INPUT: true; the input reads as it did. -/
def fnExactWaveAtSpec : ChangeSpec := { name := "fnExactWaveAt", fn := fun _ => fun
  | [d1, d2] => { results := [.lit (.bool true)], args := [d1, d2] }
  | _ => none }
def fnExactWaveAtRow : OpenClaim := { program := "ytfnapaijfdiflaa", sum := "ff05715e74b4e851da27c95b3cd84ea14e4b3590d716f5ea3d6cd52b13ba84f5", func := "loop.example/g01403/laws.FnExactWaveAt", spec := "fnExactWaveAt", inPlace := ["math.Float64bits", "math.Float64frombits"], unfollowed := true, recurses := true, apart := false }
def FnExactWaveAtSaid : Prop := fnExactWaveAtRow.holds Try.pinned (OpenSpec.ofChange fnExactWaveAtSpec)

/-- ITS FALSE NEIGHBOUR: 'it returns false'. Refute it at one input. -/
def fnExactWaveAtWrong : ChangeSpec := { name := "fnExactWaveAt", fn := fun _ => fun
  | [d1, d2] => { results := [.lit (.bool false)], args := [d1, d2] }
  | _ => none }
def FnExactWaveAtWrongFalsely : Prop := fnExactWaveAtRow.holds Try.pinned (OpenSpec.ofChange fnExactWaveAtWrong)

/-- 'laws.FnExactLampRests': WHATEVER THE INPUT: true; the input reads as it did. -/
def fnExactLampRestsSpec : ChangeSpec := { name := "fnExactLampRests", fn := fun _ => fun
  | [d1, d2, d3] => { results := [.lit (.bool true)], args := [d1, d2, d3] }
  | _ => none }
def fnExactLampRestsRow : OpenClaim := { program := "ytfnapaijfdiflaa", sum := "ff05715e74b4e851da27c95b3cd84ea14e4b3590d716f5ea3d6cd52b13ba84f5", func := "loop.example/g01403/laws.FnExactLampRests", spec := "fnExactLampRests", inPlace := ["math.sqrt", "math.Float64bits", "math.Float64frombits"], unfollowed := true, recurses := true, apart := false }
def FnExactLampRestsSaid : Prop := fnExactLampRestsRow.holds Try.pinned (OpenSpec.ofChange fnExactLampRestsSpec)

/-- ITS FALSE NEIGHBOUR: 'it returns false'. Refute it at one input. -/
def fnExactLampRestsWrong : ChangeSpec := { name := "fnExactLampRests", fn := fun _ => fun
  | [d1, d2, d3] => { results := [.lit (.bool false)], args := [d1, d2, d3] }
  | _ => none }
def FnExactLampRestsWrongFalsely : Prop := fnExactLampRestsRow.holds Try.pinned (OpenSpec.ofChange fnExactLampRestsWrong)

/-- 'laws.FnExactSoftScan': WHATEVER THE INPUT: true; the input reads as it did. -/
def fnExactSoftScanSpec : ChangeSpec := { name := "fnExactSoftScan", fn := fun _ => fun
  | [d1, d2] => { results := [.lit (.bool true)], args := [d1, d2] }
  | _ => none }
def fnExactSoftScanRow : OpenClaim := { program := "ytfnapaijfdiflaa", sum := "ff05715e74b4e851da27c95b3cd84ea14e4b3590d716f5ea3d6cd52b13ba84f5", func := "loop.example/g01403/laws.FnExactSoftScan", spec := "fnExactSoftScan", inPlace := ["math.Float32frombits", "math.Float64frombits", "math.Float64bits"], unfollowed := true, recurses := true, apart := false }
def FnExactSoftScanSaid : Prop := fnExactSoftScanRow.holds Try.pinned (OpenSpec.ofChange fnExactSoftScanSpec)

/-- ITS FALSE NEIGHBOUR: 'it returns false'. Refute it at one input. -/
def fnExactSoftScanWrong : ChangeSpec := { name := "fnExactSoftScan", fn := fun _ => fun
  | [d1, d2] => { results := [.lit (.bool false)], args := [d1, d2] }
  | _ => none }
def FnExactSoftScanWrongFalsely : Prop := fnExactSoftScanRow.holds Try.pinned (OpenSpec.ofChange fnExactSoftScanWrong)

/-- 'laws.FnExactScanOf': WHATEVER THE INPUT: true; the input reads as it did. -/
def fnExactScanOfSpec : ChangeSpec := { name := "fnExactScanOf", fn := fun _ => fun
  | [d1, d2, d3, d4] => { results := [.lit (.bool true)], args := [d1, d2, d3, d4] }
  | _ => none }
def fnExactScanOfRow : OpenClaim := { program := "ytfnapaijfdiflaa", sum := "ff05715e74b4e851da27c95b3cd84ea14e4b3590d716f5ea3d6cd52b13ba84f5", func := "loop.example/g01403/laws.FnExactScanOf", spec := "fnExactScanOf", inPlace := ["math.Float32frombits", "math.Float64frombits", "math.Float64bits"], unfollowed := true, recurses := true, apart := false }
def FnExactScanOfSaid : Prop := fnExactScanOfRow.holds Try.pinned (OpenSpec.ofChange fnExactScanOfSpec)

/-- ITS FALSE NEIGHBOUR: 'it returns false'. Refute it at one input. -/
def fnExactScanOfWrong : ChangeSpec := { name := "fnExactScanOf", fn := fun _ => fun
  | [d1, d2, d3, d4] => { results := [.lit (.bool false)], args := [d1, d2, d3, d4] }
  | _ => none }
def FnExactScanOfWrongFalsely : Prop := fnExactScanOfRow.holds Try.pinned (OpenSpec.ofChange fnExactScanOfWrong)

/-- 'laws.FnExactPlaceOf': WHATEVER THE INPUT: true; the input reads as it did. -/
def fnExactPlaceOfSpec : ChangeSpec := { name := "fnExactPlaceOf", fn := fun _ => fun
  | [d1, d2, d3, d4, d5] => { results := [.lit (.bool true)], args := [d1, d2, d3, d4, d5] }
  | _ => none }
def fnExactPlaceOfRow : OpenClaim := { program := "ytfnapaijfdiflaa", sum := "ff05715e74b4e851da27c95b3cd84ea14e4b3590d716f5ea3d6cd52b13ba84f5", func := "loop.example/g01403/laws.FnExactPlaceOf", spec := "fnExactPlaceOf", inPlace := ["math.Float64bits", "math.Float64frombits"], unfollowed := true, recurses := true, apart := false }
def FnExactPlaceOfSaid : Prop := fnExactPlaceOfRow.holds Try.pinned (OpenSpec.ofChange fnExactPlaceOfSpec)

/-- ITS FALSE NEIGHBOUR: 'it returns false'. Refute it at one input. -/
def fnExactPlaceOfWrong : ChangeSpec := { name := "fnExactPlaceOf", fn := fun _ => fun
  | [d1, d2, d3, d4, d5] => { results := [.lit (.bool false)], args := [d1, d2, d3, d4, d5] }
  | _ => none }
def FnExactPlaceOfWrongFalsely : Prop := fnExactPlaceOfRow.holds Try.pinned (OpenSpec.ofChange fnExactPlaceOfWrong)

/-- 'laws.FnExactGratingOrders': WHATEVER THE INPUT: true; the input reads as it did. -/
def fnExactGratingOrdersSpec : ChangeSpec := { name := "fnExactGratingOrders", fn := fun _ => fun
  | [d1, d2, d3] => { results := [.lit (.bool true)], args := [d1, d2, d3] }
  | _ => none }
def fnExactGratingOrdersRow : OpenClaim := { program := "ytfnapaijfdiflaa", sum := "ff05715e74b4e851da27c95b3cd84ea14e4b3590d716f5ea3d6cd52b13ba84f5", func := "loop.example/g01403/laws.FnExactGratingOrders", spec := "fnExactGratingOrders", inPlace := ["math.Float64bits", "math.Float64frombits"], unfollowed := true, recurses := true, apart := false }
def FnExactGratingOrdersSaid : Prop := fnExactGratingOrdersRow.holds Try.pinned (OpenSpec.ofChange fnExactGratingOrdersSpec)

/-- ITS FALSE NEIGHBOUR: 'it returns false'. Refute it at one input. -/
def fnExactGratingOrdersWrong : ChangeSpec := { name := "fnExactGratingOrders", fn := fun _ => fun
  | [d1, d2, d3] => { results := [.lit (.bool false)], args := [d1, d2, d3] }
  | _ => none }
def FnExactGratingOrdersWrongFalsely : Prop := fnExactGratingOrdersRow.holds Try.pinned (OpenSpec.ofChange fnExactGratingOrdersWrong)

/- THE SECOND FORM. 'bulk': how many values and letters a reading holds, each counted each time it is reached (what is shared counts as often as it is met; a slice's spare places count too). A statement '..UptoSaid' is the law's where the arguments, and the package variables that the reading takes, are together of bulk at most 1048576: NARROWER than '..Said'. Prove '..Said' where nothing that the law and all that it calls make is longer than what came in: it says more and counts as full. Else prove '..UptoSaid'. A law counts once. -/
mutual
def uptoBulk {H : Type} : DataW H → Nat
  | .lit (.string bytes) => bytes.length + 1
  | .lit _ => 1
  | .nil => 1
  | .ptr d => uptoBulk d + 1
  | .slice elems spare => uptoBulkAll elems + uptoBulkAll spare + 1
  | .agg parts => uptoBulkAll parts + 1
  | .iface _ d => uptoBulk d + 1
  | .map entries => uptoBulkEntries entries + 1
  | .held _ => 1
def uptoBulkAll {H : Type} : List (DataW H) → Nat
  | [] => 0
  | d :: r => uptoBulk d + uptoBulkAll r
def uptoBulkEntries {H : Type} : List (Lit × DataW H) → Nat
  | [] => 0
  | x :: r => uptoBulkEntry x + uptoBulkEntries r
def uptoBulkEntry {H : Type} : Lit × DataW H → Nat
  | (.string bytes, d) => bytes.length + uptoBulk d + 1
  | (_, d) => uptoBulk d + 1
 end
def uptoSmall : (H : Type) → List (DataW H) → Bool := fun _ ds => decide (uptoBulkAll ds ≤ 1048576)
def OpenSpec.upto (s : _root_.Go.ChangeSpec) : _root_.Go.OpenSpec := { _root_.Go.OpenSpec.ofChange s with cond := some uptoSmall }

/-- 'laws.FnExactGratingOut', WHERE WHAT IT READS IS OF BULK AT MOST 1048576: true; the input reads as it did. -/
def fnExactGratingOutUptoRow : OpenClaim := { program := "ytfnapaijfdiflaa", sum := "ff05715e74b4e851da27c95b3cd84ea14e4b3590d716f5ea3d6cd52b13ba84f5", func := "loop.example/g01403/laws.FnExactGratingOut", spec := "fnExactGratingOut", inPlace := ["math.Float64bits", "math.Float64frombits"], unfollowed := true, recurses := true, apart := false, narrowed := true }
def FnExactGratingOutUptoSaid : Prop := fnExactGratingOutUptoRow.holds Try.pinned (OpenSpec.upto fnExactGratingOutSpec)

/-- 'laws.FnExactManySlits', WHERE WHAT IT READS IS OF BULK AT MOST 1048576: true; the input reads as it did. -/
def fnExactManySlitsUptoRow : OpenClaim := { program := "ytfnapaijfdiflaa", sum := "ff05715e74b4e851da27c95b3cd84ea14e4b3590d716f5ea3d6cd52b13ba84f5", func := "loop.example/g01403/laws.FnExactManySlits", spec := "fnExactManySlits", inPlace := ["math.Float64frombits", "math.Float64bits"], apart := false, narrowed := true }
def FnExactManySlitsUptoSaid : Prop := fnExactManySlitsUptoRow.holds Try.pinned (OpenSpec.upto fnExactManySlitsSpec)

/-- 'laws.FnExactNoiseRatio', WHERE WHAT IT READS IS OF BULK AT MOST 1048576: true; the input reads as it did. -/
def fnExactNoiseRatioUptoRow : OpenClaim := { program := "ytfnapaijfdiflaa", sum := "ff05715e74b4e851da27c95b3cd84ea14e4b3590d716f5ea3d6cd52b13ba84f5", func := "loop.example/g01403/laws.FnExactNoiseRatio", spec := "fnExactNoiseRatio", inPlace := ["math.sqrt", "math.Float64bits", "math.Float64frombits"], unfollowed := true, recurses := true, apart := false, narrowed := true }
def FnExactNoiseRatioUptoSaid : Prop := fnExactNoiseRatioUptoRow.holds Try.pinned (OpenSpec.upto fnExactNoiseRatioSpec)

/-- 'laws.FnExactPadScan', WHERE WHAT IT READS IS OF BULK AT MOST 1048576: true; the input reads as it did. -/
def fnExactPadScanUptoRow : OpenClaim := { program := "ytfnapaijfdiflaa", sum := "ff05715e74b4e851da27c95b3cd84ea14e4b3590d716f5ea3d6cd52b13ba84f5", func := "loop.example/g01403/laws.FnExactPadScan", spec := "fnExactPadScan", inPlace := ["math.Float64bits", "math.Float64frombits"], unfollowed := true, recurses := true, apart := false, narrowed := true }
def FnExactPadScanUptoSaid : Prop := fnExactPadScanUptoRow.holds Try.pinned (OpenSpec.upto fnExactPadScanSpec)

/-- 'laws.FnExactDepthOf', WHERE WHAT IT READS IS OF BULK AT MOST 1048576: true; the input reads as it did. -/
def fnExactDepthOfUptoRow : OpenClaim := { program := "ytfnapaijfdiflaa", sum := "ff05715e74b4e851da27c95b3cd84ea14e4b3590d716f5ea3d6cd52b13ba84f5", func := "loop.example/g01403/laws.FnExactDepthOf", spec := "fnExactDepthOf", inPlace := ["math.Float64frombits", "math.Float64bits"], unfollowed := true, recurses := true, apart := false, narrowed := true }
def FnExactDepthOfUptoSaid : Prop := fnExactDepthOfUptoRow.holds Try.pinned (OpenSpec.upto fnExactDepthOfSpec)

/-- 'laws.FnExactLampLine', WHERE WHAT IT READS IS OF BULK AT MOST 1048576: true; the input reads as it did. -/
def fnExactLampLineUptoRow : OpenClaim := { program := "ytfnapaijfdiflaa", sum := "ff05715e74b4e851da27c95b3cd84ea14e4b3590d716f5ea3d6cd52b13ba84f5", func := "loop.example/g01403/laws.FnExactLampLine", spec := "fnExactLampLine", inPlace := ["math.Float64bits", "math.Float64frombits"], unfollowed := true, recurses := true, apart := false, narrowed := true }
def FnExactLampLineUptoSaid : Prop := fnExactLampLineUptoRow.holds Try.pinned (OpenSpec.upto fnExactLampLineSpec)

/-- 'laws.FnExactWaveAt', WHERE WHAT IT READS IS OF BULK AT MOST 1048576: true; the input reads as it did. -/
def fnExactWaveAtUptoRow : OpenClaim := { program := "ytfnapaijfdiflaa", sum := "ff05715e74b4e851da27c95b3cd84ea14e4b3590d716f5ea3d6cd52b13ba84f5", func := "loop.example/g01403/laws.FnExactWaveAt", spec := "fnExactWaveAt", inPlace := ["math.Float64bits", "math.Float64frombits"], unfollowed := true, recurses := true, apart := false, narrowed := true }
def FnExactWaveAtUptoSaid : Prop := fnExactWaveAtUptoRow.holds Try.pinned (OpenSpec.upto fnExactWaveAtSpec)

/-- 'laws.FnExactLampRests', WHERE WHAT IT READS IS OF BULK AT MOST 1048576: true; the input reads as it did. -/
def fnExactLampRestsUptoRow : OpenClaim := { program := "ytfnapaijfdiflaa", sum := "ff05715e74b4e851da27c95b3cd84ea14e4b3590d716f5ea3d6cd52b13ba84f5", func := "loop.example/g01403/laws.FnExactLampRests", spec := "fnExactLampRests", inPlace := ["math.sqrt", "math.Float64bits", "math.Float64frombits"], unfollowed := true, recurses := true, apart := false, narrowed := true }
def FnExactLampRestsUptoSaid : Prop := fnExactLampRestsUptoRow.holds Try.pinned (OpenSpec.upto fnExactLampRestsSpec)

/-- 'laws.FnExactSoftScan', WHERE WHAT IT READS IS OF BULK AT MOST 1048576: true; the input reads as it did. -/
def fnExactSoftScanUptoRow : OpenClaim := { program := "ytfnapaijfdiflaa", sum := "ff05715e74b4e851da27c95b3cd84ea14e4b3590d716f5ea3d6cd52b13ba84f5", func := "loop.example/g01403/laws.FnExactSoftScan", spec := "fnExactSoftScan", inPlace := ["math.Float32frombits", "math.Float64frombits", "math.Float64bits"], unfollowed := true, recurses := true, apart := false, narrowed := true }
def FnExactSoftScanUptoSaid : Prop := fnExactSoftScanUptoRow.holds Try.pinned (OpenSpec.upto fnExactSoftScanSpec)

/-- 'laws.FnExactScanOf', WHERE WHAT IT READS IS OF BULK AT MOST 1048576: true; the input reads as it did. -/
def fnExactScanOfUptoRow : OpenClaim := { program := "ytfnapaijfdiflaa", sum := "ff05715e74b4e851da27c95b3cd84ea14e4b3590d716f5ea3d6cd52b13ba84f5", func := "loop.example/g01403/laws.FnExactScanOf", spec := "fnExactScanOf", inPlace := ["math.Float32frombits", "math.Float64frombits", "math.Float64bits"], unfollowed := true, recurses := true, apart := false, narrowed := true }
def FnExactScanOfUptoSaid : Prop := fnExactScanOfUptoRow.holds Try.pinned (OpenSpec.upto fnExactScanOfSpec)

/-- 'laws.FnExactPlaceOf', WHERE WHAT IT READS IS OF BULK AT MOST 1048576: true; the input reads as it did. -/
def fnExactPlaceOfUptoRow : OpenClaim := { program := "ytfnapaijfdiflaa", sum := "ff05715e74b4e851da27c95b3cd84ea14e4b3590d716f5ea3d6cd52b13ba84f5", func := "loop.example/g01403/laws.FnExactPlaceOf", spec := "fnExactPlaceOf", inPlace := ["math.Float64bits", "math.Float64frombits"], unfollowed := true, recurses := true, apart := false, narrowed := true }
def FnExactPlaceOfUptoSaid : Prop := fnExactPlaceOfUptoRow.holds Try.pinned (OpenSpec.upto fnExactPlaceOfSpec)

/-- 'laws.FnExactGratingOrders', WHERE WHAT IT READS IS OF BULK AT MOST 1048576: true; the input reads as it did. -/
def fnExactGratingOrdersUptoRow : OpenClaim := { program := "ytfnapaijfdiflaa", sum := "ff05715e74b4e851da27c95b3cd84ea14e4b3590d716f5ea3d6cd52b13ba84f5", func := "loop.example/g01403/laws.FnExactGratingOrders", spec := "fnExactGratingOrders", inPlace := ["math.Float64bits", "math.Float64frombits"], unfollowed := true, recurses := true, apart := false, narrowed := true }
def FnExactGratingOrdersUptoSaid : Prop := fnExactGratingOrdersUptoRow.holds Try.pinned (OpenSpec.upto fnExactGratingOrdersSpec)

end Rows
end Go.Proofs.Ytfnapaijfdiflaa
