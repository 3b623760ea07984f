/-
  No cell of these rows narrows 'for every input' (looked for: loops, veiled, ifaces, maps, wideKeys, modest, calm, conditions, laid).
  DERIVED. THE GIVEN ROWS OF THIS SEAT. 12 by the template 'for every input the law returns true; each argument reads behind the call as it read before'; 0 by the template 'total and deterministic' (their statements: YtdoaajmojfdjoaaTotals.lean).
  GIVEN WITH THE SEED: the statements are not yours to turn. If you find one false, say at which input.
  Laid BY PROGRAM, IN A SANDBOX (cutbox-rows.mjs): the forced cells as the released guide's own fill.sh prints them over the translation 981c4147f756c345… (all of the seat's roots in one cut). By AI agents, Wed Nov 11 2026. No macro, syntax, notation, axiom, sorry.
-/
import Derived.Test.YtdoaajmojfdjoaaChecked
import GoSem.Claim
import GoSem.ClaimJoined
import GoSem.ClaimMapViews
import Derived.JoinedTies
import Derived.KernelRfl
namespace Go.Proofs.Ytdoaajmojfdjoaa
/- THE CELL 'sum', in the pinned program and in every row, IS THE sha256 OF THE DUMP (.gsa) THAT YtdoaajmojfdjoaaProg.lean LOADS. Nothing in Lean hashes anything: it is a label: what it is worth is what the hold of that sum in a sandbox is worth. -/
noncomputable def Try.pinned : Pinned := { name := "ytdoaajmojfdjoaa", sum := "981c4147f756c3457e7a1353dff775d6cbd053d967fd1f238422096567fddde7", checked := Try.checked }
namespace Rows
def none {H : Type} : Left H := { results := [], args := [] }

/-- 'laws.FnExactValidSteps': WHATEVER THE INPUT: true; the input reads as it did. -/
def fnExactValidStepsSpec : ChangeSpec := { name := "fnExactValidSteps", fn := fun _ => fun
  | [d] => { results := [.lit (.bool true)], args := [d] }
  | _ => none }
def fnExactValidStepsRow : OpenClaim := { program := "ytdoaajmojfdjoaa", sum := "981c4147f756c3457e7a1353dff775d6cbd053d967fd1f238422096567fddde7", func := "loop.example/g01403/laws.FnExactValidSteps", spec := "fnExactValidSteps", inPlace := ["math.Float64bits", "math.Float64frombits"], unfollowed := true, recurses := true, apart := false }
def FnExactValidStepsSaid : Prop := fnExactValidStepsRow.holds Try.pinned (OpenSpec.ofChange fnExactValidStepsSpec)

/-- ITS FALSE NEIGHBOUR: 'it returns false'. Refute it at one input. -/
def fnExactValidStepsWrong : ChangeSpec := { name := "fnExactValidSteps", fn := fun _ => fun
  | [d] => { results := [.lit (.bool false)], args := [d] }
  | _ => none }
def FnExactValidStepsWrongFalsely : Prop := fnExactValidStepsRow.holds Try.pinned (OpenSpec.ofChange fnExactValidStepsWrong)

/-- 'laws.FnExactSameSteps': WHATEVER THE INPUT: true; the input reads as it did. -/
def fnExactSameStepsSpec : ChangeSpec := { name := "fnExactSameSteps", fn := fun _ => fun
  | [d1, d2] => { results := [.lit (.bool true)], args := [d1, d2] }
  | _ => none }
def fnExactSameStepsRow : OpenClaim := { program := "ytdoaajmojfdjoaa", sum := "981c4147f756c3457e7a1353dff775d6cbd053d967fd1f238422096567fddde7", func := "loop.example/g01403/laws.FnExactSameSteps", spec := "fnExactSameSteps", inPlace := ["math.Float32bits"], apart := false }
def FnExactSameStepsSaid : Prop := fnExactSameStepsRow.holds Try.pinned (OpenSpec.ofChange fnExactSameStepsSpec)

/-- ITS FALSE NEIGHBOUR: 'it returns false'. Refute it at one input. -/
def fnExactSameStepsWrong : ChangeSpec := { name := "fnExactSameSteps", fn := fun _ => fun
  | [d1, d2] => { results := [.lit (.bool false)], args := [d1, d2] }
  | _ => none }
def FnExactSameStepsWrongFalsely : Prop := fnExactSameStepsRow.holds Try.pinned (OpenSpec.ofChange fnExactSameStepsWrong)

/-- 'laws.FnExactHeightAt': WHATEVER THE INPUT: true; the input reads as it did. -/
def fnExactHeightAtSpec : ChangeSpec := { name := "fnExactHeightAt", fn := fun _ => fun
  | [d1, d2] => { results := [.lit (.bool true)], args := [d1, d2] }
  | _ => none }
def fnExactHeightAtRow : OpenClaim := { program := "ytdoaajmojfdjoaa", sum := "981c4147f756c3457e7a1353dff775d6cbd053d967fd1f238422096567fddde7", func := "loop.example/g01403/laws.FnExactHeightAt", spec := "fnExactHeightAt", inPlace := ["math.Float64bits", "math.Float64frombits"], unfollowed := true, recurses := true, apart := false }
def FnExactHeightAtSaid : Prop := fnExactHeightAtRow.holds Try.pinned (OpenSpec.ofChange fnExactHeightAtSpec)

/-- ITS FALSE NEIGHBOUR: 'it returns false'. Refute it at one input. -/
def fnExactHeightAtWrong : ChangeSpec := { name := "fnExactHeightAt", fn := fun _ => fun
  | [d1, d2] => { results := [.lit (.bool false)], args := [d1, d2] }
  | _ => none }
def FnExactHeightAtWrongFalsely : Prop := fnExactHeightAtRow.holds Try.pinned (OpenSpec.ofChange fnExactHeightAtWrong)

/-- 'laws.FnExactTurnSteps': WHATEVER THE INPUT: true; the input reads as it did. -/
def fnExactTurnStepsSpec : ChangeSpec := { name := "fnExactTurnSteps", fn := fun _ => fun
  | [d] => { results := [.lit (.bool true)], args := [d] }
  | _ => none }
def fnExactTurnStepsRow : OpenClaim := { program := "ytdoaajmojfdjoaa", sum := "981c4147f756c3457e7a1353dff775d6cbd053d967fd1f238422096567fddde7", func := "loop.example/g01403/laws.FnExactTurnSteps", spec := "fnExactTurnSteps", inPlace := ["math.Float64bits", "math.Float64frombits"], unfollowed := true, recurses := true, apart := false }
def FnExactTurnStepsSaid : Prop := fnExactTurnStepsRow.holds Try.pinned (OpenSpec.ofChange fnExactTurnStepsSpec)

/-- ITS FALSE NEIGHBOUR: 'it returns false'. Refute it at one input. -/
def fnExactTurnStepsWrong : ChangeSpec := { name := "fnExactTurnSteps", fn := fun _ => fun
  | [d] => { results := [.lit (.bool false)], args := [d] }
  | _ => none }
def FnExactTurnStepsWrongFalsely : Prop := fnExactTurnStepsRow.holds Try.pinned (OpenSpec.ofChange fnExactTurnStepsWrong)

/-- 'laws.FnExactJoinSteps': WHATEVER THE INPUT: true; the input reads as it did. -/
def fnExactJoinStepsSpec : ChangeSpec := { name := "fnExactJoinSteps", fn := fun _ => fun
  | [d1, d2, d3] => { results := [.lit (.bool true)], args := [d1, d2, d3] }
  | _ => none }
def fnExactJoinStepsRow : OpenClaim := { program := "ytdoaajmojfdjoaa", sum := "981c4147f756c3457e7a1353dff775d6cbd053d967fd1f238422096567fddde7", func := "loop.example/g01403/laws.FnExactJoinSteps", spec := "fnExactJoinSteps", inPlace := ["math.Float32bits", "math.Float64bits", "math.Float64frombits"], unfollowed := true, recurses := true, apart := false }
def FnExactJoinStepsSaid : Prop := fnExactJoinStepsRow.holds Try.pinned (OpenSpec.ofChange fnExactJoinStepsSpec)

/-- ITS FALSE NEIGHBOUR: 'it returns false'. Refute it at one input. -/
def fnExactJoinStepsWrong : ChangeSpec := { name := "fnExactJoinSteps", fn := fun _ => fun
  | [d1, d2, d3] => { results := [.lit (.bool false)], args := [d1, d2, d3] }
  | _ => none }
def FnExactJoinStepsWrongFalsely : Prop := fnExactJoinStepsRow.holds Try.pinned (OpenSpec.ofChange fnExactJoinStepsWrong)

/-- 'laws.FnExactBoxLevels': WHATEVER THE INPUT: true; the input reads as it did. -/
def fnExactBoxLevelsSpec : ChangeSpec := { name := "fnExactBoxLevels", fn := fun _ => fun
  | [d1, d2] => { results := [.lit (.bool true)], args := [d1, d2] }
  | _ => none }
def fnExactBoxLevelsRow : OpenClaim := { program := "ytdoaajmojfdjoaa", sum := "981c4147f756c3457e7a1353dff775d6cbd053d967fd1f238422096567fddde7", func := "loop.example/g01403/laws.FnExactBoxLevels", spec := "fnExactBoxLevels", inPlace := ["math.Float64bits", "math.Float64frombits"], unfollowed := true, recurses := true, apart := false }
def FnExactBoxLevelsSaid : Prop := fnExactBoxLevelsRow.holds Try.pinned (OpenSpec.ofChange fnExactBoxLevelsSpec)

/-- ITS FALSE NEIGHBOUR: 'it returns false'. Refute it at one input. -/
def fnExactBoxLevelsWrong : ChangeSpec := { name := "fnExactBoxLevels", fn := fun _ => fun
  | [d1, d2] => { results := [.lit (.bool false)], args := [d1, d2] }
  | _ => none }
def FnExactBoxLevelsWrongFalsely : Prop := fnExactBoxLevelsRow.holds Try.pinned (OpenSpec.ofChange fnExactBoxLevelsWrong)

/-- 'laws.FnExactSwingLevels': WHATEVER THE INPUT: true; the input reads as it did. -/
def fnExactSwingLevelsSpec : ChangeSpec := { name := "fnExactSwingLevels", fn := fun _ => fun
  | [d1, d2] => { results := [.lit (.bool true)], args := [d1, d2] }
  | _ => none }
def fnExactSwingLevelsRow : OpenClaim := { program := "ytdoaajmojfdjoaa", sum := "981c4147f756c3457e7a1353dff775d6cbd053d967fd1f238422096567fddde7", func := "loop.example/g01403/laws.FnExactSwingLevels", spec := "fnExactSwingLevels", inPlace := ["math.Float64bits", "math.Float64frombits"], unfollowed := true, recurses := true, apart := false }
def FnExactSwingLevelsSaid : Prop := fnExactSwingLevelsRow.holds Try.pinned (OpenSpec.ofChange fnExactSwingLevelsSpec)

/-- ITS FALSE NEIGHBOUR: 'it returns false'. Refute it at one input. -/
def fnExactSwingLevelsWrong : ChangeSpec := { name := "fnExactSwingLevels", fn := fun _ => fun
  | [d1, d2] => { results := [.lit (.bool false)], args := [d1, d2] }
  | _ => none }
def FnExactSwingLevelsWrongFalsely : Prop := fnExactSwingLevelsRow.holds Try.pinned (OpenSpec.ofChange fnExactSwingLevelsWrong)

/-- 'laws.FnExactBendLevels': WHATEVER THE INPUT: true; the input reads as it did. -/
def fnExactBendLevelsSpec : ChangeSpec := { name := "fnExactBendLevels", fn := fun _ => fun
  | [d1, d2] => { results := [.lit (.bool true)], args := [d1, d2] }
  | _ => none }
def fnExactBendLevelsRow : OpenClaim := { program := "ytdoaajmojfdjoaa", sum := "981c4147f756c3457e7a1353dff775d6cbd053d967fd1f238422096567fddde7", func := "loop.example/g01403/laws.FnExactBendLevels", spec := "fnExactBendLevels", inPlace := ["math.Float64bits", "math.Float64frombits"], apart := false }
def FnExactBendLevelsSaid : Prop := fnExactBendLevelsRow.holds Try.pinned (OpenSpec.ofChange fnExactBendLevelsSpec)

/-- ITS FALSE NEIGHBOUR: 'it returns false'. Refute it at one input. -/
def fnExactBendLevelsWrong : ChangeSpec := { name := "fnExactBendLevels", fn := fun _ => fun
  | [d1, d2] => { results := [.lit (.bool false)], args := [d1, d2] }
  | _ => none }
def FnExactBendLevelsWrongFalsely : Prop := fnExactBendLevelsRow.holds Try.pinned (OpenSpec.ofChange fnExactBendLevelsWrong)

/-- 'laws.FnExactWellCount': WHATEVER THE INPUT: true; the input reads as it did. -/
def fnExactWellCountSpec : ChangeSpec := { name := "fnExactWellCount", fn := fun _ => fun
  | [d1, d2] => { results := [.lit (.bool true)], args := [d1, d2] }
  | _ => none }
def fnExactWellCountRow : OpenClaim := { program := "ytdoaajmojfdjoaa", sum := "981c4147f756c3457e7a1353dff775d6cbd053d967fd1f238422096567fddde7", func := "loop.example/g01403/laws.FnExactWellCount", spec := "fnExactWellCount", inPlace := ["math.sqrt", "math.Float64bits", "math.Float64frombits", "math.archCeil", "math.archFloor", "math.archTrunc"], apart := false }
def FnExactWellCountSaid : Prop := fnExactWellCountRow.holds Try.pinned (OpenSpec.ofChange fnExactWellCountSpec)

/-- ITS FALSE NEIGHBOUR: 'it returns false'. Refute it at one input. -/
def fnExactWellCountWrong : ChangeSpec := { name := "fnExactWellCount", fn := fun _ => fun
  | [d1, d2] => { results := [.lit (.bool false)], args := [d1, d2] }
  | _ => none }
def FnExactWellCountWrongFalsely : Prop := fnExactWellCountRow.holds Try.pinned (OpenSpec.ofChange fnExactWellCountWrong)

/-- 'laws.FnExactGridRows': WHATEVER THE INPUT: true; the input reads as it did. -/
def fnExactGridRowsSpec : ChangeSpec := { name := "fnExactGridRows", fn := fun _ => fun
  | [d1, d2, d3, d4] => { results := [.lit (.bool true)], args := [d1, d2, d3, d4] }
  | _ => none }
def fnExactGridRowsRow : OpenClaim := { program := "ytdoaajmojfdjoaa", sum := "981c4147f756c3457e7a1353dff775d6cbd053d967fd1f238422096567fddde7", func := "loop.example/g01403/laws.FnExactGridRows", spec := "fnExactGridRows", inPlace := ["math.Float64bits", "math.Float64frombits"], unfollowed := true, recurses := true, apart := false }
def FnExactGridRowsSaid : Prop := fnExactGridRowsRow.holds Try.pinned (OpenSpec.ofChange fnExactGridRowsSpec)

/-- ITS FALSE NEIGHBOUR: 'it returns false'. Refute it at one input. -/
def fnExactGridRowsWrong : ChangeSpec := { name := "fnExactGridRows", fn := fun _ => fun
  | [d1, d2, d3, d4] => { results := [.lit (.bool false)], args := [d1, d2, d3, d4] }
  | _ => none }
def FnExactGridRowsWrongFalsely : Prop := fnExactGridRowsRow.holds Try.pinned (OpenSpec.ofChange fnExactGridRowsWrong)

/-- 'laws.FnExactCountBelow': WHATEVER THE INPUT: true; the input reads as it did. -/
def fnExactCountBelowSpec : ChangeSpec := { name := "fnExactCountBelow", fn := fun _ => fun
  | [d1, d2, d3] => { results := [.lit (.bool true)], args := [d1, d2, d3] }
  | _ => none }
def fnExactCountBelowRow : OpenClaim := { program := "ytdoaajmojfdjoaa", sum := "981c4147f756c3457e7a1353dff775d6cbd053d967fd1f238422096567fddde7", func := "loop.example/g01403/laws.FnExactCountBelow", spec := "fnExactCountBelow", inPlace := ["math.Float64bits", "math.Float64frombits"], unfollowed := true, recurses := true, apart := false }
def FnExactCountBelowSaid : Prop := fnExactCountBelowRow.holds Try.pinned (OpenSpec.ofChange fnExactCountBelowSpec)

/-- ITS FALSE NEIGHBOUR: 'it returns false'. Refute it at one input. -/
def fnExactCountBelowWrong : ChangeSpec := { name := "fnExactCountBelow", fn := fun _ => fun
  | [d1, d2, d3] => { results := [.lit (.bool false)], args := [d1, d2, d3] }
  | _ => none }
def FnExactCountBelowWrongFalsely : Prop := fnExactCountBelowRow.holds Try.pinned (OpenSpec.ofChange fnExactCountBelowWrong)

/-- 'laws.FnExactOverlapOf': WHATEVER THE INPUT: true; the input reads as it did. -/
def fnExactOverlapOfSpec : ChangeSpec := { name := "fnExactOverlapOf", fn := fun _ => fun
  | [d1, d2] => { results := [.lit (.bool true)], args := [d1, d2] }
  | _ => none }
def fnExactOverlapOfRow : OpenClaim := { program := "ytdoaajmojfdjoaa", sum := "981c4147f756c3457e7a1353dff775d6cbd053d967fd1f238422096567fddde7", func := "loop.example/g01403/laws.FnExactOverlapOf", spec := "fnExactOverlapOf", inPlace := ["math.Float64bits", "math.Float64frombits"], unfollowed := true, recurses := true, apart := false }
def FnExactOverlapOfSaid : Prop := fnExactOverlapOfRow.holds Try.pinned (OpenSpec.ofChange fnExactOverlapOfSpec)

/-- ITS FALSE NEIGHBOUR: 'it returns false'. Refute it at one input. -/
def fnExactOverlapOfWrong : ChangeSpec := { name := "fnExactOverlapOf", fn := fun _ => fun
  | [d1, d2] => { results := [.lit (.bool false)], args := [d1, d2] }
  | _ => none }
def FnExactOverlapOfWrongFalsely : Prop := fnExactOverlapOfRow.holds Try.pinned (OpenSpec.ofChange fnExactOverlapOfWrong)

/- THE SECOND FORM. 'bulk': how many values and letters a reading holds, each counted each time it is reached (what is shared counts as often as it is met; a slice's spare places count too). A statement '..UptoSaid' is the law's where the arguments, and the package variables that the reading takes, are together of bulk at most 1048576: NARROWER than '..Said'. Prove '..Said' where nothing that the law and all that it calls make is longer than what came in: it says more and counts as full. Else prove '..UptoSaid'. A law counts once. -/
mutual
def uptoBulk {H : Type} : DataW H → Nat
  | .lit (.string bytes) => bytes.length + 1
  | .lit _ => 1
  | .nil => 1
  | .ptr d => uptoBulk d + 1
  | .slice elems spare => uptoBulkAll elems + uptoBulkAll spare + 1
  | .agg parts => uptoBulkAll parts + 1
  | .iface _ d => uptoBulk d + 1
  | .map entries => uptoBulkEntries entries + 1
  | .held _ => 1
def uptoBulkAll {H : Type} : List (DataW H) → Nat
  | [] => 0
  | d :: r => uptoBulk d + uptoBulkAll r
def uptoBulkEntries {H : Type} : List (Lit × DataW H) → Nat
  | [] => 0
  | x :: r => uptoBulkEntry x + uptoBulkEntries r
def uptoBulkEntry {H : Type} : Lit × DataW H → Nat
  | (.string bytes, d) => bytes.length + uptoBulk d + 1
  | (_, d) => uptoBulk d + 1
 end
def uptoSmall : (H : Type) → List (DataW H) → Bool := fun _ ds => decide (uptoBulkAll ds ≤ 1048576)
def OpenSpec.upto (s : _root_.Go.ChangeSpec) : _root_.Go.OpenSpec := { _root_.Go.OpenSpec.ofChange s with cond := some uptoSmall }

/-- 'laws.FnExactValidSteps', WHERE WHAT IT READS IS OF BULK AT MOST 1048576: true; the input reads as it did. -/
def fnExactValidStepsUptoRow : OpenClaim := { program := "ytdoaajmojfdjoaa", sum := "981c4147f756c3457e7a1353dff775d6cbd053d967fd1f238422096567fddde7", func := "loop.example/g01403/laws.FnExactValidSteps", spec := "fnExactValidSteps", inPlace := ["math.Float64bits", "math.Float64frombits"], unfollowed := true, recurses := true, apart := false, narrowed := true }
def FnExactValidStepsUptoSaid : Prop := fnExactValidStepsUptoRow.holds Try.pinned (OpenSpec.upto fnExactValidStepsSpec)

/-- 'laws.FnExactSameSteps', WHERE WHAT IT READS IS OF BULK AT MOST 1048576: true; the input reads as it did. -/
def fnExactSameStepsUptoRow : OpenClaim := { program := "ytdoaajmojfdjoaa", sum := "981c4147f756c3457e7a1353dff775d6cbd053d967fd1f238422096567fddde7", func := "loop.example/g01403/laws.FnExactSameSteps", spec := "fnExactSameSteps", inPlace := ["math.Float32bits"], apart := false, narrowed := true }
def FnExactSameStepsUptoSaid : Prop := fnExactSameStepsUptoRow.holds Try.pinned (OpenSpec.upto fnExactSameStepsSpec)

/-- 'laws.FnExactHeightAt', WHERE WHAT IT READS IS OF BULK AT MOST 1048576: true; the input reads as it did. -/
def fnExactHeightAtUptoRow : OpenClaim := { program := "ytdoaajmojfdjoaa", sum := "981c4147f756c3457e7a1353dff775d6cbd053d967fd1f238422096567fddde7", func := "loop.example/g01403/laws.FnExactHeightAt", spec := "fnExactHeightAt", inPlace := ["math.Float64bits", "math.Float64frombits"], unfollowed := true, recurses := true, apart := false, narrowed := true }
def FnExactHeightAtUptoSaid : Prop := fnExactHeightAtUptoRow.holds Try.pinned (OpenSpec.upto fnExactHeightAtSpec)

/-- 'laws.FnExactTurnSteps', WHERE WHAT IT READS IS OF BULK AT MOST 1048576: true; the input reads as it did. -/
def fnExactTurnStepsUptoRow : OpenClaim := { program := "ytdoaajmojfdjoaa", sum := "981c4147f756c3457e7a1353dff775d6cbd053d967fd1f238422096567fddde7", func := "loop.example/g01403/laws.FnExactTurnSteps", spec := "fnExactTurnSteps", inPlace := ["math.Float64bits", "math.Float64frombits"], unfollowed := true, recurses := true, apart := false, narrowed := true }
def FnExactTurnStepsUptoSaid : Prop := fnExactTurnStepsUptoRow.holds Try.pinned (OpenSpec.upto fnExactTurnStepsSpec)

/-- 'laws.FnExactJoinSteps', WHERE WHAT IT READS IS OF BULK AT MOST 1048576: true; the input reads as it did. -/
def fnExactJoinStepsUptoRow : OpenClaim := { program := "ytdoaajmojfdjoaa", sum := "981c4147f756c3457e7a1353dff775d6cbd053d967fd1f238422096567fddde7", func := "loop.example/g01403/laws.FnExactJoinSteps", spec := "fnExactJoinSteps", inPlace := ["math.Float32bits", "math.Float64bits", "math.Float64frombits"], unfollowed := true, recurses := true, apart := false, narrowed := true }
def FnExactJoinStepsUptoSaid : Prop := fnExactJoinStepsUptoRow.holds Try.pinned (OpenSpec.upto fnExactJoinStepsSpec)

/-- 'laws.FnExactBoxLevels', WHERE WHAT IT READS IS OF BULK AT MOST 1048576: true; the input reads as it did. -/
def fnExactBoxLevelsUptoRow : OpenClaim := { program := "ytdoaajmojfdjoaa", sum := "981c4147f756c3457e7a1353dff775d6cbd053d967fd1f238422096567fddde7", func := "loop.example/g01403/laws.FnExactBoxLevels", spec := "fnExactBoxLevels", inPlace := ["math.Float64bits", "math.Float64frombits"], unfollowed := true, recurses := true, apart := false, narrowed := true }
def FnExactBoxLevelsUptoSaid : Prop := fnExactBoxLevelsUptoRow.holds Try.pinned (OpenSpec.upto fnExactBoxLevelsSpec)

/-- 'laws.FnExactSwingLevels', WHERE WHAT IT READS IS OF BULK AT MOST 1048576: true; the input reads as it did. -/
def fnExactSwingLevelsUptoRow : OpenClaim := { program := "ytdoaajmojfdjoaa", sum := "981c4147f756c3457e7a1353dff775d6cbd053d967fd1f238422096567fddde7", func := "loop.example/g01403/laws.FnExactSwingLevels", spec := "fnExactSwingLevels", inPlace := ["math.Float64bits", "math.Float64frombits"], unfollowed := true, recurses := true, apart := false, narrowed := true }
def FnExactSwingLevelsUptoSaid : Prop := fnExactSwingLevelsUptoRow.holds Try.pinned (OpenSpec.upto fnExactSwingLevelsSpec)

/-- 'laws.FnExactBendLevels', WHERE WHAT IT READS IS OF BULK AT MOST 1048576: true; the input reads as it did. -/
def fnExactBendLevelsUptoRow : OpenClaim := { program := "ytdoaajmojfdjoaa", sum := "981c4147f756c3457e7a1353dff775d6cbd053d967fd1f238422096567fddde7", func := "loop.example/g01403/laws.FnExactBendLevels", spec := "fnExactBendLevels", inPlace := ["math.Float64bits", "math.Float64frombits"], apart := false, narrowed := true }
def FnExactBendLevelsUptoSaid : Prop := fnExactBendLevelsUptoRow.holds Try.pinned (OpenSpec.upto fnExactBendLevelsSpec)

/-- 'laws.FnExactWellCount', WHERE WHAT IT READS IS OF BULK AT MOST 1048576: true; the input reads as it did. -/
def fnExactWellCountUptoRow : OpenClaim := { program := "ytdoaajmojfdjoaa", sum := "981c4147f756c3457e7a1353dff775d6cbd053d967fd1f238422096567fddde7", func := "loop.example/g01403/laws.FnExactWellCount", spec := "fnExactWellCount", inPlace := ["math.sqrt", "math.Float64bits", "math.Float64frombits", "math.archCeil", "math.archFloor", "math.archTrunc"], apart := false, narrowed := true }
def FnExactWellCountUptoSaid : Prop := fnExactWellCountUptoRow.holds Try.pinned (OpenSpec.upto fnExactWellCountSpec)

/-- 'laws.FnExactGridRows', WHERE WHAT IT READS IS OF BULK AT MOST 1048576: true; the input reads as it did. -/
def fnExactGridRowsUptoRow : OpenClaim := { program := "ytdoaajmojfdjoaa", sum := "981c4147f756c3457e7a1353dff775d6cbd053d967fd1f238422096567fddde7", func := "loop.example/g01403/laws.FnExactGridRows", spec := "fnExactGridRows", inPlace := ["math.Float64bits", "math.Float64frombits"], unfollowed := true, recurses := true, apart := false, narrowed := true }
def FnExactGridRowsUptoSaid : Prop := fnExactGridRowsUptoRow.holds Try.pinned (OpenSpec.upto fnExactGridRowsSpec)

/-- 'laws.FnExactCountBelow', WHERE WHAT IT READS IS OF BULK AT MOST 1048576: true; the input reads as it did. -/
def fnExactCountBelowUptoRow : OpenClaim := { program := "ytdoaajmojfdjoaa", sum := "981c4147f756c3457e7a1353dff775d6cbd053d967fd1f238422096567fddde7", func := "loop.example/g01403/laws.FnExactCountBelow", spec := "fnExactCountBelow", inPlace := ["math.Float64bits", "math.Float64frombits"], unfollowed := true, recurses := true, apart := false, narrowed := true }
def FnExactCountBelowUptoSaid : Prop := fnExactCountBelowUptoRow.holds Try.pinned (OpenSpec.upto fnExactCountBelowSpec)

/-- 'laws.FnExactOverlapOf', WHERE WHAT IT READS IS OF BULK AT MOST 1048576: true; the input reads as it did. -/
def fnExactOverlapOfUptoRow : OpenClaim := { program := "ytdoaajmojfdjoaa", sum := "981c4147f756c3457e7a1353dff775d6cbd053d967fd1f238422096567fddde7", func := "loop.example/g01403/laws.FnExactOverlapOf", spec := "fnExactOverlapOf", inPlace := ["math.Float64bits", "math.Float64frombits"], unfollowed := true, recurses := true, apart := false, narrowed := true }
def FnExactOverlapOfUptoSaid : Prop := fnExactOverlapOfUptoRow.holds Try.pinned (OpenSpec.upto fnExactOverlapOfSpec)

end Rows
end Go.Proofs.Ytdoaajmojfdjoaa
