/-
  No cell of these rows narrows 'for every input' (looked for: loops, veiled, ifaces, maps, wideKeys, modest, calm, conditions, laid).
  DERIVED. THE GIVEN ROWS OF THIS SEAT. 12 by the template 'for every input the law returns true; each argument reads behind the call as it read before'; 0 by the template 'total and deterministic' (their statements: YtaobjilnbbpmeaaTotals.lean).
  GIVEN WITH THE SEED: the statements are not yours to turn. If you find one false, say at which input.
  Laid BY PROGRAM, IN A SANDBOX (cutbox-rows.mjs): the forced cells as the released guide's own fill.sh prints them over the translation f9fb0581f5ddff45… (all of the seat's roots in one cut). By AI agents, Wed Nov 11 2026. No macro, syntax, notation, axiom, sorry.
-/
import Derived.Test.YtaobjilnbbpmeaaChecked
import GoSem.Claim
import GoSem.ClaimJoined
import GoSem.ClaimMapViews
import Derived.JoinedTies
import Derived.KernelRfl
namespace Go.Proofs.Ytaobjilnbbpmeaa
/- THE CELL 'sum', in the pinned program and in every row, IS THE sha256 OF THE DUMP (.gsa) THAT YtaobjilnbbpmeaaProg.lean LOADS. Nothing in Lean hashes anything: it is a label: what it is worth is what the hold of that sum in a sandbox is worth. -/
noncomputable def Try.pinned : Pinned := { name := "ytaobjilnbbpmeaa", sum := "f9fb0581f5ddff45ca252a4597bc230e1e6392dc6356413c053bdfdabd20ad4a", checked := Try.checked }
namespace Rows
def none {H : Type} : Left H := { results := [], args := [] }

/-- 'laws.FnExactValidLine': WHATEVER THE INPUT: true; the input reads as it did. -/
def fnExactValidLineSpec : ChangeSpec := { name := "fnExactValidLine", fn := fun _ => fun
  | [d] => { results := [.lit (.bool true)], args := [d] }
  | _ => none }
def fnExactValidLineRow : OpenClaim := { program := "ytaobjilnbbpmeaa", sum := "f9fb0581f5ddff45ca252a4597bc230e1e6392dc6356413c053bdfdabd20ad4a", func := "loop.example/g01403/laws.FnExactValidLine", spec := "fnExactValidLine", inPlace := ["math.Float64bits", "math.Float64frombits"], unfollowed := true, recurses := true, apart := false }
def FnExactValidLineSaid : Prop := fnExactValidLineRow.holds Try.pinned (OpenSpec.ofChange fnExactValidLineSpec)

/-- ITS FALSE NEIGHBOUR: 'it returns false'. Refute it at one input. -/
def fnExactValidLineWrong : ChangeSpec := { name := "fnExactValidLine", fn := fun _ => fun
  | [d] => { results := [.lit (.bool false)], args := [d] }
  | _ => none }
def FnExactValidLineWrongFalsely : Prop := fnExactValidLineRow.holds Try.pinned (OpenSpec.ofChange fnExactValidLineWrong)

/-- 'laws.FnExactAreaOf': WHATEVER THE INPUT: true; the input reads as it did. -/
def fnExactAreaOfSpec : ChangeSpec := { name := "fnExactAreaOf", fn := fun _ => fun
  | [d] => { results := [.lit (.bool true)], args := [d] }
  | _ => none }
def fnExactAreaOfRow : OpenClaim := { program := "ytaobjilnbbpmeaa", sum := "f9fb0581f5ddff45ca252a4597bc230e1e6392dc6356413c053bdfdabd20ad4a", func := "loop.example/g01403/laws.FnExactAreaOf", spec := "fnExactAreaOf", inPlace := ["math.Float64bits", "math.Float64frombits"], unfollowed := true, recurses := true, apart := false }
def FnExactAreaOfSaid : Prop := fnExactAreaOfRow.holds Try.pinned (OpenSpec.ofChange fnExactAreaOfSpec)

/-- ITS FALSE NEIGHBOUR: 'it returns false'. Refute it at one input. -/
def fnExactAreaOfWrong : ChangeSpec := { name := "fnExactAreaOf", fn := fun _ => fun
  | [d] => { results := [.lit (.bool false)], args := [d] }
  | _ => none }
def FnExactAreaOfWrongFalsely : Prop := fnExactAreaOfRow.holds Try.pinned (OpenSpec.ofChange fnExactAreaOfWrong)

/-- 'laws.FnExactBlendLines': WHATEVER THE INPUT: true; the input reads as it did. -/
def fnExactBlendLinesSpec : ChangeSpec := { name := "fnExactBlendLines", fn := fun _ => fun
  | [d1, d2] => { results := [.lit (.bool true)], args := [d1, d2] }
  | _ => none }
def fnExactBlendLinesRow : OpenClaim := { program := "ytaobjilnbbpmeaa", sum := "f9fb0581f5ddff45ca252a4597bc230e1e6392dc6356413c053bdfdabd20ad4a", func := "loop.example/g01403/laws.FnExactBlendLines", spec := "fnExactBlendLines", inPlace := ["math.Float64bits", "math.Float64frombits"], unfollowed := true, recurses := true, apart := false }
def FnExactBlendLinesSaid : Prop := fnExactBlendLinesRow.holds Try.pinned (OpenSpec.ofChange fnExactBlendLinesSpec)

/-- ITS FALSE NEIGHBOUR: 'it returns false'. Refute it at one input. -/
def fnExactBlendLinesWrong : ChangeSpec := { name := "fnExactBlendLines", fn := fun _ => fun
  | [d1, d2] => { results := [.lit (.bool false)], args := [d1, d2] }
  | _ => none }
def FnExactBlendLinesWrongFalsely : Prop := fnExactBlendLinesRow.holds Try.pinned (OpenSpec.ofChange fnExactBlendLinesWrong)

/-- 'laws.FnExactBendOf': WHATEVER THE INPUT: true; the input reads as it did. -/
def fnExactBendOfSpec : ChangeSpec := { name := "fnExactBendOf", fn := fun _ => fun
  | [d] => { results := [.lit (.bool true)], args := [d] }
  | _ => none }
def fnExactBendOfRow : OpenClaim := { program := "ytaobjilnbbpmeaa", sum := "f9fb0581f5ddff45ca252a4597bc230e1e6392dc6356413c053bdfdabd20ad4a", func := "loop.example/g01403/laws.FnExactBendOf", spec := "fnExactBendOf", inPlace := ["math.Float64bits", "math.Float64frombits"], unfollowed := true, recurses := true, apart := false }
def FnExactBendOfSaid : Prop := fnExactBendOfRow.holds Try.pinned (OpenSpec.ofChange fnExactBendOfSpec)

/-- ITS FALSE NEIGHBOUR: 'it returns false'. Refute it at one input. -/
def fnExactBendOfWrong : ChangeSpec := { name := "fnExactBendOf", fn := fun _ => fun
  | [d] => { results := [.lit (.bool false)], args := [d] }
  | _ => none }
def FnExactBendOfWrongFalsely : Prop := fnExactBendOfRow.holds Try.pinned (OpenSpec.ofChange fnExactBendOfWrong)

/-- 'laws.FnExactBentPeaks': WHATEVER THE INPUT: true; the input reads as it did. -/
def fnExactBentPeaksSpec : ChangeSpec := { name := "fnExactBentPeaks", fn := fun _ => fun
  | [d1, d2] => { results := [.lit (.bool true)], args := [d1, d2] }
  | _ => none }
def fnExactBentPeaksRow : OpenClaim := { program := "ytaobjilnbbpmeaa", sum := "f9fb0581f5ddff45ca252a4597bc230e1e6392dc6356413c053bdfdabd20ad4a", func := "loop.example/g01403/laws.FnExactBentPeaks", spec := "fnExactBentPeaks", inPlace := ["math.Float64bits", "math.Float64frombits"], unfollowed := true, recurses := true, apart := false }
def FnExactBentPeaksSaid : Prop := fnExactBentPeaksRow.holds Try.pinned (OpenSpec.ofChange fnExactBentPeaksSpec)

/-- ITS FALSE NEIGHBOUR: 'it returns false'. Refute it at one input. -/
def fnExactBentPeaksWrong : ChangeSpec := { name := "fnExactBentPeaks", fn := fun _ => fun
  | [d1, d2] => { results := [.lit (.bool false)], args := [d1, d2] }
  | _ => none }
def FnExactBentPeaksWrongFalsely : Prop := fnExactBentPeaksRow.holds Try.pinned (OpenSpec.ofChange fnExactBentPeaksWrong)

/-- 'laws.FnExactHalfWidth': WHATEVER THE INPUT: true; the input reads as it did. -/
def fnExactHalfWidthSpec : ChangeSpec := { name := "fnExactHalfWidth", fn := fun _ => fun
  | [d1, d2] => { results := [.lit (.bool true)], args := [d1, d2] }
  | _ => none }
def fnExactHalfWidthRow : OpenClaim := { program := "ytaobjilnbbpmeaa", sum := "f9fb0581f5ddff45ca252a4597bc230e1e6392dc6356413c053bdfdabd20ad4a", func := "loop.example/g01403/laws.FnExactHalfWidth", spec := "fnExactHalfWidth", inPlace := ["math.Float64bits", "math.Float64frombits"], unfollowed := true, recurses := true, apart := false }
def FnExactHalfWidthSaid : Prop := fnExactHalfWidthRow.holds Try.pinned (OpenSpec.ofChange fnExactHalfWidthSpec)

/-- ITS FALSE NEIGHBOUR: 'it returns false'. Refute it at one input. -/
def fnExactHalfWidthWrong : ChangeSpec := { name := "fnExactHalfWidth", fn := fun _ => fun
  | [d1, d2] => { results := [.lit (.bool false)], args := [d1, d2] }
  | _ => none }
def FnExactHalfWidthWrongFalsely : Prop := fnExactHalfWidthRow.holds Try.pinned (OpenSpec.ofChange fnExactHalfWidthWrong)

/-- 'laws.FnExactDifferencesOf': WHATEVER THE INPUT: true; the input reads as it did. -/
def fnExactDifferencesOfSpec : ChangeSpec := { name := "fnExactDifferencesOf", fn := fun _ => fun
  | [d1, d2] => { results := [.lit (.bool true)], args := [d1, d2] }
  | _ => none }
def fnExactDifferencesOfRow : OpenClaim := { program := "ytaobjilnbbpmeaa", sum := "f9fb0581f5ddff45ca252a4597bc230e1e6392dc6356413c053bdfdabd20ad4a", func := "loop.example/g01403/laws.FnExactDifferencesOf", spec := "fnExactDifferencesOf", inPlace := ["math.Float64bits", "math.Float64frombits"], unfollowed := true, recurses := true, apart := false }
def FnExactDifferencesOfSaid : Prop := fnExactDifferencesOfRow.holds Try.pinned (OpenSpec.ofChange fnExactDifferencesOfSpec)

/-- ITS FALSE NEIGHBOUR: 'it returns false'. Refute it at one input. -/
def fnExactDifferencesOfWrong : ChangeSpec := { name := "fnExactDifferencesOf", fn := fun _ => fun
  | [d1, d2] => { results := [.lit (.bool false)], args := [d1, d2] }
  | _ => none }
def FnExactDifferencesOfWrongFalsely : Prop := fnExactDifferencesOfRow.holds Try.pinned (OpenSpec.ofChange fnExactDifferencesOfWrong)

/-- 'laws.FnExactLadderFit': WHATEVER THE INPUT: true; the input reads as it did. -/
def fnExactLadderFitSpec : ChangeSpec := { name := "fnExactLadderFit", fn := fun _ => fun
  | [d] => { results := [.lit (.bool true)], args := [d] }
  | _ => none }
def fnExactLadderFitRow : OpenClaim := { program := "ytaobjilnbbpmeaa", sum := "f9fb0581f5ddff45ca252a4597bc230e1e6392dc6356413c053bdfdabd20ad4a", func := "loop.example/g01403/laws.FnExactLadderFit", spec := "fnExactLadderFit", inPlace := ["math.Float64bits", "math.Float64frombits"], unfollowed := true, recurses := true, apart := false }
def FnExactLadderFitSaid : Prop := fnExactLadderFitRow.holds Try.pinned (OpenSpec.ofChange fnExactLadderFitSpec)

/-- ITS FALSE NEIGHBOUR: 'it returns false'. Refute it at one input. -/
def fnExactLadderFitWrong : ChangeSpec := { name := "fnExactLadderFit", fn := fun _ => fun
  | [d] => { results := [.lit (.bool false)], args := [d] }
  | _ => none }
def FnExactLadderFitWrongFalsely : Prop := fnExactLadderFitRow.holds Try.pinned (OpenSpec.ofChange fnExactLadderFitWrong)

/-- 'laws.FnExactLadderNext': WHATEVER THE INPUT: true; the input reads as it did. -/
def fnExactLadderNextSpec : ChangeSpec := { name := "fnExactLadderNext", fn := fun _ => fun
  | [d] => { results := [.lit (.bool true)], args := [d] }
  | _ => none }
def fnExactLadderNextRow : OpenClaim := { program := "ytaobjilnbbpmeaa", sum := "f9fb0581f5ddff45ca252a4597bc230e1e6392dc6356413c053bdfdabd20ad4a", func := "loop.example/g01403/laws.FnExactLadderNext", spec := "fnExactLadderNext", inPlace := ["math.Float64bits", "math.Float64frombits"], unfollowed := true, recurses := true, apart := false }
def FnExactLadderNextSaid : Prop := fnExactLadderNextRow.holds Try.pinned (OpenSpec.ofChange fnExactLadderNextSpec)

/-- ITS FALSE NEIGHBOUR: 'it returns false'. Refute it at one input. -/
def fnExactLadderNextWrong : ChangeSpec := { name := "fnExactLadderNext", fn := fun _ => fun
  | [d] => { results := [.lit (.bool false)], args := [d] }
  | _ => none }
def FnExactLadderNextWrongFalsely : Prop := fnExactLadderNextRow.holds Try.pinned (OpenSpec.ofChange fnExactLadderNextWrong)

/-- 'laws.FnExactCriterionOf': WHATEVER THE INPUT: true; the input reads as it did. -/
def fnExactCriterionOfSpec : ChangeSpec := { name := "fnExactCriterionOf", fn := fun _ => fun
  | [d1, d2, d3] => { results := [.lit (.bool true)], args := [d1, d2, d3] }
  | _ => none }
def fnExactCriterionOfRow : OpenClaim := { program := "ytaobjilnbbpmeaa", sum := "f9fb0581f5ddff45ca252a4597bc230e1e6392dc6356413c053bdfdabd20ad4a", func := "loop.example/g01403/laws.FnExactCriterionOf", spec := "fnExactCriterionOf", inPlace := ["math.Float64frombits", "math.Float64bits"], apart := false }
def FnExactCriterionOfSaid : Prop := fnExactCriterionOfRow.holds Try.pinned (OpenSpec.ofChange fnExactCriterionOfSpec)

/-- ITS FALSE NEIGHBOUR: 'it returns false'. Refute it at one input. -/
def fnExactCriterionOfWrong : ChangeSpec := { name := "fnExactCriterionOf", fn := fun _ => fun
  | [d1, d2, d3] => { results := [.lit (.bool false)], args := [d1, d2, d3] }
  | _ => none }
def FnExactCriterionOfWrongFalsely : Prop := fnExactCriterionOfRow.holds Try.pinned (OpenSpec.ofChange fnExactCriterionOfWrong)

/-- 'laws.FnExactPeaksOf': WHATEVER THE INPUT: true; the input reads as it did. -/
def fnExactPeaksOfSpec : ChangeSpec := { name := "fnExactPeaksOf", fn := fun _ => fun
  | [d1, d2, d3] => { results := [.lit (.bool true)], args := [d1, d2, d3] }
  | _ => none }
def fnExactPeaksOfRow : OpenClaim := { program := "ytaobjilnbbpmeaa", sum := "f9fb0581f5ddff45ca252a4597bc230e1e6392dc6356413c053bdfdabd20ad4a", func := "loop.example/g01403/laws.FnExactPeaksOf", spec := "fnExactPeaksOf", inPlace := ["math.Float64bits", "math.Float64frombits"], unfollowed := true, recurses := true, apart := false }
def FnExactPeaksOfSaid : Prop := fnExactPeaksOfRow.holds Try.pinned (OpenSpec.ofChange fnExactPeaksOfSpec)

/-- ITS FALSE NEIGHBOUR: 'it returns false'. Refute it at one input. -/
def fnExactPeaksOfWrong : ChangeSpec := { name := "fnExactPeaksOf", fn := fun _ => fun
  | [d1, d2, d3] => { results := [.lit (.bool false)], args := [d1, d2, d3] }
  | _ => none }
def FnExactPeaksOfWrongFalsely : Prop := fnExactPeaksOfRow.holds Try.pinned (OpenSpec.ofChange fnExactPeaksOfWrong)

/-- 'laws.FnExactMatchLines': WHATEVER THE INPUT: true; the input reads as it did. -/
def fnExactMatchLinesSpec : ChangeSpec := { name := "fnExactMatchLines", fn := fun _ => fun
  | [d1, d2, d3] => { results := [.lit (.bool true)], args := [d1, d2, d3] }
  | _ => none }
def fnExactMatchLinesRow : OpenClaim := { program := "ytaobjilnbbpmeaa", sum := "f9fb0581f5ddff45ca252a4597bc230e1e6392dc6356413c053bdfdabd20ad4a", func := "loop.example/g01403/laws.FnExactMatchLines", spec := "fnExactMatchLines", inPlace := ["math.Float64bits", "math.Float64frombits"], unfollowed := true, recurses := true, apart := false }
def FnExactMatchLinesSaid : Prop := fnExactMatchLinesRow.holds Try.pinned (OpenSpec.ofChange fnExactMatchLinesSpec)

/-- ITS FALSE NEIGHBOUR: 'it returns false'. Refute it at one input. -/
def fnExactMatchLinesWrong : ChangeSpec := { name := "fnExactMatchLines", fn := fun _ => fun
  | [d1, d2, d3] => { results := [.lit (.bool false)], args := [d1, d2, d3] }
  | _ => none }
def FnExactMatchLinesWrongFalsely : Prop := fnExactMatchLinesRow.holds Try.pinned (OpenSpec.ofChange fnExactMatchLinesWrong)

/- THE SECOND FORM. 'bulk': how many values and letters a reading holds, each counted each time it is reached (what is shared counts as often as it is met; a slice's spare places count too). A statement '..UptoSaid' is the law's where the arguments, and the package variables that the reading takes, are together of bulk at most 1048576: NARROWER than '..Said'. Prove '..Said' where nothing that the law and all that it calls make is longer than what came in: it says more and counts as full. Else prove '..UptoSaid'. A law counts once. -/
mutual
def uptoBulk {H : Type} : DataW H → Nat
  | .lit (.string bytes) => bytes.length + 1
  | .lit _ => 1
  | .nil => 1
  | .ptr d => uptoBulk d + 1
  | .slice elems spare => uptoBulkAll elems + uptoBulkAll spare + 1
  | .agg parts => uptoBulkAll parts + 1
  | .iface _ d => uptoBulk d + 1
  | .map entries => uptoBulkEntries entries + 1
  | .held _ => 1
def uptoBulkAll {H : Type} : List (DataW H) → Nat
  | [] => 0
  | d :: r => uptoBulk d + uptoBulkAll r
def uptoBulkEntries {H : Type} : List (Lit × DataW H) → Nat
  | [] => 0
  | x :: r => uptoBulkEntry x + uptoBulkEntries r
def uptoBulkEntry {H : Type} : Lit × DataW H → Nat
  | (.string bytes, d) => bytes.length + uptoBulk d + 1
  | (_, d) => uptoBulk d + 1
 end
def uptoSmall : (H : Type) → List (DataW H) → Bool := fun _ ds => decide (uptoBulkAll ds ≤ 1048576)
def OpenSpec.upto (s : _root_.Go.ChangeSpec) : _root_.Go.OpenSpec := { _root_.Go.OpenSpec.ofChange s with cond := some uptoSmall }

/-- 'laws.FnExactValidLine', WHERE WHAT IT READS IS OF BULK AT MOST 1048576: true; the input reads as it did. -/
def fnExactValidLineUptoRow : OpenClaim := { program := "ytaobjilnbbpmeaa", sum := "f9fb0581f5ddff45ca252a4597bc230e1e6392dc6356413c053bdfdabd20ad4a", func := "loop.example/g01403/laws.FnExactValidLine", spec := "fnExactValidLine", inPlace := ["math.Float64bits", "math.Float64frombits"], unfollowed := true, recurses := true, apart := false, narrowed := true }
def FnExactValidLineUptoSaid : Prop := fnExactValidLineUptoRow.holds Try.pinned (OpenSpec.upto fnExactValidLineSpec)

/-- 'laws.FnExactAreaOf', WHERE WHAT IT READS IS OF BULK AT MOST 1048576: true; the input reads as it did. -/
def fnExactAreaOfUptoRow : OpenClaim := { program := "ytaobjilnbbpmeaa", sum := "f9fb0581f5ddff45ca252a4597bc230e1e6392dc6356413c053bdfdabd20ad4a", func := "loop.example/g01403/laws.FnExactAreaOf", spec := "fnExactAreaOf", inPlace := ["math.Float64bits", "math.Float64frombits"], unfollowed := true, recurses := true, apart := false, narrowed := true }
def FnExactAreaOfUptoSaid : Prop := fnExactAreaOfUptoRow.holds Try.pinned (OpenSpec.upto fnExactAreaOfSpec)

/-- 'laws.FnExactBlendLines', WHERE WHAT IT READS IS OF BULK AT MOST 1048576: true; the input reads as it did. -/
def fnExactBlendLinesUptoRow : OpenClaim := { program := "ytaobjilnbbpmeaa", sum := "f9fb0581f5ddff45ca252a4597bc230e1e6392dc6356413c053bdfdabd20ad4a", func := "loop.example/g01403/laws.FnExactBlendLines", spec := "fnExactBlendLines", inPlace := ["math.Float64bits", "math.Float64frombits"], unfollowed := true, recurses := true, apart := false, narrowed := true }
def FnExactBlendLinesUptoSaid : Prop := fnExactBlendLinesUptoRow.holds Try.pinned (OpenSpec.upto fnExactBlendLinesSpec)

/-- 'laws.FnExactBendOf', WHERE WHAT IT READS IS OF BULK AT MOST 1048576: true; the input reads as it did. -/
def fnExactBendOfUptoRow : OpenClaim := { program := "ytaobjilnbbpmeaa", sum := "f9fb0581f5ddff45ca252a4597bc230e1e6392dc6356413c053bdfdabd20ad4a", func := "loop.example/g01403/laws.FnExactBendOf", spec := "fnExactBendOf", inPlace := ["math.Float64bits", "math.Float64frombits"], unfollowed := true, recurses := true, apart := false, narrowed := true }
def FnExactBendOfUptoSaid : Prop := fnExactBendOfUptoRow.holds Try.pinned (OpenSpec.upto fnExactBendOfSpec)

/-- 'laws.FnExactBentPeaks', WHERE WHAT IT READS IS OF BULK AT MOST 1048576: true; the input reads as it did. -/
def fnExactBentPeaksUptoRow : OpenClaim := { program := "ytaobjilnbbpmeaa", sum := "f9fb0581f5ddff45ca252a4597bc230e1e6392dc6356413c053bdfdabd20ad4a", func := "loop.example/g01403/laws.FnExactBentPeaks", spec := "fnExactBentPeaks", inPlace := ["math.Float64bits", "math.Float64frombits"], unfollowed := true, recurses := true, apart := false, narrowed := true }
def FnExactBentPeaksUptoSaid : Prop := fnExactBentPeaksUptoRow.holds Try.pinned (OpenSpec.upto fnExactBentPeaksSpec)

/-- 'laws.FnExactHalfWidth', WHERE WHAT IT READS IS OF BULK AT MOST 1048576: true; the input reads as it did. -/
def fnExactHalfWidthUptoRow : OpenClaim := { program := "ytaobjilnbbpmeaa", sum := "f9fb0581f5ddff45ca252a4597bc230e1e6392dc6356413c053bdfdabd20ad4a", func := "loop.example/g01403/laws.FnExactHalfWidth", spec := "fnExactHalfWidth", inPlace := ["math.Float64bits", "math.Float64frombits"], unfollowed := true, recurses := true, apart := false, narrowed := true }
def FnExactHalfWidthUptoSaid : Prop := fnExactHalfWidthUptoRow.holds Try.pinned (OpenSpec.upto fnExactHalfWidthSpec)

/-- 'laws.FnExactDifferencesOf', WHERE WHAT IT READS IS OF BULK AT MOST 1048576: true; the input reads as it did. -/
def fnExactDifferencesOfUptoRow : OpenClaim := { program := "ytaobjilnbbpmeaa", sum := "f9fb0581f5ddff45ca252a4597bc230e1e6392dc6356413c053bdfdabd20ad4a", func := "loop.example/g01403/laws.FnExactDifferencesOf", spec := "fnExactDifferencesOf", inPlace := ["math.Float64bits", "math.Float64frombits"], unfollowed := true, recurses := true, apart := false, narrowed := true }
def FnExactDifferencesOfUptoSaid : Prop := fnExactDifferencesOfUptoRow.holds Try.pinned (OpenSpec.upto fnExactDifferencesOfSpec)

/-- 'laws.FnExactLadderFit', WHERE WHAT IT READS IS OF BULK AT MOST 1048576: true; the input reads as it did. -/
def fnExactLadderFitUptoRow : OpenClaim := { program := "ytaobjilnbbpmeaa", sum := "f9fb0581f5ddff45ca252a4597bc230e1e6392dc6356413c053bdfdabd20ad4a", func := "loop.example/g01403/laws.FnExactLadderFit", spec := "fnExactLadderFit", inPlace := ["math.Float64bits", "math.Float64frombits"], unfollowed := true, recurses := true, apart := false, narrowed := true }
def FnExactLadderFitUptoSaid : Prop := fnExactLadderFitUptoRow.holds Try.pinned (OpenSpec.upto fnExactLadderFitSpec)

/-- 'laws.FnExactLadderNext', WHERE WHAT IT READS IS OF BULK AT MOST 1048576: true; the input reads as it did. -/
def fnExactLadderNextUptoRow : OpenClaim := { program := "ytaobjilnbbpmeaa", sum := "f9fb0581f5ddff45ca252a4597bc230e1e6392dc6356413c053bdfdabd20ad4a", func := "loop.example/g01403/laws.FnExactLadderNext", spec := "fnExactLadderNext", inPlace := ["math.Float64bits", "math.Float64frombits"], unfollowed := true, recurses := true, apart := false, narrowed := true }
def FnExactLadderNextUptoSaid : Prop := fnExactLadderNextUptoRow.holds Try.pinned (OpenSpec.upto fnExactLadderNextSpec)

/-- 'laws.FnExactCriterionOf', WHERE WHAT IT READS IS OF BULK AT MOST 1048576: true; the input reads as it did. -/
def fnExactCriterionOfUptoRow : OpenClaim := { program := "ytaobjilnbbpmeaa", sum := "f9fb0581f5ddff45ca252a4597bc230e1e6392dc6356413c053bdfdabd20ad4a", func := "loop.example/g01403/laws.FnExactCriterionOf", spec := "fnExactCriterionOf", inPlace := ["math.Float64frombits", "math.Float64bits"], apart := false, narrowed := true }
def FnExactCriterionOfUptoSaid : Prop := fnExactCriterionOfUptoRow.holds Try.pinned (OpenSpec.upto fnExactCriterionOfSpec)

/-- 'laws.FnExactPeaksOf', WHERE WHAT IT READS IS OF BULK AT MOST 1048576: true; the input reads as it did. -/
def fnExactPeaksOfUptoRow : OpenClaim := { program := "ytaobjilnbbpmeaa", sum := "f9fb0581f5ddff45ca252a4597bc230e1e6392dc6356413c053bdfdabd20ad4a", func := "loop.example/g01403/laws.FnExactPeaksOf", spec := "fnExactPeaksOf", inPlace := ["math.Float64bits", "math.Float64frombits"], unfollowed := true, recurses := true, apart := false, narrowed := true }
def FnExactPeaksOfUptoSaid : Prop := fnExactPeaksOfUptoRow.holds Try.pinned (OpenSpec.upto fnExactPeaksOfSpec)

/-- 'laws.FnExactMatchLines', WHERE WHAT IT READS IS OF BULK AT MOST 1048576: true; the input reads as it did. -/
def fnExactMatchLinesUptoRow : OpenClaim := { program := "ytaobjilnbbpmeaa", sum := "f9fb0581f5ddff45ca252a4597bc230e1e6392dc6356413c053bdfdabd20ad4a", func := "loop.example/g01403/laws.FnExactMatchLines", spec := "fnExactMatchLines", inPlace := ["math.Float64bits", "math.Float64frombits"], unfollowed := true, recurses := true, apart := false, narrowed := true }
def FnExactMatchLinesUptoSaid : Prop := fnExactMatchLinesUptoRow.holds Try.pinned (OpenSpec.upto fnExactMatchLinesSpec)

end Rows
end Go.Proofs.Ytaobjilnbbpmeaa
