/-
  No cell of these rows narrows 'for every input' (looked for: loops, veiled, ifaces, maps, wideKeys, modest, calm, conditions, laid).
  DERIVED. THE GIVEN ROWS OF THIS SEAT. 12 by the template 'for every input the law returns true; each argument reads behind the call as it read before'; 0 by the template 'total and deterministic' (their statements: YtehlflldnihamaaTotals.lean).
  GIVEN WITH THE SEED: the statements are not yours to turn. If you find one false, say at which input.
  Laid BY PROGRAM, IN A SANDBOX (cutbox-rows.mjs): the forced cells as the released guide's own fill.sh prints them over the translation 335588714008e72f… (all of the seat's roots in one cut). By AI agents, Wed Nov 11 2026. No macro, syntax, notation, axiom, sorry.
-/
import Derived.Test.YtehlflldnihamaaChecked
import GoSem.Claim
import GoSem.ClaimJoined
import GoSem.ClaimMapViews
import Derived.JoinedTies
import Derived.KernelRfl
namespace Go.Proofs.Ytehlflldnihamaa
/- THE CELL 'sum', in the pinned program and in every row, IS THE sha256 OF THE DUMP (.gsa) THAT YtehlflldnihamaaProg.lean LOADS. Nothing in Lean hashes anything: it is a label: what it is worth is what the hold of that sum in a sandbox is worth. -/
noncomputable def Try.pinned : Pinned := { name := "ytehlflldnihamaa", sum := "335588714008e72f8c7ab5538d1f9ab08f5c0f48144230bcb791a120ad6989f3", checked := Try.checked }
namespace Rows
def none {H : Type} : Left H := { results := [], args := [] }

/-- 'laws.FnExactNormalOf': WHATEVER THE INPUT: true; the input reads as it did. -/
def fnExactNormalOfSpec : ChangeSpec := { name := "fnExactNormalOf", fn := fun _ => fun
  | [d] => { results := [.lit (.bool true)], args := [d] }
  | _ => none }
def fnExactNormalOfRow : OpenClaim := { program := "ytehlflldnihamaa", sum := "335588714008e72f8c7ab5538d1f9ab08f5c0f48144230bcb791a120ad6989f3", func := "loop.example/g01403/laws.FnExactNormalOf", spec := "fnExactNormalOf", inPlace := ["math.sqrt", "math.Float64bits", "math.Float64frombits"], unfollowed := true, recurses := true, apart := false }
def FnExactNormalOfSaid : Prop := fnExactNormalOfRow.holds Try.pinned (OpenSpec.ofChange fnExactNormalOfSpec)

/-- ITS FALSE NEIGHBOUR: 'it returns false'. Refute it at one input. -/
def fnExactNormalOfWrong : ChangeSpec := { name := "fnExactNormalOf", fn := fun _ => fun
  | [d] => { results := [.lit (.bool false)], args := [d] }
  | _ => none }
def FnExactNormalOfWrongFalsely : Prop := fnExactNormalOfRow.holds Try.pinned (OpenSpec.ofChange fnExactNormalOfWrong)

/-- 'laws.FnExactScaledOf': WHATEVER THE INPUT: true; the input reads as it did. -/
def fnExactScaledOfSpec : ChangeSpec := { name := "fnExactScaledOf", fn := fun _ => fun
  | [d] => { results := [.lit (.bool true)], args := [d] }
  | _ => none }
def fnExactScaledOfRow : OpenClaim := { program := "ytehlflldnihamaa", sum := "335588714008e72f8c7ab5538d1f9ab08f5c0f48144230bcb791a120ad6989f3", func := "loop.example/g01403/laws.FnExactScaledOf", spec := "fnExactScaledOf", inPlace := ["math.Float64bits", "math.Float64frombits"], unfollowed := true, recurses := true, apart := false }
def FnExactScaledOfSaid : Prop := fnExactScaledOfRow.holds Try.pinned (OpenSpec.ofChange fnExactScaledOfSpec)

/-- ITS FALSE NEIGHBOUR: 'it returns false'. Refute it at one input. -/
def fnExactScaledOfWrong : ChangeSpec := { name := "fnExactScaledOf", fn := fun _ => fun
  | [d] => { results := [.lit (.bool false)], args := [d] }
  | _ => none }
def FnExactScaledOfWrongFalsely : Prop := fnExactScaledOfRow.holds Try.pinned (OpenSpec.ofChange fnExactScaledOfWrong)

/-- 'laws.FnExactSmoothMean': WHATEVER THE INPUT: true; the input reads as it did. -/
def fnExactSmoothMeanSpec : ChangeSpec := { name := "fnExactSmoothMean", fn := fun _ => fun
  | [d1, d2] => { results := [.lit (.bool true)], args := [d1, d2] }
  | _ => none }
def fnExactSmoothMeanRow : OpenClaim := { program := "ytehlflldnihamaa", sum := "335588714008e72f8c7ab5538d1f9ab08f5c0f48144230bcb791a120ad6989f3", func := "loop.example/g01403/laws.FnExactSmoothMean", spec := "fnExactSmoothMean", inPlace := ["math.Float64bits", "math.Float64frombits"], unfollowed := true, recurses := true, apart := false }
def FnExactSmoothMeanSaid : Prop := fnExactSmoothMeanRow.holds Try.pinned (OpenSpec.ofChange fnExactSmoothMeanSpec)

/-- ITS FALSE NEIGHBOUR: 'it returns false'. Refute it at one input. -/
def fnExactSmoothMeanWrong : ChangeSpec := { name := "fnExactSmoothMean", fn := fun _ => fun
  | [d1, d2] => { results := [.lit (.bool false)], args := [d1, d2] }
  | _ => none }
def FnExactSmoothMeanWrongFalsely : Prop := fnExactSmoothMeanRow.holds Try.pinned (OpenSpec.ofChange fnExactSmoothMeanWrong)

/-- 'laws.FnExactSmoothCurve': WHATEVER THE INPUT: true; the input reads as it did. -/
def fnExactSmoothCurveSpec : ChangeSpec := { name := "fnExactSmoothCurve", fn := fun _ => fun
  | [d] => { results := [.lit (.bool true)], args := [d] }
  | _ => none }
def fnExactSmoothCurveRow : OpenClaim := { program := "ytehlflldnihamaa", sum := "335588714008e72f8c7ab5538d1f9ab08f5c0f48144230bcb791a120ad6989f3", func := "loop.example/g01403/laws.FnExactSmoothCurve", spec := "fnExactSmoothCurve", inPlace := ["math.Float64bits", "math.Float64frombits"], unfollowed := true, recurses := true, apart := false }
def FnExactSmoothCurveSaid : Prop := fnExactSmoothCurveRow.holds Try.pinned (OpenSpec.ofChange fnExactSmoothCurveSpec)

/-- ITS FALSE NEIGHBOUR: 'it returns false'. Refute it at one input. -/
def fnExactSmoothCurveWrong : ChangeSpec := { name := "fnExactSmoothCurve", fn := fun _ => fun
  | [d] => { results := [.lit (.bool false)], args := [d] }
  | _ => none }
def FnExactSmoothCurveWrongFalsely : Prop := fnExactSmoothCurveRow.holds Try.pinned (OpenSpec.ofChange fnExactSmoothCurveWrong)

/-- 'laws.FnExactLessBase': WHATEVER THE INPUT: true; the input reads as it did. -/
def fnExactLessBaseSpec : ChangeSpec := { name := "fnExactLessBase", fn := fun _ => fun
  | [d1, d2] => { results := [.lit (.bool true)], args := [d1, d2] }
  | _ => none }
def fnExactLessBaseRow : OpenClaim := { program := "ytehlflldnihamaa", sum := "335588714008e72f8c7ab5538d1f9ab08f5c0f48144230bcb791a120ad6989f3", func := "loop.example/g01403/laws.FnExactLessBase", spec := "fnExactLessBase", inPlace := ["math.Float64bits", "math.Float64frombits"], unfollowed := true, recurses := true, apart := false }
def FnExactLessBaseSaid : Prop := fnExactLessBaseRow.holds Try.pinned (OpenSpec.ofChange fnExactLessBaseSpec)

/-- ITS FALSE NEIGHBOUR: 'it returns false'. Refute it at one input. -/
def fnExactLessBaseWrong : ChangeSpec := { name := "fnExactLessBase", fn := fun _ => fun
  | [d1, d2] => { results := [.lit (.bool false)], args := [d1, d2] }
  | _ => none }
def FnExactLessBaseWrongFalsely : Prop := fnExactLessBaseRow.holds Try.pinned (OpenSpec.ofChange fnExactLessBaseWrong)

/-- 'laws.FnExactShiftList': WHATEVER THE INPUT: true; the input reads as it did. -/
def fnExactShiftListSpec : ChangeSpec := { name := "fnExactShiftList", fn := fun _ => fun
  | [d1, d2] => { results := [.lit (.bool true)], args := [d1, d2] }
  | _ => none }
def fnExactShiftListRow : OpenClaim := { program := "ytehlflldnihamaa", sum := "335588714008e72f8c7ab5538d1f9ab08f5c0f48144230bcb791a120ad6989f3", func := "loop.example/g01403/laws.FnExactShiftList", spec := "fnExactShiftList", inPlace := ["math.Float64bits", "math.Float64frombits"], unfollowed := true, recurses := true, apart := false }
def FnExactShiftListSaid : Prop := fnExactShiftListRow.holds Try.pinned (OpenSpec.ofChange fnExactShiftListSpec)

/-- ITS FALSE NEIGHBOUR: 'it returns false'. Refute it at one input. -/
def fnExactShiftListWrong : ChangeSpec := { name := "fnExactShiftList", fn := fun _ => fun
  | [d1, d2] => { results := [.lit (.bool false)], args := [d1, d2] }
  | _ => none }
def FnExactShiftListWrongFalsely : Prop := fnExactShiftListRow.holds Try.pinned (OpenSpec.ofChange fnExactShiftListWrong)

/-- 'laws.FnExactAtSteps': WHATEVER THE INPUT: true; the input reads as it did. -/
def fnExactAtStepsSpec : ChangeSpec := { name := "fnExactAtSteps", fn := fun _ => fun
  | [d1, d2, d3, d4] => { results := [.lit (.bool true)], args := [d1, d2, d3, d4] }
  | _ => none }
def fnExactAtStepsRow : OpenClaim := { program := "ytehlflldnihamaa", sum := "335588714008e72f8c7ab5538d1f9ab08f5c0f48144230bcb791a120ad6989f3", func := "loop.example/g01403/laws.FnExactAtSteps", spec := "fnExactAtSteps", inPlace := ["math.Float64bits", "math.Float64frombits"], unfollowed := true, recurses := true, apart := false }
def FnExactAtStepsSaid : Prop := fnExactAtStepsRow.holds Try.pinned (OpenSpec.ofChange fnExactAtStepsSpec)

/-- ITS FALSE NEIGHBOUR: 'it returns false'. Refute it at one input. -/
def fnExactAtStepsWrong : ChangeSpec := { name := "fnExactAtSteps", fn := fun _ => fun
  | [d1, d2, d3, d4] => { results := [.lit (.bool false)], args := [d1, d2, d3, d4] }
  | _ => none }
def FnExactAtStepsWrongFalsely : Prop := fnExactAtStepsRow.holds Try.pinned (OpenSpec.ofChange fnExactAtStepsWrong)

/-- 'laws.FnExactLikeOf': WHATEVER THE INPUT: true; the input reads as it did. -/
def fnExactLikeOfSpec : ChangeSpec := { name := "fnExactLikeOf", fn := fun _ => fun
  | [d1, d2] => { results := [.lit (.bool true)], args := [d1, d2] }
  | _ => none }
def fnExactLikeOfRow : OpenClaim := { program := "ytehlflldnihamaa", sum := "335588714008e72f8c7ab5538d1f9ab08f5c0f48144230bcb791a120ad6989f3", func := "loop.example/g01403/laws.FnExactLikeOf", spec := "fnExactLikeOf", inPlace := ["math.sqrt", "math.Float64bits", "math.Float64frombits"], unfollowed := true, recurses := true, apart := false }
def FnExactLikeOfSaid : Prop := fnExactLikeOfRow.holds Try.pinned (OpenSpec.ofChange fnExactLikeOfSpec)

/-- ITS FALSE NEIGHBOUR: 'it returns false'. Refute it at one input. -/
def fnExactLikeOfWrong : ChangeSpec := { name := "fnExactLikeOf", fn := fun _ => fun
  | [d1, d2] => { results := [.lit (.bool false)], args := [d1, d2] }
  | _ => none }
def FnExactLikeOfWrongFalsely : Prop := fnExactLikeOfRow.holds Try.pinned (OpenSpec.ofChange fnExactLikeOfWrong)

/-- 'laws.FnExactFarOf': WHATEVER THE INPUT: true; the input reads as it did. -/
def fnExactFarOfSpec : ChangeSpec := { name := "fnExactFarOf", fn := fun _ => fun
  | [d1, d2] => { results := [.lit (.bool true)], args := [d1, d2] }
  | _ => none }
def fnExactFarOfRow : OpenClaim := { program := "ytehlflldnihamaa", sum := "335588714008e72f8c7ab5538d1f9ab08f5c0f48144230bcb791a120ad6989f3", func := "loop.example/g01403/laws.FnExactFarOf", spec := "fnExactFarOf", inPlace := ["math.sqrt", "math.Float64bits", "math.Float64frombits"], unfollowed := true, recurses := true, apart := false }
def FnExactFarOfSaid : Prop := fnExactFarOfRow.holds Try.pinned (OpenSpec.ofChange fnExactFarOfSpec)

/-- ITS FALSE NEIGHBOUR: 'it returns false'. Refute it at one input. -/
def fnExactFarOfWrong : ChangeSpec := { name := "fnExactFarOf", fn := fun _ => fun
  | [d1, d2] => { results := [.lit (.bool false)], args := [d1, d2] }
  | _ => none }
def FnExactFarOfWrongFalsely : Prop := fnExactFarOfRow.holds Try.pinned (OpenSpec.ofChange fnExactFarOfWrong)

/-- 'laws.FnExactPartsOfOne': WHATEVER THE INPUT: true; the input reads as it did. -/
def fnExactPartsOfOneSpec : ChangeSpec := { name := "fnExactPartsOfOne", fn := fun _ => fun
  | [d] => { results := [.lit (.bool true)], args := [d] }
  | _ => none }
def fnExactPartsOfOneRow : OpenClaim := { program := "ytehlflldnihamaa", sum := "335588714008e72f8c7ab5538d1f9ab08f5c0f48144230bcb791a120ad6989f3", func := "loop.example/g01403/laws.FnExactPartsOfOne", spec := "fnExactPartsOfOne", inPlace := ["math.Float64bits", "math.Float64frombits"], unfollowed := true, recurses := true, apart := false }
def FnExactPartsOfOneSaid : Prop := fnExactPartsOfOneRow.holds Try.pinned (OpenSpec.ofChange fnExactPartsOfOneSpec)

/-- ITS FALSE NEIGHBOUR: 'it returns false'. Refute it at one input. -/
def fnExactPartsOfOneWrong : ChangeSpec := { name := "fnExactPartsOfOne", fn := fun _ => fun
  | [d] => { results := [.lit (.bool false)], args := [d] }
  | _ => none }
def FnExactPartsOfOneWrongFalsely : Prop := fnExactPartsOfOneRow.holds Try.pinned (OpenSpec.ofChange fnExactPartsOfOneWrong)

/-- 'laws.FnExactAreSpectra': WHATEVER THE INPUT: true; the input reads as it did. -/
def fnExactAreSpectraSpec : ChangeSpec := { name := "fnExactAreSpectra", fn := fun _ => fun
  | [d] => { results := [.lit (.bool true)], args := [d] }
  | _ => none }
def fnExactAreSpectraRow : OpenClaim := { program := "ytehlflldnihamaa", sum := "335588714008e72f8c7ab5538d1f9ab08f5c0f48144230bcb791a120ad6989f3", func := "loop.example/g01403/laws.FnExactAreSpectra", spec := "fnExactAreSpectra", inPlace := ["math.Float64bits", "math.Float64frombits"], unfollowed := true, recurses := true, apart := false }
def FnExactAreSpectraSaid : Prop := fnExactAreSpectraRow.holds Try.pinned (OpenSpec.ofChange fnExactAreSpectraSpec)

/-- ITS FALSE NEIGHBOUR: 'it returns false'. Refute it at one input. -/
def fnExactAreSpectraWrong : ChangeSpec := { name := "fnExactAreSpectra", fn := fun _ => fun
  | [d] => { results := [.lit (.bool false)], args := [d] }
  | _ => none }
def FnExactAreSpectraWrongFalsely : Prop := fnExactAreSpectraRow.holds Try.pinned (OpenSpec.ofChange fnExactAreSpectraWrong)

/-- 'laws.FnExactMixOf': WHATEVER THE INPUT: true; the input reads as it did. -/
def fnExactMixOfSpec : ChangeSpec := { name := "fnExactMixOf", fn := fun _ => fun
  | [d1, d2] => { results := [.lit (.bool true)], args := [d1, d2] }
  | _ => none }
def fnExactMixOfRow : OpenClaim := { program := "ytehlflldnihamaa", sum := "335588714008e72f8c7ab5538d1f9ab08f5c0f48144230bcb791a120ad6989f3", func := "loop.example/g01403/laws.FnExactMixOf", spec := "fnExactMixOf", inPlace := ["math.Float64bits", "math.Float64frombits"], unfollowed := true, recurses := true, apart := false }
def FnExactMixOfSaid : Prop := fnExactMixOfRow.holds Try.pinned (OpenSpec.ofChange fnExactMixOfSpec)

/-- ITS FALSE NEIGHBOUR: 'it returns false'. Refute it at one input. -/
def fnExactMixOfWrong : ChangeSpec := { name := "fnExactMixOf", fn := fun _ => fun
  | [d1, d2] => { results := [.lit (.bool false)], args := [d1, d2] }
  | _ => none }
def FnExactMixOfWrongFalsely : Prop := fnExactMixOfRow.holds Try.pinned (OpenSpec.ofChange fnExactMixOfWrong)

/- THE SECOND FORM. 'bulk': how many values and letters a reading holds, each counted each time it is reached (what is shared counts as often as it is met; a slice's spare places count too). A statement '..UptoSaid' is the law's where the arguments, and the package variables that the reading takes, are together of bulk at most 1048576: NARROWER than '..Said'. Prove '..Said' where nothing that the law and all that it calls make is longer than what came in: it says more and counts as full. Else prove '..UptoSaid'. A law counts once. -/
mutual
def uptoBulk {H : Type} : DataW H → Nat
  | .lit (.string bytes) => bytes.length + 1
  | .lit _ => 1
  | .nil => 1
  | .ptr d => uptoBulk d + 1
  | .slice elems spare => uptoBulkAll elems + uptoBulkAll spare + 1
  | .agg parts => uptoBulkAll parts + 1
  | .iface _ d => uptoBulk d + 1
  | .map entries => uptoBulkEntries entries + 1
  | .held _ => 1
def uptoBulkAll {H : Type} : List (DataW H) → Nat
  | [] => 0
  | d :: r => uptoBulk d + uptoBulkAll r
def uptoBulkEntries {H : Type} : List (Lit × DataW H) → Nat
  | [] => 0
  | x :: r => uptoBulkEntry x + uptoBulkEntries r
def uptoBulkEntry {H : Type} : Lit × DataW H → Nat
  | (.string bytes, d) => bytes.length + uptoBulk d + 1
  | (_, d) => uptoBulk d + 1
 end
def uptoSmall : (H : Type) → List (DataW H) → Bool := fun _ ds => decide (uptoBulkAll ds ≤ 1048576)
def OpenSpec.upto (s : _root_.Go.ChangeSpec) : _root_.Go.OpenSpec := { _root_.Go.OpenSpec.ofChange s with cond := some uptoSmall }

/-- 'laws.FnExactNormalOf', WHERE WHAT IT READS IS OF BULK AT MOST 1048576: true; the input reads as it did. -/
def fnExactNormalOfUptoRow : OpenClaim := { program := "ytehlflldnihamaa", sum := "335588714008e72f8c7ab5538d1f9ab08f5c0f48144230bcb791a120ad6989f3", func := "loop.example/g01403/laws.FnExactNormalOf", spec := "fnExactNormalOf", inPlace := ["math.sqrt", "math.Float64bits", "math.Float64frombits"], unfollowed := true, recurses := true, apart := false, narrowed := true }
def FnExactNormalOfUptoSaid : Prop := fnExactNormalOfUptoRow.holds Try.pinned (OpenSpec.upto fnExactNormalOfSpec)

/-- 'laws.FnExactScaledOf', WHERE WHAT IT READS IS OF BULK AT MOST 1048576: true; the input reads as it did. -/
def fnExactScaledOfUptoRow : OpenClaim := { program := "ytehlflldnihamaa", sum := "335588714008e72f8c7ab5538d1f9ab08f5c0f48144230bcb791a120ad6989f3", func := "loop.example/g01403/laws.FnExactScaledOf", spec := "fnExactScaledOf", inPlace := ["math.Float64bits", "math.Float64frombits"], unfollowed := true, recurses := true, apart := false, narrowed := true }
def FnExactScaledOfUptoSaid : Prop := fnExactScaledOfUptoRow.holds Try.pinned (OpenSpec.upto fnExactScaledOfSpec)

/-- 'laws.FnExactSmoothMean', WHERE WHAT IT READS IS OF BULK AT MOST 1048576: true; the input reads as it did. -/
def fnExactSmoothMeanUptoRow : OpenClaim := { program := "ytehlflldnihamaa", sum := "335588714008e72f8c7ab5538d1f9ab08f5c0f48144230bcb791a120ad6989f3", func := "loop.example/g01403/laws.FnExactSmoothMean", spec := "fnExactSmoothMean", inPlace := ["math.Float64bits", "math.Float64frombits"], unfollowed := true, recurses := true, apart := false, narrowed := true }
def FnExactSmoothMeanUptoSaid : Prop := fnExactSmoothMeanUptoRow.holds Try.pinned (OpenSpec.upto fnExactSmoothMeanSpec)

/-- 'laws.FnExactSmoothCurve', WHERE WHAT IT READS IS OF BULK AT MOST 1048576: true; the input reads as it did. -/
def fnExactSmoothCurveUptoRow : OpenClaim := { program := "ytehlflldnihamaa", sum := "335588714008e72f8c7ab5538d1f9ab08f5c0f48144230bcb791a120ad6989f3", func := "loop.example/g01403/laws.FnExactSmoothCurve", spec := "fnExactSmoothCurve", inPlace := ["math.Float64bits", "math.Float64frombits"], unfollowed := true, recurses := true, apart := false, narrowed := true }
def FnExactSmoothCurveUptoSaid : Prop := fnExactSmoothCurveUptoRow.holds Try.pinned (OpenSpec.upto fnExactSmoothCurveSpec)

/-- 'laws.FnExactLessBase', WHERE WHAT IT READS IS OF BULK AT MOST 1048576: true; the input reads as it did. -/
def fnExactLessBaseUptoRow : OpenClaim := { program := "ytehlflldnihamaa", sum := "335588714008e72f8c7ab5538d1f9ab08f5c0f48144230bcb791a120ad6989f3", func := "loop.example/g01403/laws.FnExactLessBase", spec := "fnExactLessBase", inPlace := ["math.Float64bits", "math.Float64frombits"], unfollowed := true, recurses := true, apart := false, narrowed := true }
def FnExactLessBaseUptoSaid : Prop := fnExactLessBaseUptoRow.holds Try.pinned (OpenSpec.upto fnExactLessBaseSpec)

/-- 'laws.FnExactShiftList', WHERE WHAT IT READS IS OF BULK AT MOST 1048576: true; the input reads as it did. -/
def fnExactShiftListUptoRow : OpenClaim := { program := "ytehlflldnihamaa", sum := "335588714008e72f8c7ab5538d1f9ab08f5c0f48144230bcb791a120ad6989f3", func := "loop.example/g01403/laws.FnExactShiftList", spec := "fnExactShiftList", inPlace := ["math.Float64bits", "math.Float64frombits"], unfollowed := true, recurses := true, apart := false, narrowed := true }
def FnExactShiftListUptoSaid : Prop := fnExactShiftListUptoRow.holds Try.pinned (OpenSpec.upto fnExactShiftListSpec)

/-- 'laws.FnExactAtSteps', WHERE WHAT IT READS IS OF BULK AT MOST 1048576: true; the input reads as it did. -/
def fnExactAtStepsUptoRow : OpenClaim := { program := "ytehlflldnihamaa", sum := "335588714008e72f8c7ab5538d1f9ab08f5c0f48144230bcb791a120ad6989f3", func := "loop.example/g01403/laws.FnExactAtSteps", spec := "fnExactAtSteps", inPlace := ["math.Float64bits", "math.Float64frombits"], unfollowed := true, recurses := true, apart := false, narrowed := true }
def FnExactAtStepsUptoSaid : Prop := fnExactAtStepsUptoRow.holds Try.pinned (OpenSpec.upto fnExactAtStepsSpec)

/-- 'laws.FnExactLikeOf', WHERE WHAT IT READS IS OF BULK AT MOST 1048576: true; the input reads as it did. -/
def fnExactLikeOfUptoRow : OpenClaim := { program := "ytehlflldnihamaa", sum := "335588714008e72f8c7ab5538d1f9ab08f5c0f48144230bcb791a120ad6989f3", func := "loop.example/g01403/laws.FnExactLikeOf", spec := "fnExactLikeOf", inPlace := ["math.sqrt", "math.Float64bits", "math.Float64frombits"], unfollowed := true, recurses := true, apart := false, narrowed := true }
def FnExactLikeOfUptoSaid : Prop := fnExactLikeOfUptoRow.holds Try.pinned (OpenSpec.upto fnExactLikeOfSpec)

/-- 'laws.FnExactFarOf', WHERE WHAT IT READS IS OF BULK AT MOST 1048576: true; the input reads as it did. -/
def fnExactFarOfUptoRow : OpenClaim := { program := "ytehlflldnihamaa", sum := "335588714008e72f8c7ab5538d1f9ab08f5c0f48144230bcb791a120ad6989f3", func := "loop.example/g01403/laws.FnExactFarOf", spec := "fnExactFarOf", inPlace := ["math.sqrt", "math.Float64bits", "math.Float64frombits"], unfollowed := true, recurses := true, apart := false, narrowed := true }
def FnExactFarOfUptoSaid : Prop := fnExactFarOfUptoRow.holds Try.pinned (OpenSpec.upto fnExactFarOfSpec)

/-- 'laws.FnExactPartsOfOne', WHERE WHAT IT READS IS OF BULK AT MOST 1048576: true; the input reads as it did. -/
def fnExactPartsOfOneUptoRow : OpenClaim := { program := "ytehlflldnihamaa", sum := "335588714008e72f8c7ab5538d1f9ab08f5c0f48144230bcb791a120ad6989f3", func := "loop.example/g01403/laws.FnExactPartsOfOne", spec := "fnExactPartsOfOne", inPlace := ["math.Float64bits", "math.Float64frombits"], unfollowed := true, recurses := true, apart := false, narrowed := true }
def FnExactPartsOfOneUptoSaid : Prop := fnExactPartsOfOneUptoRow.holds Try.pinned (OpenSpec.upto fnExactPartsOfOneSpec)

/-- 'laws.FnExactAreSpectra', WHERE WHAT IT READS IS OF BULK AT MOST 1048576: true; the input reads as it did. -/
def fnExactAreSpectraUptoRow : OpenClaim := { program := "ytehlflldnihamaa", sum := "335588714008e72f8c7ab5538d1f9ab08f5c0f48144230bcb791a120ad6989f3", func := "loop.example/g01403/laws.FnExactAreSpectra", spec := "fnExactAreSpectra", inPlace := ["math.Float64bits", "math.Float64frombits"], unfollowed := true, recurses := true, apart := false, narrowed := true }
def FnExactAreSpectraUptoSaid : Prop := fnExactAreSpectraUptoRow.holds Try.pinned (OpenSpec.upto fnExactAreSpectraSpec)

/-- 'laws.FnExactMixOf', WHERE WHAT IT READS IS OF BULK AT MOST 1048576: true; the input reads as it did. -/
def fnExactMixOfUptoRow : OpenClaim := { program := "ytehlflldnihamaa", sum := "335588714008e72f8c7ab5538d1f9ab08f5c0f48144230bcb791a120ad6989f3", func := "loop.example/g01403/laws.FnExactMixOf", spec := "fnExactMixOf", inPlace := ["math.Float64bits", "math.Float64frombits"], unfollowed := true, recurses := true, apart := false, narrowed := true }
def FnExactMixOfUptoSaid : Prop := fnExactMixOfUptoRow.holds Try.pinned (OpenSpec.upto fnExactMixOfSpec)

end Rows
end Go.Proofs.Ytehlflldnihamaa
