/-
  No cell of these rows narrows 'for every input' (looked for: loops, veiled, ifaces, maps, wideKeys, modest, calm, conditions, laid).
  DERIVED. THE GIVEN ROWS OF THIS SEAT. 12 by the template 'for every input the law returns true; each argument reads behind the call as it read before'; 0 by the template 'total and deterministic' (their statements: YtbblohjldkpcnabTotals.lean).
  GIVEN WITH THE SEED: the statements are not yours to turn. If you find one false, say at which input.
  Laid BY PROGRAM, IN A SANDBOX (cutbox-rows.mjs): the forced cells as the released guide's own fill.sh prints them over the translation d5aba934a5e718f5… (all of the seat's roots in one cut). By AI agents, Wed Nov 11 2026. No macro, syntax, notation, axiom, sorry.
-/
import Derived.Test.YtbblohjldkpcnabChecked
import GoSem.Claim
import GoSem.ClaimJoined
import GoSem.ClaimMapViews
import Derived.JoinedTies
import Derived.KernelRfl
namespace Go.Proofs.Ytbblohjldkpcnab
/- THE CELL 'sum', in the pinned program and in every row, IS THE sha256 OF THE DUMP (.gsa) THAT YtbblohjldkpcnabProg.lean LOADS. Nothing in Lean hashes anything: it is a label: what it is worth is what the hold of that sum in a sandbox is worth. -/
noncomputable def Try.pinned : Pinned := { name := "ytbblohjldkpcnab", sum := "d5aba934a5e718f58c431862313dfbf503d352ea4a9f8166c8d97805febc840f", checked := Try.checked }
namespace Rows
def none {H : Type} : Left H := { results := [], args := [] }

/-- 'laws.FnExactMeanSpectrum': WHATEVER THE INPUT: true; the input reads as it did. -/
def fnExactMeanSpectrumSpec : ChangeSpec := { name := "fnExactMeanSpectrum", fn := fun _ => fun
  | [d] => { results := [.lit (.bool true)], args := [d] }
  | _ => none }
def fnExactMeanSpectrumRow : OpenClaim := { program := "ytbblohjldkpcnab", sum := "d5aba934a5e718f58c431862313dfbf503d352ea4a9f8166c8d97805febc840f", func := "loop.example/g01403/laws.FnExactMeanSpectrum", spec := "fnExactMeanSpectrum", inPlace := ["math.Float64bits", "math.Float64frombits"], unfollowed := true, recurses := true, apart := false }
def FnExactMeanSpectrumSaid : Prop := fnExactMeanSpectrumRow.holds Try.pinned (OpenSpec.ofChange fnExactMeanSpectrumSpec)

/-- ITS FALSE NEIGHBOUR: 'it returns false'. Refute it at one input. -/
def fnExactMeanSpectrumWrong : ChangeSpec := { name := "fnExactMeanSpectrum", fn := fun _ => fun
  | [d] => { results := [.lit (.bool false)], args := [d] }
  | _ => none }
def FnExactMeanSpectrumWrongFalsely : Prop := fnExactMeanSpectrumRow.holds Try.pinned (OpenSpec.ofChange fnExactMeanSpectrumWrong)

/-- 'laws.FnExactOddSpectrum': WHATEVER THE INPUT: true; the input reads as it did. -/
def fnExactOddSpectrumSpec : ChangeSpec := { name := "fnExactOddSpectrum", fn := fun _ => fun
  | [d] => { results := [.lit (.bool true)], args := [d] }
  | _ => none }
def fnExactOddSpectrumRow : OpenClaim := { program := "ytbblohjldkpcnab", sum := "d5aba934a5e718f58c431862313dfbf503d352ea4a9f8166c8d97805febc840f", func := "loop.example/g01403/laws.FnExactOddSpectrum", spec := "fnExactOddSpectrum", inPlace := ["math.sqrt", "math.Float64bits", "math.Float64frombits"], unfollowed := true, recurses := true, apart := false }
def FnExactOddSpectrumSaid : Prop := fnExactOddSpectrumRow.holds Try.pinned (OpenSpec.ofChange fnExactOddSpectrumSpec)

/-- ITS FALSE NEIGHBOUR: 'it returns false'. Refute it at one input. -/
def fnExactOddSpectrumWrong : ChangeSpec := { name := "fnExactOddSpectrum", fn := fun _ => fun
  | [d] => { results := [.lit (.bool false)], args := [d] }
  | _ => none }
def FnExactOddSpectrumWrongFalsely : Prop := fnExactOddSpectrumRow.holds Try.pinned (OpenSpec.ofChange fnExactOddSpectrumWrong)

/-- 'laws.FnExactRankLibrary': WHATEVER THE INPUT: true; the input reads as it did. -/
def fnExactRankLibrarySpec : ChangeSpec := { name := "fnExactRankLibrary", fn := fun _ => fun
  | [d1, d2] => { results := [.lit (.bool true)], args := [d1, d2] }
  | _ => none }
def fnExactRankLibraryRow : OpenClaim := { program := "ytbblohjldkpcnab", sum := "d5aba934a5e718f58c431862313dfbf503d352ea4a9f8166c8d97805febc840f", func := "loop.example/g01403/laws.FnExactRankLibrary", spec := "fnExactRankLibrary", inPlace := ["math.sqrt", "math.Float64bits", "math.Float64frombits"], unfollowed := true, recurses := true, apart := false }
def FnExactRankLibrarySaid : Prop := fnExactRankLibraryRow.holds Try.pinned (OpenSpec.ofChange fnExactRankLibrarySpec)

/-- ITS FALSE NEIGHBOUR: 'it returns false'. Refute it at one input. -/
def fnExactRankLibraryWrong : ChangeSpec := { name := "fnExactRankLibrary", fn := fun _ => fun
  | [d1, d2] => { results := [.lit (.bool false)], args := [d1, d2] }
  | _ => none }
def FnExactRankLibraryWrongFalsely : Prop := fnExactRankLibraryRow.holds Try.pinned (OpenSpec.ofChange fnExactRankLibraryWrong)

/-- 'laws.FnExactShiftList': WHATEVER THE INPUT: true; the input reads as it did. -/
def fnExactShiftListSpec : ChangeSpec := { name := "fnExactShiftList", fn := fun _ => fun
  | [d1, d2] => { results := [.lit (.bool true)], args := [d1, d2] }
  | _ => none }
def fnExactShiftListRow : OpenClaim := { program := "ytbblohjldkpcnab", sum := "d5aba934a5e718f58c431862313dfbf503d352ea4a9f8166c8d97805febc840f", func := "loop.example/g01403/laws.FnExactShiftList", spec := "fnExactShiftList", inPlace := ["math.Float64bits", "math.Float64frombits"], unfollowed := true, recurses := true, apart := false }
def FnExactShiftListSaid : Prop := fnExactShiftListRow.holds Try.pinned (OpenSpec.ofChange fnExactShiftListSpec)

/-- ITS FALSE NEIGHBOUR: 'it returns false'. Refute it at one input. -/
def fnExactShiftListWrong : ChangeSpec := { name := "fnExactShiftList", fn := fun _ => fun
  | [d1, d2] => { results := [.lit (.bool false)], args := [d1, d2] }
  | _ => none }
def FnExactShiftListWrongFalsely : Prop := fnExactShiftListRow.holds Try.pinned (OpenSpec.ofChange fnExactShiftListWrong)

/-- 'laws.FnExactPlaceOf': WHATEVER THE INPUT: true; the input reads as it did. -/
def fnExactPlaceOfSpec : ChangeSpec := { name := "fnExactPlaceOf", fn := fun _ => fun
  | [d1, d2, d3, d4, d5] => { results := [.lit (.bool true)], args := [d1, d2, d3, d4, d5] }
  | _ => none }
def fnExactPlaceOfRow : OpenClaim := { program := "ytbblohjldkpcnab", sum := "d5aba934a5e718f58c431862313dfbf503d352ea4a9f8166c8d97805febc840f", func := "loop.example/g01403/laws.FnExactPlaceOf", spec := "fnExactPlaceOf", inPlace := ["math.Float64bits", "math.Float64frombits"], unfollowed := true, recurses := true, apart := false }
def FnExactPlaceOfSaid : Prop := fnExactPlaceOfRow.holds Try.pinned (OpenSpec.ofChange fnExactPlaceOfSpec)

/-- ITS FALSE NEIGHBOUR: 'it returns false'. Refute it at one input. -/
def fnExactPlaceOfWrong : ChangeSpec := { name := "fnExactPlaceOf", fn := fun _ => fun
  | [d1, d2, d3, d4, d5] => { results := [.lit (.bool false)], args := [d1, d2, d3, d4, d5] }
  | _ => none }
def FnExactPlaceOfWrongFalsely : Prop := fnExactPlaceOfRow.holds Try.pinned (OpenSpec.ofChange fnExactPlaceOfWrong)

/-- 'laws.FnExactScanOf': WHATEVER THE INPUT: true; the input reads as it did. -/
def fnExactScanOfSpec : ChangeSpec := { name := "fnExactScanOf", fn := fun _ => fun
  | [d1, d2, d3, d4] => { results := [.lit (.bool true)], args := [d1, d2, d3, d4] }
  | _ => none }
def fnExactScanOfRow : OpenClaim := { program := "ytbblohjldkpcnab", sum := "d5aba934a5e718f58c431862313dfbf503d352ea4a9f8166c8d97805febc840f", func := "loop.example/g01403/laws.FnExactScanOf", spec := "fnExactScanOf", inPlace := ["math.Float32frombits", "math.Float64frombits", "math.Float64bits"], unfollowed := true, recurses := true, apart := false }
def FnExactScanOfSaid : Prop := fnExactScanOfRow.holds Try.pinned (OpenSpec.ofChange fnExactScanOfSpec)

/-- ITS FALSE NEIGHBOUR: 'it returns false'. Refute it at one input. -/
def fnExactScanOfWrong : ChangeSpec := { name := "fnExactScanOf", fn := fun _ => fun
  | [d1, d2, d3, d4] => { results := [.lit (.bool false)], args := [d1, d2, d3, d4] }
  | _ => none }
def FnExactScanOfWrongFalsely : Prop := fnExactScanOfRow.holds Try.pinned (OpenSpec.ofChange fnExactScanOfWrong)

/-- 'laws.FnExactBlendLines': WHATEVER THE INPUT: true; the input reads as it did. -/
def fnExactBlendLinesSpec : ChangeSpec := { name := "fnExactBlendLines", fn := fun _ => fun
  | [d1, d2] => { results := [.lit (.bool true)], args := [d1, d2] }
  | _ => none }
def fnExactBlendLinesRow : OpenClaim := { program := "ytbblohjldkpcnab", sum := "d5aba934a5e718f58c431862313dfbf503d352ea4a9f8166c8d97805febc840f", func := "loop.example/g01403/laws.FnExactBlendLines", spec := "fnExactBlendLines", inPlace := ["math.Float64bits", "math.Float64frombits"], unfollowed := true, recurses := true, apart := false }
def FnExactBlendLinesSaid : Prop := fnExactBlendLinesRow.holds Try.pinned (OpenSpec.ofChange fnExactBlendLinesSpec)

/-- ITS FALSE NEIGHBOUR: 'it returns false'. Refute it at one input. -/
def fnExactBlendLinesWrong : ChangeSpec := { name := "fnExactBlendLines", fn := fun _ => fun
  | [d1, d2] => { results := [.lit (.bool false)], args := [d1, d2] }
  | _ => none }
def FnExactBlendLinesWrongFalsely : Prop := fnExactBlendLinesRow.holds Try.pinned (OpenSpec.ofChange fnExactBlendLinesWrong)

/-- 'laws.FnExactTurnSteps': WHATEVER THE INPUT: true; the input reads as it did. -/
def fnExactTurnStepsSpec : ChangeSpec := { name := "fnExactTurnSteps", fn := fun _ => fun
  | [d] => { results := [.lit (.bool true)], args := [d] }
  | _ => none }
def fnExactTurnStepsRow : OpenClaim := { program := "ytbblohjldkpcnab", sum := "d5aba934a5e718f58c431862313dfbf503d352ea4a9f8166c8d97805febc840f", func := "loop.example/g01403/laws.FnExactTurnSteps", spec := "fnExactTurnSteps", inPlace := ["math.Float64bits", "math.Float64frombits"], unfollowed := true, recurses := true, apart := false }
def FnExactTurnStepsSaid : Prop := fnExactTurnStepsRow.holds Try.pinned (OpenSpec.ofChange fnExactTurnStepsSpec)

/-- ITS FALSE NEIGHBOUR: 'it returns false'. Refute it at one input. -/
def fnExactTurnStepsWrong : ChangeSpec := { name := "fnExactTurnSteps", fn := fun _ => fun
  | [d] => { results := [.lit (.bool false)], args := [d] }
  | _ => none }
def FnExactTurnStepsWrongFalsely : Prop := fnExactTurnStepsRow.holds Try.pinned (OpenSpec.ofChange fnExactTurnStepsWrong)

/-- 'laws.FnExactJoinSteps': WHATEVER THE INPUT: true; the input reads as it did. -/
def fnExactJoinStepsSpec : ChangeSpec := { name := "fnExactJoinSteps", fn := fun _ => fun
  | [d1, d2, d3] => { results := [.lit (.bool true)], args := [d1, d2, d3] }
  | _ => none }
def fnExactJoinStepsRow : OpenClaim := { program := "ytbblohjldkpcnab", sum := "d5aba934a5e718f58c431862313dfbf503d352ea4a9f8166c8d97805febc840f", func := "loop.example/g01403/laws.FnExactJoinSteps", spec := "fnExactJoinSteps", inPlace := ["math.Float32bits", "math.Float64bits", "math.Float64frombits"], unfollowed := true, recurses := true, apart := false }
def FnExactJoinStepsSaid : Prop := fnExactJoinStepsRow.holds Try.pinned (OpenSpec.ofChange fnExactJoinStepsSpec)

/-- ITS FALSE NEIGHBOUR: 'it returns false'. Refute it at one input. -/
def fnExactJoinStepsWrong : ChangeSpec := { name := "fnExactJoinSteps", fn := fun _ => fun
  | [d1, d2, d3] => { results := [.lit (.bool false)], args := [d1, d2, d3] }
  | _ => none }
def FnExactJoinStepsWrongFalsely : Prop := fnExactJoinStepsRow.holds Try.pinned (OpenSpec.ofChange fnExactJoinStepsWrong)

/-- 'laws.FnExactWaveNumbers': WHATEVER THE INPUT: true; the input reads as it did. -/
def fnExactWaveNumbersSpec : ChangeSpec := { name := "fnExactWaveNumbers", fn := fun _ => fun
  | [d1, d2] => { results := [.lit (.bool true)], args := [d1, d2] }
  | _ => none }
def fnExactWaveNumbersRow : OpenClaim := { program := "ytbblohjldkpcnab", sum := "d5aba934a5e718f58c431862313dfbf503d352ea4a9f8166c8d97805febc840f", func := "loop.example/g01403/laws.FnExactWaveNumbers", spec := "fnExactWaveNumbers", inPlace := ["math.sqrt", "math.Float64bits", "math.Float64frombits"], unfollowed := true, recurses := true, apart := false }
def FnExactWaveNumbersSaid : Prop := fnExactWaveNumbersRow.holds Try.pinned (OpenSpec.ofChange fnExactWaveNumbersSpec)

/-- ITS FALSE NEIGHBOUR: 'it returns false'. Refute it at one input. -/
def fnExactWaveNumbersWrong : ChangeSpec := { name := "fnExactWaveNumbers", fn := fun _ => fun
  | [d1, d2] => { results := [.lit (.bool false)], args := [d1, d2] }
  | _ => none }
def FnExactWaveNumbersWrongFalsely : Prop := fnExactWaveNumbersRow.holds Try.pinned (OpenSpec.ofChange fnExactWaveNumbersWrong)

/-- 'laws.FnExactLevelSteps': WHATEVER THE INPUT: true; the input reads as it did. -/
def fnExactLevelStepsSpec : ChangeSpec := { name := "fnExactLevelSteps", fn := fun _ => fun
  | [d1, d2, d3, d4, d5] => { results := [.lit (.bool true)], args := [d1, d2, d3, d4, d5] }
  | _ => none }
def fnExactLevelStepsRow : OpenClaim := { program := "ytbblohjldkpcnab", sum := "d5aba934a5e718f58c431862313dfbf503d352ea4a9f8166c8d97805febc840f", func := "loop.example/g01403/laws.FnExactLevelSteps", spec := "fnExactLevelSteps", inPlace := ["math.Float64bits", "math.Float64frombits"], unfollowed := true, recurses := true, apart := false }
def FnExactLevelStepsSaid : Prop := fnExactLevelStepsRow.holds Try.pinned (OpenSpec.ofChange fnExactLevelStepsSpec)

/-- ITS FALSE NEIGHBOUR: 'it returns false'. Refute it at one input. -/
def fnExactLevelStepsWrong : ChangeSpec := { name := "fnExactLevelSteps", fn := fun _ => fun
  | [d1, d2, d3, d4, d5] => { results := [.lit (.bool false)], args := [d1, d2, d3, d4, d5] }
  | _ => none }
def FnExactLevelStepsWrongFalsely : Prop := fnExactLevelStepsRow.holds Try.pinned (OpenSpec.ofChange fnExactLevelStepsWrong)

/-- 'laws.FnExactMatchLines': WHATEVER THE INPUT: true; the input reads as it did. -/
def fnExactMatchLinesSpec : ChangeSpec := { name := "fnExactMatchLines", fn := fun _ => fun
  | [d1, d2, d3] => { results := [.lit (.bool true)], args := [d1, d2, d3] }
  | _ => none }
def fnExactMatchLinesRow : OpenClaim := { program := "ytbblohjldkpcnab", sum := "d5aba934a5e718f58c431862313dfbf503d352ea4a9f8166c8d97805febc840f", func := "loop.example/g01403/laws.FnExactMatchLines", spec := "fnExactMatchLines", inPlace := ["math.Float64bits", "math.Float64frombits"], unfollowed := true, recurses := true, apart := false }
def FnExactMatchLinesSaid : Prop := fnExactMatchLinesRow.holds Try.pinned (OpenSpec.ofChange fnExactMatchLinesSpec)

/-- ITS FALSE NEIGHBOUR: 'it returns false'. Refute it at one input. -/
def fnExactMatchLinesWrong : ChangeSpec := { name := "fnExactMatchLines", fn := fun _ => fun
  | [d1, d2, d3] => { results := [.lit (.bool false)], args := [d1, d2, d3] }
  | _ => none }
def FnExactMatchLinesWrongFalsely : Prop := fnExactMatchLinesRow.holds Try.pinned (OpenSpec.ofChange fnExactMatchLinesWrong)

/- THE SECOND FORM. 'bulk': how many values and letters a reading holds, each counted each time it is reached (what is shared counts as often as it is met; a slice's spare places count too). A statement '..UptoSaid' is the law's where the arguments, and the package variables that the reading takes, are together of bulk at most 1048576: NARROWER than '..Said'. Prove '..Said' where nothing that the law and all that it calls make is longer than what came in: it says more and counts as full. Else prove '..UptoSaid'. A law counts once. -/
mutual
def uptoBulk {H : Type} : DataW H → Nat
  | .lit (.string bytes) => bytes.length + 1
  | .lit _ => 1
  | .nil => 1
  | .ptr d => uptoBulk d + 1
  | .slice elems spare => uptoBulkAll elems + uptoBulkAll spare + 1
  | .agg parts => uptoBulkAll parts + 1
  | .iface _ d => uptoBulk d + 1
  | .map entries => uptoBulkEntries entries + 1
  | .held _ => 1
def uptoBulkAll {H : Type} : List (DataW H) → Nat
  | [] => 0
  | d :: r => uptoBulk d + uptoBulkAll r
def uptoBulkEntries {H : Type} : List (Lit × DataW H) → Nat
  | [] => 0
  | x :: r => uptoBulkEntry x + uptoBulkEntries r
def uptoBulkEntry {H : Type} : Lit × DataW H → Nat
  | (.string bytes, d) => bytes.length + uptoBulk d + 1
  | (_, d) => uptoBulk d + 1
 end
def uptoSmall : (H : Type) → List (DataW H) → Bool := fun _ ds => decide (uptoBulkAll ds ≤ 1048576)
def OpenSpec.upto (s : _root_.Go.ChangeSpec) : _root_.Go.OpenSpec := { _root_.Go.OpenSpec.ofChange s with cond := some uptoSmall }

/-- 'laws.FnExactMeanSpectrum', WHERE WHAT IT READS IS OF BULK AT MOST 1048576: true; the input reads as it did. -/
def fnExactMeanSpectrumUptoRow : OpenClaim := { program := "ytbblohjldkpcnab", sum := "d5aba934a5e718f58c431862313dfbf503d352ea4a9f8166c8d97805febc840f", func := "loop.example/g01403/laws.FnExactMeanSpectrum", spec := "fnExactMeanSpectrum", inPlace := ["math.Float64bits", "math.Float64frombits"], unfollowed := true, recurses := true, apart := false, narrowed := true }
def FnExactMeanSpectrumUptoSaid : Prop := fnExactMeanSpectrumUptoRow.holds Try.pinned (OpenSpec.upto fnExactMeanSpectrumSpec)

/-- 'laws.FnExactOddSpectrum', WHERE WHAT IT READS IS OF BULK AT MOST 1048576: true; the input reads as it did. -/
def fnExactOddSpectrumUptoRow : OpenClaim := { program := "ytbblohjldkpcnab", sum := "d5aba934a5e718f58c431862313dfbf503d352ea4a9f8166c8d97805febc840f", func := "loop.example/g01403/laws.FnExactOddSpectrum", spec := "fnExactOddSpectrum", inPlace := ["math.sqrt", "math.Float64bits", "math.Float64frombits"], unfollowed := true, recurses := true, apart := false, narrowed := true }
def FnExactOddSpectrumUptoSaid : Prop := fnExactOddSpectrumUptoRow.holds Try.pinned (OpenSpec.upto fnExactOddSpectrumSpec)

/-- 'laws.FnExactRankLibrary', WHERE WHAT IT READS IS OF BULK AT MOST 1048576: true; the input reads as it did. -/
def fnExactRankLibraryUptoRow : OpenClaim := { program := "ytbblohjldkpcnab", sum := "d5aba934a5e718f58c431862313dfbf503d352ea4a9f8166c8d97805febc840f", func := "loop.example/g01403/laws.FnExactRankLibrary", spec := "fnExactRankLibrary", inPlace := ["math.sqrt", "math.Float64bits", "math.Float64frombits"], unfollowed := true, recurses := true, apart := false, narrowed := true }
def FnExactRankLibraryUptoSaid : Prop := fnExactRankLibraryUptoRow.holds Try.pinned (OpenSpec.upto fnExactRankLibrarySpec)

/-- 'laws.FnExactShiftList', WHERE WHAT IT READS IS OF BULK AT MOST 1048576: true; the input reads as it did. -/
def fnExactShiftListUptoRow : OpenClaim := { program := "ytbblohjldkpcnab", sum := "d5aba934a5e718f58c431862313dfbf503d352ea4a9f8166c8d97805febc840f", func := "loop.example/g01403/laws.FnExactShiftList", spec := "fnExactShiftList", inPlace := ["math.Float64bits", "math.Float64frombits"], unfollowed := true, recurses := true, apart := false, narrowed := true }
def FnExactShiftListUptoSaid : Prop := fnExactShiftListUptoRow.holds Try.pinned (OpenSpec.upto fnExactShiftListSpec)

/-- 'laws.FnExactPlaceOf', WHERE WHAT IT READS IS OF BULK AT MOST 1048576: true; the input reads as it did. -/
def fnExactPlaceOfUptoRow : OpenClaim := { program := "ytbblohjldkpcnab", sum := "d5aba934a5e718f58c431862313dfbf503d352ea4a9f8166c8d97805febc840f", func := "loop.example/g01403/laws.FnExactPlaceOf", spec := "fnExactPlaceOf", inPlace := ["math.Float64bits", "math.Float64frombits"], unfollowed := true, recurses := true, apart := false, narrowed := true }
def FnExactPlaceOfUptoSaid : Prop := fnExactPlaceOfUptoRow.holds Try.pinned (OpenSpec.upto fnExactPlaceOfSpec)

/-- 'laws.FnExactScanOf', WHERE WHAT IT READS IS OF BULK AT MOST 1048576: true; the input reads as it did. -/
def fnExactScanOfUptoRow : OpenClaim := { program := "ytbblohjldkpcnab", sum := "d5aba934a5e718f58c431862313dfbf503d352ea4a9f8166c8d97805febc840f", func := "loop.example/g01403/laws.FnExactScanOf", spec := "fnExactScanOf", inPlace := ["math.Float32frombits", "math.Float64frombits", "math.Float64bits"], unfollowed := true, recurses := true, apart := false, narrowed := true }
def FnExactScanOfUptoSaid : Prop := fnExactScanOfUptoRow.holds Try.pinned (OpenSpec.upto fnExactScanOfSpec)

/-- 'laws.FnExactBlendLines', WHERE WHAT IT READS IS OF BULK AT MOST 1048576: true; the input reads as it did. -/
def fnExactBlendLinesUptoRow : OpenClaim := { program := "ytbblohjldkpcnab", sum := "d5aba934a5e718f58c431862313dfbf503d352ea4a9f8166c8d97805febc840f", func := "loop.example/g01403/laws.FnExactBlendLines", spec := "fnExactBlendLines", inPlace := ["math.Float64bits", "math.Float64frombits"], unfollowed := true, recurses := true, apart := false, narrowed := true }
def FnExactBlendLinesUptoSaid : Prop := fnExactBlendLinesUptoRow.holds Try.pinned (OpenSpec.upto fnExactBlendLinesSpec)

/-- 'laws.FnExactTurnSteps', WHERE WHAT IT READS IS OF BULK AT MOST 1048576: true; the input reads as it did. -/
def fnExactTurnStepsUptoRow : OpenClaim := { program := "ytbblohjldkpcnab", sum := "d5aba934a5e718f58c431862313dfbf503d352ea4a9f8166c8d97805febc840f", func := "loop.example/g01403/laws.FnExactTurnSteps", spec := "fnExactTurnSteps", inPlace := ["math.Float64bits", "math.Float64frombits"], unfollowed := true, recurses := true, apart := false, narrowed := true }
def FnExactTurnStepsUptoSaid : Prop := fnExactTurnStepsUptoRow.holds Try.pinned (OpenSpec.upto fnExactTurnStepsSpec)

/-- 'laws.FnExactJoinSteps', WHERE WHAT IT READS IS OF BULK AT MOST 1048576: true; the input reads as it did. -/
def fnExactJoinStepsUptoRow : OpenClaim := { program := "ytbblohjldkpcnab", sum := "d5aba934a5e718f58c431862313dfbf503d352ea4a9f8166c8d97805febc840f", func := "loop.example/g01403/laws.FnExactJoinSteps", spec := "fnExactJoinSteps", inPlace := ["math.Float32bits", "math.Float64bits", "math.Float64frombits"], unfollowed := true, recurses := true, apart := false, narrowed := true }
def FnExactJoinStepsUptoSaid : Prop := fnExactJoinStepsUptoRow.holds Try.pinned (OpenSpec.upto fnExactJoinStepsSpec)

/-- 'laws.FnExactWaveNumbers', WHERE WHAT IT READS IS OF BULK AT MOST 1048576: true; the input reads as it did. -/
def fnExactWaveNumbersUptoRow : OpenClaim := { program := "ytbblohjldkpcnab", sum := "d5aba934a5e718f58c431862313dfbf503d352ea4a9f8166c8d97805febc840f", func := "loop.example/g01403/laws.FnExactWaveNumbers", spec := "fnExactWaveNumbers", inPlace := ["math.sqrt", "math.Float64bits", "math.Float64frombits"], unfollowed := true, recurses := true, apart := false, narrowed := true }
def FnExactWaveNumbersUptoSaid : Prop := fnExactWaveNumbersUptoRow.holds Try.pinned (OpenSpec.upto fnExactWaveNumbersSpec)

/-- 'laws.FnExactLevelSteps', WHERE WHAT IT READS IS OF BULK AT MOST 1048576: true; the input reads as it did. -/
def fnExactLevelStepsUptoRow : OpenClaim := { program := "ytbblohjldkpcnab", sum := "d5aba934a5e718f58c431862313dfbf503d352ea4a9f8166c8d97805febc840f", func := "loop.example/g01403/laws.FnExactLevelSteps", spec := "fnExactLevelSteps", inPlace := ["math.Float64bits", "math.Float64frombits"], unfollowed := true, recurses := true, apart := false, narrowed := true }
def FnExactLevelStepsUptoSaid : Prop := fnExactLevelStepsUptoRow.holds Try.pinned (OpenSpec.upto fnExactLevelStepsSpec)

/-- 'laws.FnExactMatchLines', WHERE WHAT IT READS IS OF BULK AT MOST 1048576: true; the input reads as it did. -/
def fnExactMatchLinesUptoRow : OpenClaim := { program := "ytbblohjldkpcnab", sum := "d5aba934a5e718f58c431862313dfbf503d352ea4a9f8166c8d97805febc840f", func := "loop.example/g01403/laws.FnExactMatchLines", spec := "fnExactMatchLines", inPlace := ["math.Float64bits", "math.Float64frombits"], unfollowed := true, recurses := true, apart := false, narrowed := true }
def FnExactMatchLinesUptoSaid : Prop := fnExactMatchLinesUptoRow.holds Try.pinned (OpenSpec.upto fnExactMatchLinesSpec)

end Rows
end Go.Proofs.Ytbblohjldkpcnab
