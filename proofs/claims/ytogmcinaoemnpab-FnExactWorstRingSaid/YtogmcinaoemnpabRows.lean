/-
  No cell of these rows narrows 'for every input' (looked for: loops, veiled, ifaces, maps, wideKeys, modest, calm, conditions, laid).
  DERIVED. THE GIVEN ROWS OF THIS SEAT. 7 by the template 'for every input the law returns true; each argument reads behind the call as it read before'; 0 by the template 'total and deterministic' (their statements: YtogmcinaoemnpabTotals.lean).
  GIVEN WITH THE SEED: the statements are not yours to turn. If you find one false, say at which input.
  Laid BY PROGRAM, IN A SANDBOX (cutbox-rows.mjs): the forced cells as the released guide's own fill.sh prints them over the translation 0ddd2d8a56c9bbe9… (all of the seat's roots in one cut). By AI agents, Wed Nov 11 2026. No macro, syntax, notation, axiom, sorry.
-/
import Derived.Test.YtogmcinaoemnpabChecked
import GoSem.Claim
import GoSem.ClaimJoined
import GoSem.ClaimMapViews
import Derived.JoinedTies
import Derived.KernelRfl
namespace Go.Proofs.Ytogmcinaoemnpab
/- THE CELL 'sum', in the pinned program and in every row, IS THE sha256 OF THE DUMP (.gsa) THAT YtogmcinaoemnpabProg.lean LOADS. Nothing in Lean hashes anything: it is a label: what it is worth is what the hold of that sum in a sandbox is worth. -/
noncomputable def Try.pinned : Pinned := { name := "ytogmcinaoemnpab", sum := "0ddd2d8a56c9bbe9084faf6727cc8144f4e890708e0f8546bd0ce57ad19b94e9", checked := Try.checked }
namespace Rows
def none {H : Type} : Left H := { results := [], args := [] }

/-- 'laws.FnExactTermsOf': WHATEVER THE INPUT: true; the input reads as it did. -/
def fnExactTermsOfSpec : ChangeSpec := { name := "fnExactTermsOf", fn := fun _ => fun
  | [d1, d2] => { results := [.lit (.bool true)], args := [d1, d2] }
  | _ => none }
def fnExactTermsOfRow : OpenClaim := { program := "ytogmcinaoemnpab", sum := "0ddd2d8a56c9bbe9084faf6727cc8144f4e890708e0f8546bd0ce57ad19b94e9", func := "loop.example/g01403/laws.FnExactTermsOf", spec := "fnExactTermsOf", plainKeys := false, apart := false }
def FnExactTermsOfSaid : Prop := fnExactTermsOfRow.holds Try.pinned (OpenSpec.ofChange fnExactTermsOfSpec)

/-- ITS FALSE NEIGHBOUR: 'it returns false'. Refute it at one input. -/
def fnExactTermsOfWrong : ChangeSpec := { name := "fnExactTermsOf", fn := fun _ => fun
  | [d1, d2] => { results := [.lit (.bool false)], args := [d1, d2] }
  | _ => none }
def FnExactTermsOfWrongFalsely : Prop := fnExactTermsOfRow.holds Try.pinned (OpenSpec.ofChange fnExactTermsOfWrong)

/-- 'laws.FnExactLowestTerm': WHATEVER THE INPUT: true; the input reads as it did. -/
def fnExactLowestTermSpec : ChangeSpec := { name := "fnExactLowestTerm", fn := fun _ => fun
  | [d1, d2] => { results := [.lit (.bool true)], args := [d1, d2] }
  | _ => none }
def fnExactLowestTermRow : OpenClaim := { program := "ytogmcinaoemnpab", sum := "0ddd2d8a56c9bbe9084faf6727cc8144f4e890708e0f8546bd0ce57ad19b94e9", func := "loop.example/g01403/laws.FnExactLowestTerm", spec := "fnExactLowestTerm", unfollowed := true, recurses := true, plainKeys := false, apart := false }
def FnExactLowestTermSaid : Prop := fnExactLowestTermRow.holds Try.pinned (OpenSpec.ofChange fnExactLowestTermSpec)

/-- ITS FALSE NEIGHBOUR: 'it returns false'. Refute it at one input. -/
def fnExactLowestTermWrong : ChangeSpec := { name := "fnExactLowestTerm", fn := fun _ => fun
  | [d1, d2] => { results := [.lit (.bool false)], args := [d1, d2] }
  | _ => none }
def FnExactLowestTermWrongFalsely : Prop := fnExactLowestTermRow.holds Try.pinned (OpenSpec.ofChange fnExactLowestTermWrong)

/-- 'laws.FnShells': WHATEVER THE INPUT: true; the input reads as it did. -/
def fnShellsSpec : ChangeSpec := { name := "fnShells", fn := fun _ => fun
  | [d1, d2] => { results := [.lit (.bool true)], args := [d1, d2] }
  | _ => none }
def fnShellsRow : OpenClaim := { program := "ytogmcinaoemnpab", sum := "0ddd2d8a56c9bbe9084faf6727cc8144f4e890708e0f8546bd0ce57ad19b94e9", func := "loop.example/g01403/laws.FnShells", spec := "fnShells", unfollowed := true, recurses := true, plainKeys := false, apart := false }
def FnShellsSaid : Prop := fnShellsRow.holds Try.pinned (OpenSpec.ofChange fnShellsSpec)

/-- ITS FALSE NEIGHBOUR: 'it returns false'. Refute it at one input. -/
def fnShellsWrong : ChangeSpec := { name := "fnShells", fn := fun _ => fun
  | [d1, d2] => { results := [.lit (.bool false)], args := [d1, d2] }
  | _ => none }
def FnShellsWrongFalsely : Prop := fnShellsRow.holds Try.pinned (OpenSpec.ofChange fnShellsWrong)

/-- 'laws.FnExactCosmicMarks': WHATEVER THE INPUT: true; the input reads as it did. -/
def fnExactCosmicMarksSpec : ChangeSpec := { name := "fnExactCosmicMarks", fn := fun _ => fun
  | [d1, d2] => { results := [.lit (.bool true)], args := [d1, d2] }
  | _ => none }
def fnExactCosmicMarksRow : OpenClaim := { program := "ytogmcinaoemnpab", sum := "0ddd2d8a56c9bbe9084faf6727cc8144f4e890708e0f8546bd0ce57ad19b94e9", func := "loop.example/g01403/laws.FnExactCosmicMarks", spec := "fnExactCosmicMarks", inPlace := ["math.Float64bits", "math.Float64frombits"], unfollowed := true, recurses := true, plainKeys := false, apart := false }
def FnExactCosmicMarksSaid : Prop := fnExactCosmicMarksRow.holds Try.pinned (OpenSpec.ofChange fnExactCosmicMarksSpec)

/-- ITS FALSE NEIGHBOUR: 'it returns false'. Refute it at one input. -/
def fnExactCosmicMarksWrong : ChangeSpec := { name := "fnExactCosmicMarks", fn := fun _ => fun
  | [d1, d2] => { results := [.lit (.bool false)], args := [d1, d2] }
  | _ => none }
def FnExactCosmicMarksWrongFalsely : Prop := fnExactCosmicMarksRow.holds Try.pinned (OpenSpec.ofChange fnExactCosmicMarksWrong)

/-- 'laws.FnExactEdgeLevels': WHATEVER THE INPUT: true; the input reads as it did. -/
def fnExactEdgeLevelsSpec : ChangeSpec := { name := "fnExactEdgeLevels", fn := fun _ => fun
  | [d1, d2] => { results := [.lit (.bool true)], args := [d1, d2] }
  | _ => none }
def fnExactEdgeLevelsRow : OpenClaim := { program := "ytogmcinaoemnpab", sum := "0ddd2d8a56c9bbe9084faf6727cc8144f4e890708e0f8546bd0ce57ad19b94e9", func := "loop.example/g01403/laws.FnExactEdgeLevels", spec := "fnExactEdgeLevels", inPlace := ["math.Float64bits", "math.Float64frombits"], unfollowed := true, recurses := true, plainKeys := false, apart := false }
def FnExactEdgeLevelsSaid : Prop := fnExactEdgeLevelsRow.holds Try.pinned (OpenSpec.ofChange fnExactEdgeLevelsSpec)

/-- ITS FALSE NEIGHBOUR: 'it returns false'. Refute it at one input. -/
def fnExactEdgeLevelsWrong : ChangeSpec := { name := "fnExactEdgeLevels", fn := fun _ => fun
  | [d1, d2] => { results := [.lit (.bool false)], args := [d1, d2] }
  | _ => none }
def FnExactEdgeLevelsWrongFalsely : Prop := fnExactEdgeLevelsRow.holds Try.pinned (OpenSpec.ofChange fnExactEdgeLevelsWrong)

/-- 'laws.FnExactWorstRing': WHATEVER THE INPUT: true; the input reads as it did. -/
def fnExactWorstRingSpec : ChangeSpec := { name := "fnExactWorstRing", fn := fun _ => fun
  | [d1, d2] => { results := [.lit (.bool true)], args := [d1, d2] }
  | _ => none }
def fnExactWorstRingRow : OpenClaim := { program := "ytogmcinaoemnpab", sum := "0ddd2d8a56c9bbe9084faf6727cc8144f4e890708e0f8546bd0ce57ad19b94e9", func := "loop.example/g01403/laws.FnExactWorstRing", spec := "fnExactWorstRing", inPlace := ["math.Float64bits", "math.Float64frombits"], unfollowed := true, recurses := true, plainKeys := false, apart := false }
def FnExactWorstRingSaid : Prop := fnExactWorstRingRow.holds Try.pinned (OpenSpec.ofChange fnExactWorstRingSpec)

/-- ITS FALSE NEIGHBOUR: 'it returns false'. Refute it at one input. -/
def fnExactWorstRingWrong : ChangeSpec := { name := "fnExactWorstRing", fn := fun _ => fun
  | [d1, d2] => { results := [.lit (.bool false)], args := [d1, d2] }
  | _ => none }
def FnExactWorstRingWrongFalsely : Prop := fnExactWorstRingRow.holds Try.pinned (OpenSpec.ofChange fnExactWorstRingWrong)

/-- 'laws.FnExactMatchLines': WHATEVER THE INPUT: true; the input reads as it did. -/
def fnExactMatchLinesSpec : ChangeSpec := { name := "fnExactMatchLines", fn := fun _ => fun
  | [d1, d2, d3] => { results := [.lit (.bool true)], args := [d1, d2, d3] }
  | _ => none }
def fnExactMatchLinesRow : OpenClaim := { program := "ytogmcinaoemnpab", sum := "0ddd2d8a56c9bbe9084faf6727cc8144f4e890708e0f8546bd0ce57ad19b94e9", func := "loop.example/g01403/laws.FnExactMatchLines", spec := "fnExactMatchLines", inPlace := ["math.Float64bits", "math.Float64frombits"], unfollowed := true, recurses := true, plainKeys := false, apart := false }
def FnExactMatchLinesSaid : Prop := fnExactMatchLinesRow.holds Try.pinned (OpenSpec.ofChange fnExactMatchLinesSpec)

/-- ITS FALSE NEIGHBOUR: 'it returns false'. Refute it at one input. -/
def fnExactMatchLinesWrong : ChangeSpec := { name := "fnExactMatchLines", fn := fun _ => fun
  | [d1, d2, d3] => { results := [.lit (.bool false)], args := [d1, d2, d3] }
  | _ => none }
def FnExactMatchLinesWrongFalsely : Prop := fnExactMatchLinesRow.holds Try.pinned (OpenSpec.ofChange fnExactMatchLinesWrong)

/- THE SECOND FORM. 'bulk': how many values and letters a reading holds, each counted each time it is reached (what is shared counts as often as it is met; a slice's spare places count too). A statement '..UptoSaid' is the law's where the arguments, and the package variables that the reading takes, are together of bulk at most 1048576: NARROWER than '..Said'. Prove '..Said' where nothing that the law and all that it calls make is longer than what came in: it says more and counts as full. Else prove '..UptoSaid'. A law counts once. -/
mutual
def uptoBulk {H : Type} : DataW H → Nat
  | .lit (.string bytes) => bytes.length + 1
  | .lit _ => 1
  | .nil => 1
  | .ptr d => uptoBulk d + 1
  | .slice elems spare => uptoBulkAll elems + uptoBulkAll spare + 1
  | .agg parts => uptoBulkAll parts + 1
  | .iface _ d => uptoBulk d + 1
  | .map entries => uptoBulkEntries entries + 1
  | .held _ => 1
def uptoBulkAll {H : Type} : List (DataW H) → Nat
  | [] => 0
  | d :: r => uptoBulk d + uptoBulkAll r
def uptoBulkEntries {H : Type} : List (Lit × DataW H) → Nat
  | [] => 0
  | x :: r => uptoBulkEntry x + uptoBulkEntries r
def uptoBulkEntry {H : Type} : Lit × DataW H → Nat
  | (.string bytes, d) => bytes.length + uptoBulk d + 1
  | (_, d) => uptoBulk d + 1
 end
def uptoSmall : (H : Type) → List (DataW H) → Bool := fun _ ds => decide (uptoBulkAll ds ≤ 1048576)
def OpenSpec.upto (s : _root_.Go.ChangeSpec) : _root_.Go.OpenSpec := { _root_.Go.OpenSpec.ofChange s with cond := some uptoSmall }

/-- 'laws.FnExactTermsOf', WHERE WHAT IT READS IS OF BULK AT MOST 1048576: true; the input reads as it did. -/
def fnExactTermsOfUptoRow : OpenClaim := { program := "ytogmcinaoemnpab", sum := "0ddd2d8a56c9bbe9084faf6727cc8144f4e890708e0f8546bd0ce57ad19b94e9", func := "loop.example/g01403/laws.FnExactTermsOf", spec := "fnExactTermsOf", plainKeys := false, apart := false, narrowed := true }
def FnExactTermsOfUptoSaid : Prop := fnExactTermsOfUptoRow.holds Try.pinned (OpenSpec.upto fnExactTermsOfSpec)

/-- 'laws.FnExactLowestTerm', WHERE WHAT IT READS IS OF BULK AT MOST 1048576: true; the input reads as it did. -/
def fnExactLowestTermUptoRow : OpenClaim := { program := "ytogmcinaoemnpab", sum := "0ddd2d8a56c9bbe9084faf6727cc8144f4e890708e0f8546bd0ce57ad19b94e9", func := "loop.example/g01403/laws.FnExactLowestTerm", spec := "fnExactLowestTerm", unfollowed := true, recurses := true, plainKeys := false, apart := false, narrowed := true }
def FnExactLowestTermUptoSaid : Prop := fnExactLowestTermUptoRow.holds Try.pinned (OpenSpec.upto fnExactLowestTermSpec)

/-- 'laws.FnShells', WHERE WHAT IT READS IS OF BULK AT MOST 1048576: true; the input reads as it did. -/
def fnShellsUptoRow : OpenClaim := { program := "ytogmcinaoemnpab", sum := "0ddd2d8a56c9bbe9084faf6727cc8144f4e890708e0f8546bd0ce57ad19b94e9", func := "loop.example/g01403/laws.FnShells", spec := "fnShells", unfollowed := true, recurses := true, plainKeys := false, apart := false, narrowed := true }
def FnShellsUptoSaid : Prop := fnShellsUptoRow.holds Try.pinned (OpenSpec.upto fnShellsSpec)

/-- 'laws.FnExactCosmicMarks', WHERE WHAT IT READS IS OF BULK AT MOST 1048576: true; the input reads as it did. -/
def fnExactCosmicMarksUptoRow : OpenClaim := { program := "ytogmcinaoemnpab", sum := "0ddd2d8a56c9bbe9084faf6727cc8144f4e890708e0f8546bd0ce57ad19b94e9", func := "loop.example/g01403/laws.FnExactCosmicMarks", spec := "fnExactCosmicMarks", inPlace := ["math.Float64bits", "math.Float64frombits"], unfollowed := true, recurses := true, plainKeys := false, apart := false, narrowed := true }
def FnExactCosmicMarksUptoSaid : Prop := fnExactCosmicMarksUptoRow.holds Try.pinned (OpenSpec.upto fnExactCosmicMarksSpec)

/-- 'laws.FnExactEdgeLevels', WHERE WHAT IT READS IS OF BULK AT MOST 1048576: true; the input reads as it did. -/
def fnExactEdgeLevelsUptoRow : OpenClaim := { program := "ytogmcinaoemnpab", sum := "0ddd2d8a56c9bbe9084faf6727cc8144f4e890708e0f8546bd0ce57ad19b94e9", func := "loop.example/g01403/laws.FnExactEdgeLevels", spec := "fnExactEdgeLevels", inPlace := ["math.Float64bits", "math.Float64frombits"], unfollowed := true, recurses := true, plainKeys := false, apart := false, narrowed := true }
def FnExactEdgeLevelsUptoSaid : Prop := fnExactEdgeLevelsUptoRow.holds Try.pinned (OpenSpec.upto fnExactEdgeLevelsSpec)

/-- 'laws.FnExactWorstRing', WHERE WHAT IT READS IS OF BULK AT MOST 1048576: true; the input reads as it did. -/
def fnExactWorstRingUptoRow : OpenClaim := { program := "ytogmcinaoemnpab", sum := "0ddd2d8a56c9bbe9084faf6727cc8144f4e890708e0f8546bd0ce57ad19b94e9", func := "loop.example/g01403/laws.FnExactWorstRing", spec := "fnExactWorstRing", inPlace := ["math.Float64bits", "math.Float64frombits"], unfollowed := true, recurses := true, plainKeys := false, apart := false, narrowed := true }
def FnExactWorstRingUptoSaid : Prop := fnExactWorstRingUptoRow.holds Try.pinned (OpenSpec.upto fnExactWorstRingSpec)

/-- 'laws.FnExactMatchLines', WHERE WHAT IT READS IS OF BULK AT MOST 1048576: true; the input reads as it did. -/
def fnExactMatchLinesUptoRow : OpenClaim := { program := "ytogmcinaoemnpab", sum := "0ddd2d8a56c9bbe9084faf6727cc8144f4e890708e0f8546bd0ce57ad19b94e9", func := "loop.example/g01403/laws.FnExactMatchLines", spec := "fnExactMatchLines", inPlace := ["math.Float64bits", "math.Float64frombits"], unfollowed := true, recurses := true, plainKeys := false, apart := false, narrowed := true }
def FnExactMatchLinesUptoSaid : Prop := fnExactMatchLinesUptoRow.holds Try.pinned (OpenSpec.upto fnExactMatchLinesSpec)

end Rows
end Go.Proofs.Ytogmcinaoemnpab
