/-
  NARROWER THAN 'FOR EVERY INPUT', by the rows' own cells (each row's printed sentence says how): FnExactJoinShare: laid · FnExactJoinRow: laid · FnExactJoinNumber: laid · FnExactSixShare: laid · FnExactShareRow: laid · FnJoins: laid · FnSixes: laid · FnRules: laid.
  DERIVED. THE GIVEN ROWS OF THIS SEAT. 8 by the template 'for every input the law returns true; each argument reads behind the call as it read before'; 0 by the template 'total and deterministic' (their statements: YtffhnkhjfggooabDoorTotals.lean).
  GIVEN WITH THE SEED: the statements are not yours to turn. If you find one false, say at which input.
  Laid BY PROGRAM, IN A SANDBOX (cutbox-rows.mjs): the forced cells as the released guide's own fill.sh prints them over the translation b646eff424eeaf4b… (all of the seat's roots in one cut). By AI agents, Wed Nov 11 2026. No macro, syntax, notation, axiom, sorry.
-/
import Derived.Test.YtffhnkhjfggooabDoorChecked
import GoSem.Claim
import GoSem.ClaimJoined
import GoSem.ClaimMapViews
import Derived.JoinedTies
import Derived.KernelRfl
namespace Go.Proofs.YtffhnkhjfggooabDoor
/- THE CELL 'sum', in the pinned program and in every row, IS THE sha256 OF THE DUMP (.gsa) THAT YtffhnkhjfggooabDoorProg.lean LOADS. Nothing in Lean hashes anything: it is a label: what it is worth is what the hold of that sum in a sandbox is worth. -/
noncomputable def Tryd.pinned : Pinned := { name := "ytffhnkhjfggooabdoor", sum := "b646eff424eeaf4bdf7de1143f625a0d63ed7a3e2f85ccec0ed2ba72ffd1b221", checked := Tryd.checked }
namespace Rows
def none {H : Type} : Left H := { results := [], args := [] }

/- WHAT THE LISTED PACKAGE-LEVEL VARIABLES READ AS WHEN THE CALL BEGINS. Each datum BY PROGRAM (the guide's laid-datum.mjs) off the statement by which the dump's own 'gosem.cut.vars' lays the variable. In a bare row this is a premise. The card (YtffhnkhjfggooabDoorCards.lean) ties it to the program's text. -/
def laid_loop_example_g01403_impl_firstPrimes {H : Type} : DataW H := .agg [.lit (.int .i64 2), .lit (.int .i64 3), .lit (.int .i64 5), .lit (.int .i64 7), .lit (.int .i64 11), .lit (.int .i64 13)]
def laid_loop_example_g01403_impl_noShare {H : Type} : DataW H := .agg [.lit (.int .i64 0), .lit (.int .i64 1)]

/-- 'laws.FnExactJoinShare': WHATEVER THE INPUT: true; the input reads as it did. -/
def fnExactJoinShareSpec : ChangeSpec := { name := "fnExactJoinShare", vars := ["loop.example/g01403/impl.firstPrimes", "loop.example/g01403/impl.noShare"], fn := fun _ => fun
  | [d1, d2, d3, d4, d5, g1, g2] => { results := [.lit (.bool true)], args := [d1, d2, d3, d4, d5], vars := [g1, g2] }
  | _ => none }
def fnExactJoinShareRow : OpenClaim := { program := "ytffhnkhjfggooabdoor", sum := "b646eff424eeaf4bdf7de1143f625a0d63ed7a3e2f85ccec0ed2ba72ffd1b221", func := "loop.example/g01403/laws.FnExactJoinShare", spec := "fnExactJoinShare", unfollowed := true, recurses := true, named := ["loop.example/g01403/impl.firstPrimes", "loop.example/g01403/impl.noShare"], apart := false, laid := [("loop.example/g01403/impl.firstPrimes", laid_loop_example_g01403_impl_firstPrimes), ("loop.example/g01403/impl.noShare", laid_loop_example_g01403_impl_noShare)] }
def FnExactJoinShareSaid : Prop := fnExactJoinShareRow.holds Tryd.pinned (OpenSpec.ofChange fnExactJoinShareSpec)

/-- ITS FALSE NEIGHBOUR: 'it returns false'. Refute it at one input. -/
def fnExactJoinShareWrong : ChangeSpec := { name := "fnExactJoinShare", vars := ["loop.example/g01403/impl.firstPrimes", "loop.example/g01403/impl.noShare"], fn := fun _ => fun
  | [d1, d2, d3, d4, d5, g1, g2] => { results := [.lit (.bool false)], args := [d1, d2, d3, d4, d5], vars := [g1, g2] }
  | _ => none }
def FnExactJoinShareWrongFalsely : Prop := fnExactJoinShareRow.holds Tryd.pinned (OpenSpec.ofChange fnExactJoinShareWrong)

/-- 'laws.FnExactJoinRow': WHATEVER THE INPUT: true; the input reads as it did. -/
def fnExactJoinRowSpec : ChangeSpec := { name := "fnExactJoinRow", vars := ["loop.example/g01403/impl.firstPrimes", "loop.example/g01403/impl.noShare"], fn := fun _ => fun
  | [d1, d2, d3, d4, g1, g2] => { results := [.lit (.bool true)], args := [d1, d2, d3, d4], vars := [g1, g2] }
  | _ => none }
def fnExactJoinRowRow : OpenClaim := { program := "ytffhnkhjfggooabdoor", sum := "b646eff424eeaf4bdf7de1143f625a0d63ed7a3e2f85ccec0ed2ba72ffd1b221", func := "loop.example/g01403/laws.FnExactJoinRow", spec := "fnExactJoinRow", unfollowed := true, recurses := true, named := ["loop.example/g01403/impl.firstPrimes", "loop.example/g01403/impl.noShare"], apart := false, laid := [("loop.example/g01403/impl.firstPrimes", laid_loop_example_g01403_impl_firstPrimes), ("loop.example/g01403/impl.noShare", laid_loop_example_g01403_impl_noShare)] }
def FnExactJoinRowSaid : Prop := fnExactJoinRowRow.holds Tryd.pinned (OpenSpec.ofChange fnExactJoinRowSpec)

/-- ITS FALSE NEIGHBOUR: 'it returns false'. Refute it at one input. -/
def fnExactJoinRowWrong : ChangeSpec := { name := "fnExactJoinRow", vars := ["loop.example/g01403/impl.firstPrimes", "loop.example/g01403/impl.noShare"], fn := fun _ => fun
  | [d1, d2, d3, d4, g1, g2] => { results := [.lit (.bool false)], args := [d1, d2, d3, d4], vars := [g1, g2] }
  | _ => none }
def FnExactJoinRowWrongFalsely : Prop := fnExactJoinRowRow.holds Tryd.pinned (OpenSpec.ofChange fnExactJoinRowWrong)

/-- 'laws.FnExactJoinNumber': WHATEVER THE INPUT: true; the input reads as it did. -/
def fnExactJoinNumberSpec : ChangeSpec := { name := "fnExactJoinNumber", vars := ["loop.example/g01403/impl.firstPrimes", "loop.example/g01403/impl.noShare"], fn := fun _ => fun
  | [d1, d2, d3, d4, d5, g1, g2] => { results := [.lit (.bool true)], args := [d1, d2, d3, d4, d5], vars := [g1, g2] }
  | _ => none }
def fnExactJoinNumberRow : OpenClaim := { program := "ytffhnkhjfggooabdoor", sum := "b646eff424eeaf4bdf7de1143f625a0d63ed7a3e2f85ccec0ed2ba72ffd1b221", func := "loop.example/g01403/laws.FnExactJoinNumber", spec := "fnExactJoinNumber", inPlace := ["math.sqrt"], unfollowed := true, recurses := true, named := ["loop.example/g01403/impl.firstPrimes", "loop.example/g01403/impl.noShare"], apart := false, laid := [("loop.example/g01403/impl.firstPrimes", laid_loop_example_g01403_impl_firstPrimes), ("loop.example/g01403/impl.noShare", laid_loop_example_g01403_impl_noShare)] }
def FnExactJoinNumberSaid : Prop := fnExactJoinNumberRow.holds Tryd.pinned (OpenSpec.ofChange fnExactJoinNumberSpec)

/-- ITS FALSE NEIGHBOUR: 'it returns false'. Refute it at one input. -/
def fnExactJoinNumberWrong : ChangeSpec := { name := "fnExactJoinNumber", vars := ["loop.example/g01403/impl.firstPrimes", "loop.example/g01403/impl.noShare"], fn := fun _ => fun
  | [d1, d2, d3, d4, d5, g1, g2] => { results := [.lit (.bool false)], args := [d1, d2, d3, d4, d5], vars := [g1, g2] }
  | _ => none }
def FnExactJoinNumberWrongFalsely : Prop := fnExactJoinNumberRow.holds Tryd.pinned (OpenSpec.ofChange fnExactJoinNumberWrong)

/-- 'laws.FnExactSixShare': WHATEVER THE INPUT: true; the input reads as it did. -/
def fnExactSixShareSpec : ChangeSpec := { name := "fnExactSixShare", vars := ["loop.example/g01403/impl.firstPrimes", "loop.example/g01403/impl.noShare"], fn := fun _ => fun
  | [d1, d2, d3, d4, d5, d6, g1, g2] => { results := [.lit (.bool true)], args := [d1, d2, d3, d4, d5, d6], vars := [g1, g2] }
  | _ => none }
def fnExactSixShareRow : OpenClaim := { program := "ytffhnkhjfggooabdoor", sum := "b646eff424eeaf4bdf7de1143f625a0d63ed7a3e2f85ccec0ed2ba72ffd1b221", func := "loop.example/g01403/laws.FnExactSixShare", spec := "fnExactSixShare", unfollowed := true, recurses := true, named := ["loop.example/g01403/impl.firstPrimes", "loop.example/g01403/impl.noShare"], apart := false, laid := [("loop.example/g01403/impl.firstPrimes", laid_loop_example_g01403_impl_firstPrimes), ("loop.example/g01403/impl.noShare", laid_loop_example_g01403_impl_noShare)] }
def FnExactSixShareSaid : Prop := fnExactSixShareRow.holds Tryd.pinned (OpenSpec.ofChange fnExactSixShareSpec)

/-- ITS FALSE NEIGHBOUR: 'it returns false'. Refute it at one input. -/
def fnExactSixShareWrong : ChangeSpec := { name := "fnExactSixShare", vars := ["loop.example/g01403/impl.firstPrimes", "loop.example/g01403/impl.noShare"], fn := fun _ => fun
  | [d1, d2, d3, d4, d5, d6, g1, g2] => { results := [.lit (.bool false)], args := [d1, d2, d3, d4, d5, d6], vars := [g1, g2] }
  | _ => none }
def FnExactSixShareWrongFalsely : Prop := fnExactSixShareRow.holds Tryd.pinned (OpenSpec.ofChange fnExactSixShareWrong)

/-- 'laws.FnExactShareRow': WHATEVER THE INPUT: true; the input reads as it did. -/
def fnExactShareRowSpec : ChangeSpec := { name := "fnExactShareRow", vars := ["loop.example/g01403/impl.noShare", "loop.example/g01403/impl.firstPrimes"], fn := fun _ => fun
  | [d1, d2, d3, g1, g2] => { results := [.lit (.bool true)], args := [d1, d2, d3], vars := [g1, g2] }
  | _ => none }
def fnExactShareRowRow : OpenClaim := { program := "ytffhnkhjfggooabdoor", sum := "b646eff424eeaf4bdf7de1143f625a0d63ed7a3e2f85ccec0ed2ba72ffd1b221", func := "loop.example/g01403/laws.FnExactShareRow", spec := "fnExactShareRow", unfollowed := true, recurses := true, named := ["loop.example/g01403/impl.noShare", "loop.example/g01403/impl.firstPrimes"], apart := false, laid := [("loop.example/g01403/impl.firstPrimes", laid_loop_example_g01403_impl_firstPrimes), ("loop.example/g01403/impl.noShare", laid_loop_example_g01403_impl_noShare)] }
def FnExactShareRowSaid : Prop := fnExactShareRowRow.holds Tryd.pinned (OpenSpec.ofChange fnExactShareRowSpec)

/-- ITS FALSE NEIGHBOUR: 'it returns false'. Refute it at one input. -/
def fnExactShareRowWrong : ChangeSpec := { name := "fnExactShareRow", vars := ["loop.example/g01403/impl.noShare", "loop.example/g01403/impl.firstPrimes"], fn := fun _ => fun
  | [d1, d2, d3, g1, g2] => { results := [.lit (.bool false)], args := [d1, d2, d3], vars := [g1, g2] }
  | _ => none }
def FnExactShareRowWrongFalsely : Prop := fnExactShareRowRow.holds Tryd.pinned (OpenSpec.ofChange fnExactShareRowWrong)

/-- 'laws.FnJoins': WHATEVER THE INPUT: true; the input reads as it did. -/
def fnJoinsSpec : ChangeSpec := { name := "fnJoins", vars := ["loop.example/g01403/impl.firstPrimes", "loop.example/g01403/impl.noShare"], fn := fun _ => fun
  | [d1, d2, g1, g2] => { results := [.lit (.bool true)], args := [d1, d2], vars := [g1, g2] }
  | _ => none }
def fnJoinsRow : OpenClaim := { program := "ytffhnkhjfggooabdoor", sum := "b646eff424eeaf4bdf7de1143f625a0d63ed7a3e2f85ccec0ed2ba72ffd1b221", func := "loop.example/g01403/laws.FnJoins", spec := "fnJoins", inPlace := ["math.sqrt"], unfollowed := true, recurses := true, named := ["loop.example/g01403/impl.firstPrimes", "loop.example/g01403/impl.noShare"], apart := false, laid := [("loop.example/g01403/impl.firstPrimes", laid_loop_example_g01403_impl_firstPrimes), ("loop.example/g01403/impl.noShare", laid_loop_example_g01403_impl_noShare)] }
def FnJoinsSaid : Prop := fnJoinsRow.holds Tryd.pinned (OpenSpec.ofChange fnJoinsSpec)

/-- ITS FALSE NEIGHBOUR: 'it returns false'. Refute it at one input. -/
def fnJoinsWrong : ChangeSpec := { name := "fnJoins", vars := ["loop.example/g01403/impl.firstPrimes", "loop.example/g01403/impl.noShare"], fn := fun _ => fun
  | [d1, d2, g1, g2] => { results := [.lit (.bool false)], args := [d1, d2], vars := [g1, g2] }
  | _ => none }
def FnJoinsWrongFalsely : Prop := fnJoinsRow.holds Tryd.pinned (OpenSpec.ofChange fnJoinsWrong)

/-- 'laws.FnSixes': WHATEVER THE INPUT: true; the input reads as it did. -/
def fnSixesSpec : ChangeSpec := { name := "fnSixes", vars := ["loop.example/g01403/impl.firstPrimes", "loop.example/g01403/impl.noShare"], fn := fun _ => fun
  | [d1, d2, g1, g2] => { results := [.lit (.bool true)], args := [d1, d2], vars := [g1, g2] }
  | _ => none }
def fnSixesRow : OpenClaim := { program := "ytffhnkhjfggooabdoor", sum := "b646eff424eeaf4bdf7de1143f625a0d63ed7a3e2f85ccec0ed2ba72ffd1b221", func := "loop.example/g01403/laws.FnSixes", spec := "fnSixes", unfollowed := true, recurses := true, named := ["loop.example/g01403/impl.firstPrimes", "loop.example/g01403/impl.noShare"], apart := false, laid := [("loop.example/g01403/impl.firstPrimes", laid_loop_example_g01403_impl_firstPrimes), ("loop.example/g01403/impl.noShare", laid_loop_example_g01403_impl_noShare)] }
def FnSixesSaid : Prop := fnSixesRow.holds Tryd.pinned (OpenSpec.ofChange fnSixesSpec)

/-- ITS FALSE NEIGHBOUR: 'it returns false'. Refute it at one input. -/
def fnSixesWrong : ChangeSpec := { name := "fnSixes", vars := ["loop.example/g01403/impl.firstPrimes", "loop.example/g01403/impl.noShare"], fn := fun _ => fun
  | [d1, d2, g1, g2] => { results := [.lit (.bool false)], args := [d1, d2], vars := [g1, g2] }
  | _ => none }
def FnSixesWrongFalsely : Prop := fnSixesRow.holds Tryd.pinned (OpenSpec.ofChange fnSixesWrong)

/-- 'laws.FnRules': WHATEVER THE INPUT: true; the input reads as it did. -/
def fnRulesSpec : ChangeSpec := { name := "fnRules", vars := ["loop.example/g01403/impl.noShare", "loop.example/g01403/impl.firstPrimes"], fn := fun _ => fun
  | [d1, d2, g1, g2] => { results := [.lit (.bool true)], args := [d1, d2], vars := [g1, g2] }
  | _ => none }
def fnRulesRow : OpenClaim := { program := "ytffhnkhjfggooabdoor", sum := "b646eff424eeaf4bdf7de1143f625a0d63ed7a3e2f85ccec0ed2ba72ffd1b221", func := "loop.example/g01403/laws.FnRules", spec := "fnRules", inPlace := ["math.Float64bits", "math.Float64frombits"], unfollowed := true, recurses := true, named := ["loop.example/g01403/impl.noShare", "loop.example/g01403/impl.firstPrimes"], apart := false, laid := [("loop.example/g01403/impl.firstPrimes", laid_loop_example_g01403_impl_firstPrimes), ("loop.example/g01403/impl.noShare", laid_loop_example_g01403_impl_noShare)] }
def FnRulesSaid : Prop := fnRulesRow.holds Tryd.pinned (OpenSpec.ofChange fnRulesSpec)

/-- ITS FALSE NEIGHBOUR: 'it returns false'. Refute it at one input. -/
def fnRulesWrong : ChangeSpec := { name := "fnRules", vars := ["loop.example/g01403/impl.noShare", "loop.example/g01403/impl.firstPrimes"], fn := fun _ => fun
  | [d1, d2, g1, g2] => { results := [.lit (.bool false)], args := [d1, d2], vars := [g1, g2] }
  | _ => none }
def FnRulesWrongFalsely : Prop := fnRulesRow.holds Tryd.pinned (OpenSpec.ofChange fnRulesWrong)

/- THE SECOND FORM. 'bulk': how many values and letters a reading holds, each counted each time it is reached (what is shared counts as often as it is met; a slice's spare places count too). A statement '..UptoSaid' is the law's where the arguments, and the package variables that the reading takes, are together of bulk at most 1048576: NARROWER than '..Said'. Prove '..Said' where nothing that the law and all that it calls make is longer than what came in: it says more and counts as full. Else prove '..UptoSaid'. A law counts once. -/
mutual
def uptoBulk {H : Type} : DataW H → Nat
  | .lit (.string bytes) => bytes.length + 1
  | .lit _ => 1
  | .nil => 1
  | .ptr d => uptoBulk d + 1
  | .slice elems spare => uptoBulkAll elems + uptoBulkAll spare + 1
  | .agg parts => uptoBulkAll parts + 1
  | .iface _ d => uptoBulk d + 1
  | .map entries => uptoBulkEntries entries + 1
  | .held _ => 1
def uptoBulkAll {H : Type} : List (DataW H) → Nat
  | [] => 0
  | d :: r => uptoBulk d + uptoBulkAll r
def uptoBulkEntries {H : Type} : List (Lit × DataW H) → Nat
  | [] => 0
  | x :: r => uptoBulkEntry x + uptoBulkEntries r
def uptoBulkEntry {H : Type} : Lit × DataW H → Nat
  | (.string bytes, d) => bytes.length + uptoBulk d + 1
  | (_, d) => uptoBulk d + 1
 end
def uptoSmall : (H : Type) → List (DataW H) → Bool := fun _ ds => decide (uptoBulkAll ds ≤ 1048576)
def OpenSpec.upto (s : _root_.Go.ChangeSpec) : _root_.Go.OpenSpec := { _root_.Go.OpenSpec.ofChange s with cond := some uptoSmall }

/-- 'laws.FnExactJoinShare', WHERE WHAT IT READS IS OF BULK AT MOST 1048576: true; the input reads as it did. -/
def fnExactJoinShareUptoRow : OpenClaim := { program := "ytffhnkhjfggooabdoor", sum := "b646eff424eeaf4bdf7de1143f625a0d63ed7a3e2f85ccec0ed2ba72ffd1b221", func := "loop.example/g01403/laws.FnExactJoinShare", spec := "fnExactJoinShare", unfollowed := true, recurses := true, named := ["loop.example/g01403/impl.firstPrimes", "loop.example/g01403/impl.noShare"], apart := false, laid := [("loop.example/g01403/impl.firstPrimes", laid_loop_example_g01403_impl_firstPrimes), ("loop.example/g01403/impl.noShare", laid_loop_example_g01403_impl_noShare)], narrowed := true }
def FnExactJoinShareUptoSaid : Prop := fnExactJoinShareUptoRow.holds Tryd.pinned (OpenSpec.upto fnExactJoinShareSpec)

/-- 'laws.FnExactJoinRow', WHERE WHAT IT READS IS OF BULK AT MOST 1048576: true; the input reads as it did. -/
def fnExactJoinRowUptoRow : OpenClaim := { program := "ytffhnkhjfggooabdoor", sum := "b646eff424eeaf4bdf7de1143f625a0d63ed7a3e2f85ccec0ed2ba72ffd1b221", func := "loop.example/g01403/laws.FnExactJoinRow", spec := "fnExactJoinRow", unfollowed := true, recurses := true, named := ["loop.example/g01403/impl.firstPrimes", "loop.example/g01403/impl.noShare"], apart := false, laid := [("loop.example/g01403/impl.firstPrimes", laid_loop_example_g01403_impl_firstPrimes), ("loop.example/g01403/impl.noShare", laid_loop_example_g01403_impl_noShare)], narrowed := true }
def FnExactJoinRowUptoSaid : Prop := fnExactJoinRowUptoRow.holds Tryd.pinned (OpenSpec.upto fnExactJoinRowSpec)

/-- 'laws.FnExactJoinNumber', WHERE WHAT IT READS IS OF BULK AT MOST 1048576: true; the input reads as it did. -/
def fnExactJoinNumberUptoRow : OpenClaim := { program := "ytffhnkhjfggooabdoor", sum := "b646eff424eeaf4bdf7de1143f625a0d63ed7a3e2f85ccec0ed2ba72ffd1b221", func := "loop.example/g01403/laws.FnExactJoinNumber", spec := "fnExactJoinNumber", inPlace := ["math.sqrt"], unfollowed := true, recurses := true, named := ["loop.example/g01403/impl.firstPrimes", "loop.example/g01403/impl.noShare"], apart := false, laid := [("loop.example/g01403/impl.firstPrimes", laid_loop_example_g01403_impl_firstPrimes), ("loop.example/g01403/impl.noShare", laid_loop_example_g01403_impl_noShare)], narrowed := true }
def FnExactJoinNumberUptoSaid : Prop := fnExactJoinNumberUptoRow.holds Tryd.pinned (OpenSpec.upto fnExactJoinNumberSpec)

/-- 'laws.FnExactSixShare', WHERE WHAT IT READS IS OF BULK AT MOST 1048576: true; the input reads as it did. -/
def fnExactSixShareUptoRow : OpenClaim := { program := "ytffhnkhjfggooabdoor", sum := "b646eff424eeaf4bdf7de1143f625a0d63ed7a3e2f85ccec0ed2ba72ffd1b221", func := "loop.example/g01403/laws.FnExactSixShare", spec := "fnExactSixShare", unfollowed := true, recurses := true, named := ["loop.example/g01403/impl.firstPrimes", "loop.example/g01403/impl.noShare"], apart := false, laid := [("loop.example/g01403/impl.firstPrimes", laid_loop_example_g01403_impl_firstPrimes), ("loop.example/g01403/impl.noShare", laid_loop_example_g01403_impl_noShare)], narrowed := true }
def FnExactSixShareUptoSaid : Prop := fnExactSixShareUptoRow.holds Tryd.pinned (OpenSpec.upto fnExactSixShareSpec)

/-- 'laws.FnExactShareRow', WHERE WHAT IT READS IS OF BULK AT MOST 1048576: true; the input reads as it did. -/
def fnExactShareRowUptoRow : OpenClaim := { program := "ytffhnkhjfggooabdoor", sum := "b646eff424eeaf4bdf7de1143f625a0d63ed7a3e2f85ccec0ed2ba72ffd1b221", func := "loop.example/g01403/laws.FnExactShareRow", spec := "fnExactShareRow", unfollowed := true, recurses := true, named := ["loop.example/g01403/impl.noShare", "loop.example/g01403/impl.firstPrimes"], apart := false, laid := [("loop.example/g01403/impl.firstPrimes", laid_loop_example_g01403_impl_firstPrimes), ("loop.example/g01403/impl.noShare", laid_loop_example_g01403_impl_noShare)], narrowed := true }
def FnExactShareRowUptoSaid : Prop := fnExactShareRowUptoRow.holds Tryd.pinned (OpenSpec.upto fnExactShareRowSpec)

/-- 'laws.FnJoins', WHERE WHAT IT READS IS OF BULK AT MOST 1048576: true; the input reads as it did. -/
def fnJoinsUptoRow : OpenClaim := { program := "ytffhnkhjfggooabdoor", sum := "b646eff424eeaf4bdf7de1143f625a0d63ed7a3e2f85ccec0ed2ba72ffd1b221", func := "loop.example/g01403/laws.FnJoins", spec := "fnJoins", inPlace := ["math.sqrt"], unfollowed := true, recurses := true, named := ["loop.example/g01403/impl.firstPrimes", "loop.example/g01403/impl.noShare"], apart := false, laid := [("loop.example/g01403/impl.firstPrimes", laid_loop_example_g01403_impl_firstPrimes), ("loop.example/g01403/impl.noShare", laid_loop_example_g01403_impl_noShare)], narrowed := true }
def FnJoinsUptoSaid : Prop := fnJoinsUptoRow.holds Tryd.pinned (OpenSpec.upto fnJoinsSpec)

/-- 'laws.FnSixes', WHERE WHAT IT READS IS OF BULK AT MOST 1048576: true; the input reads as it did. -/
def fnSixesUptoRow : OpenClaim := { program := "ytffhnkhjfggooabdoor", sum := "b646eff424eeaf4bdf7de1143f625a0d63ed7a3e2f85ccec0ed2ba72ffd1b221", func := "loop.example/g01403/laws.FnSixes", spec := "fnSixes", unfollowed := true, recurses := true, named := ["loop.example/g01403/impl.firstPrimes", "loop.example/g01403/impl.noShare"], apart := false, laid := [("loop.example/g01403/impl.firstPrimes", laid_loop_example_g01403_impl_firstPrimes), ("loop.example/g01403/impl.noShare", laid_loop_example_g01403_impl_noShare)], narrowed := true }
def FnSixesUptoSaid : Prop := fnSixesUptoRow.holds Tryd.pinned (OpenSpec.upto fnSixesSpec)

/-- 'laws.FnRules', WHERE WHAT IT READS IS OF BULK AT MOST 1048576: true; the input reads as it did. -/
def fnRulesUptoRow : OpenClaim := { program := "ytffhnkhjfggooabdoor", sum := "b646eff424eeaf4bdf7de1143f625a0d63ed7a3e2f85ccec0ed2ba72ffd1b221", func := "loop.example/g01403/laws.FnRules", spec := "fnRules", inPlace := ["math.Float64bits", "math.Float64frombits"], unfollowed := true, recurses := true, named := ["loop.example/g01403/impl.noShare", "loop.example/g01403/impl.firstPrimes"], apart := false, laid := [("loop.example/g01403/impl.firstPrimes", laid_loop_example_g01403_impl_firstPrimes), ("loop.example/g01403/impl.noShare", laid_loop_example_g01403_impl_noShare)], narrowed := true }
def FnRulesUptoSaid : Prop := fnRulesUptoRow.holds Tryd.pinned (OpenSpec.upto fnRulesSpec)

end Rows
end Go.Proofs.YtffhnkhjfggooabDoor
