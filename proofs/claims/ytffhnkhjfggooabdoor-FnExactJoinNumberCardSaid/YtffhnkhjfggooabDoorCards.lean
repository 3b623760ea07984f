/-
  DERIVED. GIVEN WITH THE SEED: THE CARDS: each row of YtffhnkhjfggooabDoorRows.lean that lists a variable, with what it lists TIED to the program's text (the seventh form; the later family's looks); each row that meets fmt, with fmt's text TOLD by the authors' own Lean function (tested against real Go, not proved from fmt's source: count such statements apart). THE CARD IS WHAT COUNTS. Prove the row's statement (the work); the ties are given (YtffhnkhjfggooabDoorTie.lean); close each card by the builder's one call (the guide's Derived/Test/ToyasCard.lean, 'card_holds'). Laid BY PROGRAM, IN A SANDBOX (cutbox-door.mjs). By AI agents, Wed Nov 11 2026. No macro, syntax, notation, axiom, sorry.
-/
import Derived.Test.YtffhnkhjfggooabDoorRows
import GoSem.ClaimSeven
namespace Go.Proofs.YtffhnkhjfggooabDoor
namespace Rows

/-- THE TIED CARD OF 'laws.FnExactJoinShare'. -/
def fnExactJoinShareCard : Claim7 := { stood := { row := fnExactJoinShareRow, standIns := [], harness := (true, "82a971a80951f1e1f370a5d099a44176e4ce2428fe6b1224963d045304a3b7df"), looks := false }, kinds := [], alts := [], laidByText := true, laidKinds := [.data, .data], laidTests := true, laidLooks := .later }
def FnExactJoinShareCardSaid : Prop := Claim7.holds Tryd.pinned (.plain (OpenSpec.ofChange fnExactJoinShareSpec)) fnExactJoinShareCard

/-- THE TIED CARD OF 'laws.FnExactJoinRow'. -/
def fnExactJoinRowCard : Claim7 := { stood := { row := fnExactJoinRowRow, standIns := [], harness := (true, "82a971a80951f1e1f370a5d099a44176e4ce2428fe6b1224963d045304a3b7df"), looks := false }, kinds := [], alts := [], laidByText := true, laidKinds := [.data, .data], laidTests := true, laidLooks := .later }
def FnExactJoinRowCardSaid : Prop := Claim7.holds Tryd.pinned (.plain (OpenSpec.ofChange fnExactJoinRowSpec)) fnExactJoinRowCard

/-- THE TIED CARD OF 'laws.FnExactJoinNumber'. -/
def fnExactJoinNumberCard : Claim7 := { stood := { row := fnExactJoinNumberRow, standIns := [], harness := (true, "82a971a80951f1e1f370a5d099a44176e4ce2428fe6b1224963d045304a3b7df"), looks := false }, kinds := [], alts := [], laidByText := true, laidKinds := [.data, .data], laidTests := true, laidLooks := .later }
def FnExactJoinNumberCardSaid : Prop := Claim7.holds Tryd.pinned (.plain (OpenSpec.ofChange fnExactJoinNumberSpec)) fnExactJoinNumberCard

/-- THE TIED CARD OF 'laws.FnExactSixShare'. -/
def fnExactSixShareCard : Claim7 := { stood := { row := fnExactSixShareRow, standIns := [], harness := (true, "82a971a80951f1e1f370a5d099a44176e4ce2428fe6b1224963d045304a3b7df"), looks := false }, kinds := [], alts := [], laidByText := true, laidKinds := [.data, .data], laidTests := true, laidLooks := .later }
def FnExactSixShareCardSaid : Prop := Claim7.holds Tryd.pinned (.plain (OpenSpec.ofChange fnExactSixShareSpec)) fnExactSixShareCard

/-- THE TIED CARD OF 'laws.FnExactShareRow'. -/
def fnExactShareRowCard : Claim7 := { stood := { row := fnExactShareRowRow, standIns := [], harness := (true, "82a971a80951f1e1f370a5d099a44176e4ce2428fe6b1224963d045304a3b7df"), looks := false }, kinds := [], alts := [], laidByText := true, laidKinds := [.data, .data], laidTests := true, laidLooks := .later }
def FnExactShareRowCardSaid : Prop := Claim7.holds Tryd.pinned (.plain (OpenSpec.ofChange fnExactShareRowSpec)) fnExactShareRowCard

/-- THE TIED CARD OF 'laws.FnJoins'. -/
def fnJoinsCard : Claim7 := { stood := { row := fnJoinsRow, standIns := [], harness := (true, "82a971a80951f1e1f370a5d099a44176e4ce2428fe6b1224963d045304a3b7df"), looks := false }, kinds := [], alts := [], laidByText := true, laidKinds := [.data, .data], laidTests := true, laidLooks := .later }
def FnJoinsCardSaid : Prop := Claim7.holds Tryd.pinned (.plain (OpenSpec.ofChange fnJoinsSpec)) fnJoinsCard

/-- THE TIED CARD OF 'laws.FnSixes'. -/
def fnSixesCard : Claim7 := { stood := { row := fnSixesRow, standIns := [], harness := (true, "82a971a80951f1e1f370a5d099a44176e4ce2428fe6b1224963d045304a3b7df"), looks := false }, kinds := [], alts := [], laidByText := true, laidKinds := [.data, .data], laidTests := true, laidLooks := .later }
def FnSixesCardSaid : Prop := Claim7.holds Tryd.pinned (.plain (OpenSpec.ofChange fnSixesSpec)) fnSixesCard

/-- THE TIED CARD OF 'laws.FnRules'. -/
def fnRulesCard : Claim7 := { stood := { row := fnRulesRow, standIns := [], harness := (true, "82a971a80951f1e1f370a5d099a44176e4ce2428fe6b1224963d045304a3b7df"), looks := false }, kinds := [], alts := [], laidByText := true, laidKinds := [.data, .data], laidTests := true, laidLooks := .later }
def FnRulesCardSaid : Prop := Claim7.holds Tryd.pinned (.plain (OpenSpec.ofChange fnRulesSpec)) fnRulesCard

/-- THE SECOND FORM's CARD OF 'laws.FnExactJoinShare'. -/
def fnExactJoinShareUptoCard : Claim7 := { stood := { row := fnExactJoinShareUptoRow, standIns := [], harness := (true, "82a971a80951f1e1f370a5d099a44176e4ce2428fe6b1224963d045304a3b7df"), looks := false }, kinds := [], alts := [], laidByText := true, laidKinds := [.data, .data], laidTests := true, laidLooks := .later }
def FnExactJoinShareUptoCardSaid : Prop := Claim7.holds Tryd.pinned (.plain (OpenSpec.upto fnExactJoinShareSpec)) fnExactJoinShareUptoCard

/-- THE SECOND FORM's CARD OF 'laws.FnExactJoinRow'. -/
def fnExactJoinRowUptoCard : Claim7 := { stood := { row := fnExactJoinRowUptoRow, standIns := [], harness := (true, "82a971a80951f1e1f370a5d099a44176e4ce2428fe6b1224963d045304a3b7df"), looks := false }, kinds := [], alts := [], laidByText := true, laidKinds := [.data, .data], laidTests := true, laidLooks := .later }
def FnExactJoinRowUptoCardSaid : Prop := Claim7.holds Tryd.pinned (.plain (OpenSpec.upto fnExactJoinRowSpec)) fnExactJoinRowUptoCard

/-- THE SECOND FORM's CARD OF 'laws.FnExactJoinNumber'. -/
def fnExactJoinNumberUptoCard : Claim7 := { stood := { row := fnExactJoinNumberUptoRow, standIns := [], harness := (true, "82a971a80951f1e1f370a5d099a44176e4ce2428fe6b1224963d045304a3b7df"), looks := false }, kinds := [], alts := [], laidByText := true, laidKinds := [.data, .data], laidTests := true, laidLooks := .later }
def FnExactJoinNumberUptoCardSaid : Prop := Claim7.holds Tryd.pinned (.plain (OpenSpec.upto fnExactJoinNumberSpec)) fnExactJoinNumberUptoCard

/-- THE SECOND FORM's CARD OF 'laws.FnExactSixShare'. -/
def fnExactSixShareUptoCard : Claim7 := { stood := { row := fnExactSixShareUptoRow, standIns := [], harness := (true, "82a971a80951f1e1f370a5d099a44176e4ce2428fe6b1224963d045304a3b7df"), looks := false }, kinds := [], alts := [], laidByText := true, laidKinds := [.data, .data], laidTests := true, laidLooks := .later }
def FnExactSixShareUptoCardSaid : Prop := Claim7.holds Tryd.pinned (.plain (OpenSpec.upto fnExactSixShareSpec)) fnExactSixShareUptoCard

/-- THE SECOND FORM's CARD OF 'laws.FnExactShareRow'. -/
def fnExactShareRowUptoCard : Claim7 := { stood := { row := fnExactShareRowUptoRow, standIns := [], harness := (true, "82a971a80951f1e1f370a5d099a44176e4ce2428fe6b1224963d045304a3b7df"), looks := false }, kinds := [], alts := [], laidByText := true, laidKinds := [.data, .data], laidTests := true, laidLooks := .later }
def FnExactShareRowUptoCardSaid : Prop := Claim7.holds Tryd.pinned (.plain (OpenSpec.upto fnExactShareRowSpec)) fnExactShareRowUptoCard

/-- THE SECOND FORM's CARD OF 'laws.FnJoins'. -/
def fnJoinsUptoCard : Claim7 := { stood := { row := fnJoinsUptoRow, standIns := [], harness := (true, "82a971a80951f1e1f370a5d099a44176e4ce2428fe6b1224963d045304a3b7df"), looks := false }, kinds := [], alts := [], laidByText := true, laidKinds := [.data, .data], laidTests := true, laidLooks := .later }
def FnJoinsUptoCardSaid : Prop := Claim7.holds Tryd.pinned (.plain (OpenSpec.upto fnJoinsSpec)) fnJoinsUptoCard

/-- THE SECOND FORM's CARD OF 'laws.FnSixes'. -/
def fnSixesUptoCard : Claim7 := { stood := { row := fnSixesUptoRow, standIns := [], harness := (true, "82a971a80951f1e1f370a5d099a44176e4ce2428fe6b1224963d045304a3b7df"), looks := false }, kinds := [], alts := [], laidByText := true, laidKinds := [.data, .data], laidTests := true, laidLooks := .later }
def FnSixesUptoCardSaid : Prop := Claim7.holds Tryd.pinned (.plain (OpenSpec.upto fnSixesSpec)) fnSixesUptoCard

/-- THE SECOND FORM's CARD OF 'laws.FnRules'. -/
def fnRulesUptoCard : Claim7 := { stood := { row := fnRulesUptoRow, standIns := [], harness := (true, "82a971a80951f1e1f370a5d099a44176e4ce2428fe6b1224963d045304a3b7df"), looks := false }, kinds := [], alts := [], laidByText := true, laidKinds := [.data, .data], laidTests := true, laidLooks := .later }
def FnRulesUptoCardSaid : Prop := Claim7.holds Tryd.pinned (.plain (OpenSpec.upto fnRulesSpec)) fnRulesUptoCard
end Rows
end Go.Proofs.YtffhnkhjfggooabDoor
