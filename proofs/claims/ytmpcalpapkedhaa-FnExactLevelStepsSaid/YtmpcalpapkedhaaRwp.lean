/- Facts of the whole program that each row asks for (reckoned once: they are what takes a row's time and room). -/
import Derived.Test.YtmpcalpapkedhaaRows
import Derived.JoinedOf
namespace Go.Proofs.Ytmpcalpapkedhaa
open Go

theorem pfMaps : mapsRowed Try.pinned.checked.prog = true := by kernel_rfl
theorem pfStops : (Try.pinned.checked.prog.stops == []) = true := by kernel_rfl
theorem pfKnobs : (Try.pinned.checked.prog.stopKnobs == []) = true := by kernel_rfl
theorem pfHeard : Try.pinned.checked.prog.stopsHeard = true := by kernel_rfl
theorem pfEnter : Try.pinned.checked.prog.mayEnter = true := by kernel_rfl
theorem pfLifts : (Try.pinned.checked.prog.liftsFinal == Rows.fnExactPulseTurnsRow.lifted) = true := by kernel_rfl
theorem pfMake : (Try.pinned.checked.prog.make == some Rows.fnExactPulseTurnsRow.make) = true := by kernel_rfl
theorem pfKeys : (Try.pinned.checked.prog.plainKeys == Rows.fnExactPulseTurnsRow.plainKeys) = true := by kernel_rfl
theorem pfLifts' : Try.pinned.checked.prog.liftsFinal = Rows.fnExactPulseTurnsRow.lifted := beq_iff_eq.1 pfLifts
theorem pfMake' : Try.pinned.checked.prog.make = some Rows.fnExactPulseTurnsRow.make := beq_iff_eq.1 pfMake
theorem pfKeys' : Try.pinned.checked.prog.plainKeys = Rows.fnExactPulseTurnsRow.plainKeys := beq_iff_eq.1 pfKeys
end Go.Proofs.Ytmpcalpapkedhaa
