
/- Of any lines the program makes the same moved and scaled ones as the model does; its answer owns its memory and the lines are not changed: for all arguments. -/
import Derived.Test.YtmpcalpapkedhaaSfM
import Derived.Test.YtmpcalpapkedhaaRwp
namespace Go.Proofs.Ytmpcalpapkedhaa
open Go Go.ChangeShapes Go.WideShapes Go.ChangeAt Go.RowKit
set_option linter.all false

theorem FnExactShiftLines_k1 : (Rows.fnExactShiftLinesRow.inPlace == Try.pinned.checked.prog.inPlace 6) = true := by kernel_rfl
theorem FnExactShiftLines_k2 : (Rows.fnExactShiftLinesRow.unfollowed == Try.pinned.checked.prog.unfollowed 6) = true := by kernel_rfl
theorem FnExactShiftLines_k3 : (Rows.fnExactShiftLinesRow.recurses == Try.pinned.checked.prog.recurses 6) = true := by kernel_rfl
theorem FnExactShiftLines_k4 : (Rows.fnExactShiftLinesRow.named == Try.pinned.checked.prog.varsNamed 6) = true := by kernel_rfl
theorem FnExactShiftLines_closed : joinedFacts Try.pinned.checked.prog 6 Try.f6 Rows.fnExactShiftLinesSpec Rows.fnExactShiftLinesRow = true := by
  unfold joinedFacts
  rw [FnExactShiftLines_k1, FnExactShiftLines_k2, FnExactShiftLines_k3, FnExactShiftLines_k4, pfMaps, pfStops, pfKnobs, pfHeard, pfEnter, pfLifts', pfMake', pfKeys']
  kernel_rfl
theorem FnExactShiftLines_holds : Rows.FnExactShiftLinesSaid :=
  OpenClaim.holds_of_wide 6 Try.f6 rfl rfl rfl rfl rfl rfl rfl ⟨rfl, rfl, rfl, rfl, rfl⟩ rfl rfl rfl rfl rfl (by kernel_rfl) Try.func6 FnExactShiftLines_closed
    (of_decide_eq_true (by kernel_rfl)) (by unfold Func.isWrapper; first | (rw [if_pos (by decide +kernel)]; kernel_rfl) | (rw [if_neg (by decide +kernel)]; exact ⟨rfl, rfl⟩))
    (fun os started H enc _ => FnExactShiftLines_lifted os started H enc)
end Go.Proofs.Ytmpcalpapkedhaa
