/- For all levels, rates, shares and steps the program tells the shares behind the steps just where the model does, and the same; the lists are not changed: for all arguments. -/
import Derived.Test.YtmpcalpapkedhaaLvm
import Derived.Test.YtmpcalpapkedhaaRwp
namespace Go.Proofs.Ytmpcalpapkedhaa
open Go Go.ChangeShapes Go.WideShapes Go.ChangeAt Go.RowKit
set_option linter.all false

theorem FnExactLevelSteps_k1 : (Rows.fnExactLevelStepsRow.inPlace == Try.pinned.checked.prog.inPlace 13) = true := by kernel_rfl
theorem FnExactLevelSteps_k2 : (Rows.fnExactLevelStepsRow.unfollowed == Try.pinned.checked.prog.unfollowed 13) = true := by kernel_rfl
theorem FnExactLevelSteps_k3 : (Rows.fnExactLevelStepsRow.recurses == Try.pinned.checked.prog.recurses 13) = true := by kernel_rfl
theorem FnExactLevelSteps_k4 : (Rows.fnExactLevelStepsRow.named == Try.pinned.checked.prog.varsNamed 13) = true := by kernel_rfl
theorem FnExactLevelSteps_closed : joinedFacts Try.pinned.checked.prog 13 Try.f13 Rows.fnExactLevelStepsSpec Rows.fnExactLevelStepsRow = true := by
  unfold joinedFacts
  rw [FnExactLevelSteps_k1, FnExactLevelSteps_k2, FnExactLevelSteps_k3, FnExactLevelSteps_k4, pfMaps, pfStops, pfKnobs, pfHeard, pfEnter, pfLifts', pfMake', pfKeys']
  kernel_rfl
theorem FnExactLevelSteps_holds : Rows.FnExactLevelStepsSaid :=
  OpenClaim.holds_of_wide 13 Try.f13 rfl rfl rfl rfl rfl rfl rfl ⟨rfl, rfl, rfl, rfl, rfl⟩ rfl rfl rfl rfl rfl (by kernel_rfl) Try.func13 FnExactLevelSteps_closed
    (of_decide_eq_true (by kernel_rfl)) (by unfold Func.isWrapper; first | (rw [if_pos (by decide +kernel)]; kernel_rfl) | (rw [if_neg (by decide +kernel)]; exact ⟨rfl, rfl⟩))
    (fun os started H enc _ => FnExactLevelSteps_lifted os started H enc)
end Go.Proofs.Ytmpcalpapkedhaa
