
/- Of any lists of lines and any list the program chooses the same one as the model does, with the same criterion; nothing is changed: for all arguments. -/
import Derived.Test.YtmpcalpapkedhaaCk4
import Derived.Test.YtmpcalpapkedhaaRwp
namespace Go.Proofs.Ytmpcalpapkedhaa
open Go Go.ChangeShapes Go.WideShapes Go.ChangeAt Go.RowKit
set_option linter.all false

theorem FnExactCountLines_k1 : (Rows.fnExactCountLinesRow.inPlace == Try.pinned.checked.prog.inPlace 14) = true := by kernel_rfl
theorem FnExactCountLines_k2 : (Rows.fnExactCountLinesRow.unfollowed == Try.pinned.checked.prog.unfollowed 14) = true := by kernel_rfl
theorem FnExactCountLines_k3 : (Rows.fnExactCountLinesRow.recurses == Try.pinned.checked.prog.recurses 14) = true := by kernel_rfl
theorem FnExactCountLines_k4 : (Rows.fnExactCountLinesRow.named == Try.pinned.checked.prog.varsNamed 14) = true := by kernel_rfl
theorem FnExactCountLines_closed : joinedFacts Try.pinned.checked.prog 14 Try.f14 Rows.fnExactCountLinesSpec Rows.fnExactCountLinesRow = true := by
  unfold joinedFacts
  rw [FnExactCountLines_k1, FnExactCountLines_k2, FnExactCountLines_k3, FnExactCountLines_k4, pfMaps, pfStops, pfKnobs, pfHeard, pfEnter, pfLifts', pfMake', pfKeys']
  kernel_rfl
theorem FnExactCountLines_holds : Rows.FnExactCountLinesSaid :=
  OpenClaim.holds_of_wide 14 Try.f14 rfl rfl rfl rfl rfl rfl rfl ⟨rfl, rfl, rfl, rfl, rfl⟩ rfl rfl rfl rfl rfl (by kernel_rfl) Try.func14 FnExactCountLines_closed
    (of_decide_eq_true (by kernel_rfl)) (by unfold Func.isWrapper; first | (rw [if_pos (by decide +kernel)]; kernel_rfl) | (rw [if_neg (by decide +kernel)]; exact ⟨rfl, rfl⟩))
    (fun os started H enc _ => FnExactCountLines_lifted os started H enc)
end Go.Proofs.Ytmpcalpapkedhaa
