
/- Of any scan the program tells the same lines as the model does; its answer owns its memory and the scan is not changed: for all arguments. -/
import Derived.Test.YtmpcalpapkedhaaSnM
import Derived.Test.YtmpcalpapkedhaaRwp
namespace Go.Proofs.Ytmpcalpapkedhaa
open Go Go.ChangeShapes Go.WideShapes Go.ChangeAt Go.RowKit

theorem FnExactScanLines_k1 : (Rows.fnExactScanLinesRow.inPlace == Try.pinned.checked.prog.inPlace 4) = true := by kernel_rfl
theorem FnExactScanLines_k2 : (Rows.fnExactScanLinesRow.unfollowed == Try.pinned.checked.prog.unfollowed 4) = true := by kernel_rfl
theorem FnExactScanLines_k3 : (Rows.fnExactScanLinesRow.recurses == Try.pinned.checked.prog.recurses 4) = true := by kernel_rfl
theorem FnExactScanLines_k4 : (Rows.fnExactScanLinesRow.named == Try.pinned.checked.prog.varsNamed 4) = true := by kernel_rfl
theorem FnExactScanLines_closed : joinedFacts Try.pinned.checked.prog 4 Try.f4 Rows.fnExactScanLinesSpec Rows.fnExactScanLinesRow = true := by
  unfold joinedFacts
  rw [FnExactScanLines_k1, FnExactScanLines_k2, FnExactScanLines_k3, FnExactScanLines_k4, pfMaps, pfStops, pfKnobs, pfHeard, pfEnter, pfLifts', pfMake', pfKeys']
  kernel_rfl
theorem FnExactScanLines_holds : Rows.FnExactScanLinesSaid :=
  OpenClaim.holds_of_wide 4 Try.f4 rfl rfl rfl rfl rfl rfl rfl ⟨rfl, rfl, rfl, rfl, rfl⟩ rfl rfl rfl rfl rfl (by kernel_rfl) Try.func4 FnExactScanLines_closed
    (of_decide_eq_true (by kernel_rfl)) (by unfold Func.isWrapper; first | (rw [if_pos (by decide +kernel)]; kernel_rfl) | (rw [if_neg (by decide +kernel)]; exact ⟨rfl, rfl⟩))
    (fun os started H enc _ => FnExactScanLines_lifted os started H enc)
end Go.Proofs.Ytmpcalpapkedhaa
