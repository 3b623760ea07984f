
/- Of any pulse the program tells the same four numbers as the model does; its answer owns its memory: for all arguments. -/
import Derived.Test.YtmpcalpapkedhaaPtM
import Derived.Test.YtmpcalpapkedhaaRwp
namespace Go.Proofs.Ytmpcalpapkedhaa
open Go Go.ChangeShapes Go.WideShapes Go.ChangeAt Go.RowKit
set_option linter.all false

theorem FnExactPulseTurns_k1 : (Rows.fnExactPulseTurnsRow.inPlace == Try.pinned.checked.prog.inPlace 3) = true := by kernel_rfl
theorem FnExactPulseTurns_k2 : (Rows.fnExactPulseTurnsRow.unfollowed == Try.pinned.checked.prog.unfollowed 3) = true := by kernel_rfl
theorem FnExactPulseTurns_k3 : (Rows.fnExactPulseTurnsRow.recurses == Try.pinned.checked.prog.recurses 3) = true := by kernel_rfl
theorem FnExactPulseTurns_k4 : (Rows.fnExactPulseTurnsRow.named == Try.pinned.checked.prog.varsNamed 3) = true := by kernel_rfl
theorem FnExactPulseTurns_closed : joinedFacts Try.pinned.checked.prog 3 Try.f3 Rows.fnExactPulseTurnsSpec Rows.fnExactPulseTurnsRow = true := by
  unfold joinedFacts
  rw [FnExactPulseTurns_k1, FnExactPulseTurns_k2, FnExactPulseTurns_k3, FnExactPulseTurns_k4, pfMaps, pfStops, pfKnobs, pfHeard, pfEnter, pfLifts', pfMake', pfKeys']
  kernel_rfl
theorem FnExactPulseTurns_holds : Rows.FnExactPulseTurnsSaid :=
  OpenClaim.holds_of_wide 3 Try.f3 rfl rfl rfl rfl rfl rfl rfl ⟨rfl, rfl, rfl, rfl, rfl⟩ rfl rfl rfl rfl rfl (by kernel_rfl) Try.func3 FnExactPulseTurns_closed
    (of_decide_eq_true (by kernel_rfl)) (by unfold Func.isWrapper; first | (rw [if_pos (by decide +kernel)]; kernel_rfl) | (rw [if_neg (by decide +kernel)]; exact ⟨rfl, rfl⟩))
    (fun os started H enc _ => FnExactPulseTurns_lifted os started H enc)
end Go.Proofs.Ytmpcalpapkedhaa
