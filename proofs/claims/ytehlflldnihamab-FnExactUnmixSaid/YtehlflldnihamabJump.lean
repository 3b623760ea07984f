/- A loop by 'goto': a part of XStp, for seats that lack the rest. -/
import Derived.Test.YtehlflldnihamabRowKit
namespace Go.Proofs.Ytehlflldnihamab
open Go Go.ChangeShapes Go.WideShapes Go.ChangeAt Go.RowKit

/-- A loop by 'goto': what holds at each jump; the first pass may go on with the others. -/
theorem wp_scope_rest {P : Program} {Q : Exit → Act → World → Prop} {a : Act} {w : World} {c rest : Code} (l : Nat) (J : Act → World → Prop) (μ : Act → World → Nat) (hf : findLabel c l = some (Code.skip.seq rest))
    (pass : ∀ a w, J a w → rest.wp P (Exit.jump l (fun a' w' => J a' w' ∧ μ a' w' < μ a w) Q) a w)
    (first : (∀ a w, J a w → rest.wp P (Exit.jump l J Q) a w) → c.wp P (Exit.jump l J Q) a w) : (Code.scope c).wp P Q a w :=
  wp_scope_jumps l J μ hf (first fun a w h => Code.wp_mono (fun e a' w' he => by
    unfold Exit.jump at he ⊢
    cases e <;> first | exact he | (split at he <;> simp_all)) (pass a w h)) fun a w h => wp_seq (wp_skip (pass a w h))
end Go.Proofs.Ytehlflldnihamab
