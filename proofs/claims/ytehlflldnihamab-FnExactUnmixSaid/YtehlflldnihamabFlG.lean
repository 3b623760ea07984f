/- A conversion to another kind of number, behind a guard. -/
import Derived.Test.YtehlflldnihamabFlWiden
namespace Go.Proofs.Ytehlflldnihamab
open Go Go.RowKit

section
variable {P : Program} {w : World} {ops : Array Oper} {rest : List Oper} {a : Act} {Q : Exit → Act → World → Prop} {dst : Option Tmp} {ty : TypeId} {ps : String} {af : Array Edge}
theorem wpL_fconv_g {x : Operand} {src to : TypeId} {g : Nat × Bool}
    (h : Region.wanted { dst := dst, op := .convert src to x, type := ty, pos := ps, after := af, guard := some g } (yielded ops a.tmps) = true ∧ ∃ (s d : FloatKind) (b : Nat), a.eval x = .float s b ∧ (P.underlying src).isSome = true ∧ P.underlying to = some (.float d) ∧ s ≠ d ∧ convOk s b d ∧
      ∀ t n, wpList P ops Q rest (a.put dst (.float d (pick d (fconv s b d) t))) (w.drewN n)) :
    wpList P ops Q ({ dst := dst, op := .convert src to x, type := ty, pos := ps, after := af, guard := some g } :: rest) a w := by
  obtain ⟨hw, s, d, b, hx, hs, hd, hne, hok, hK⟩ := h
  refine wpList_step fun K' hK' => ?_
  rw [if_pos hw]
  obtain ⟨t, n, hrun⟩ := run_fconv (P := P) w hne b hok
  obtain ⟨u, hs'⟩ := Option.isSome_iff_exists.1 hs
  unfold Oper.wp
  have hr : (convert src to (.float s b)).run P w = .ok (.float d (pick d (fconv s b d) t)) (w.drewN n) := by
    cases u <;> simp [convert, run_underlying hs', run_underlying hd, hrun]
  simp [execOp, hx, hr]
  exact hK' _ _ (hK t n)
end
end Go.Proofs.Ytehlflldnihamab
