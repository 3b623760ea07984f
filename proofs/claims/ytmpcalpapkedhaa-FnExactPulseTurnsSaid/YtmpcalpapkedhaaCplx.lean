
/- complex128 of a complex64, and the laws' own test whether two complex numbers are the same. -/
import Derived.Test.YtmpcalpapkedhaaSame
namespace Go.Proofs.Ytmpcalpapkedhaa
open Go Go.RowKit

theorem run_cwiden {P : Program} (w : World) (a b : Nat) : ∃ s t n, (Conv.complexToComplex .f32 a b .f64).run P w = .ok (.complex .f64 (pick .f64 (fconv .f32 a .f64) s) (pick .f64 (fconv .f32 b .f64) t)) (w.drewN n) := by
  obtain ⟨s, n, h1⟩ := run_fconv (P := P) w (show FloatKind.f32 ≠ .f64 from FloatKind.noConfusion) a (convOk_widen a)
  obtain ⟨t, m, h2⟩ := run_fconv (P := P) (w.drewN n) (show FloatKind.f32 ≠ .f64 from FloatKind.noConfusion) b (convOk_widen b)
  refine ⟨s, t, n + m, ?_⟩
  simp [Conv.complexToComplex, h1, h2]
variable {P : Program} {w : World} {ops : Array Oper} {rest : List Oper} {a : Act} {Q : Exit → Act → World → Prop} {dst : Option Tmp} {ty : TypeId} {ps : String} {af : Array Edge}
theorem wpL_cwiden {x : Operand} {src to : TypeId}
    (h : ∃ (re im : Nat), a.eval x = .complex .f32 re im ∧ (P.underlying src).isSome = true ∧ P.underlying to = some (.complex .f64) ∧
      ∀ s t n, wpList P ops Q rest (a.put dst (.complex .f64 (pick .f64 (fconv .f32 re .f64) s) (pick .f64 (fconv .f32 im .f64) t))) (w.drewN n)) :
    wpList P ops Q ({ dst := dst, op := .convert src to x, type := ty, pos := ps, after := af, guard := none } :: rest) a w := by
  obtain ⟨re, im, hx, hs, hd, hK⟩ := h
  refine wpList_plain rfl fun K' hK' => ?_
  obtain ⟨s, t, n, hrun⟩ := run_cwiden (P := P) w re im
  obtain ⟨u, hs'⟩ := Option.isSome_iff_exists.1 hs
  unfold Oper.wp
  have hr : (convert src to (.complex .f32 re im)).run P w = .ok (.complex .f64 (pick .f64 (fconv .f32 re .f64) s) (pick .f64 (fconv .f32 im .f64) t)) (w.drewN n) := by
    cases u <;> simp [convert, run_underlying hs', run_underlying hd, hrun]
  simp [execOp, hx, hr]
  exact hK' _ _ (hK s t n)
set_option maxHeartbeats 400000 in
theorem sameComplex_any (a b c d : Nat) (w : World) (h1 : canon .f64 a = canon .f64 c) (h2 : canon .f64 b = canon .f64 d) :
    Calls Try.prog 79 #[.complex .f64 a b, .complex .f64 c d] w fun e w' => e = .returned (.bool true) ∧ ∃ n, w' = w.drewN n := by
  have H1 := Lib.hid h1
  have H2 := Lib.hid h2
  clear h1 h2
  go_enter Try.func79, Try.ntmps79
  go_wp2_with (first | (go_at_call 54; (with_reducible refine (sameFloat_any _ _ _ H1.out).mono ?_); rintro e w' ⟨rfl, n, rfl⟩) | (go_at_call 54; (with_reducible refine (sameFloat_any _ _ _ H2.out).mono ?_); rintro e w' ⟨rfl, n, rfl⟩))
  go_ret
  exact ⟨rfl, _, rfl⟩
end Go.Proofs.Ytmpcalpapkedhaa
