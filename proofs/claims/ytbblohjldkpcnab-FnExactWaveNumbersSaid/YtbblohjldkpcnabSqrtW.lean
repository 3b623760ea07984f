
/- The walk of math.Sqrt. -/
import Derived.Test.YtbblohjldkpcnabRoot
import Derived.Test.YtbblohjldkpcnabSameA
namespace Go.Proofs.Ytbblohjldkpcnab
open Go Go.RowKit
theorem run_mathsqrt (x : Nat) (w : World) : ∃ s n, (callFunc 185 #[.float .f64 x]).run Try.prog w = .ok (.value (.float .f64 (pick .f64 (fsqrt x) s))) (w.drewN n) := by
  obtain ⟨s, n, h⟩ := run_sqrt (P := Try.prog) w x
  have h2 : (callFunc 185 #[.float .f64 x]).run Try.prog w = (Extern.MathSqrt.sqrt #[.float .f64 x] >>= fun v => pure (Next.value v)).run Try.prog w := by kernel_rfl
  exact ⟨s, n, by rw [h2, Sem.run_bind, h]; rfl⟩
set_option maxHeartbeats 400000 in
theorem mathSqrt_any (x : Nat) (w : World) :
    Calls Try.prog 156 #[.float .f64 x] w fun e w' => ∃ s n, e = .returned (.float .f64 (pick .f64 (fsqrt x) s)) ∧ w' = w.drewN n := by
  obtain ⟨s, n, h⟩ := run_mathsqrt x w
  go_enter Try.func156, Try.ntmps156
  go_wp2
  go_ret
  exact ⟨s, n, rfl, rfl⟩
end Go.Proofs.Ytbblohjldkpcnab
