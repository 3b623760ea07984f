
/- The walk of math.Sqrt. -/
import Derived.Test.YtmpcalpapkedhaaRoot
import Derived.Test.YtmpcalpapkedhaaSameA
namespace Go.Proofs.Ytmpcalpapkedhaa
open Go Go.RowKit
theorem run_mathsqrt (x : Nat) (w : World) : ∃ s n, (callFunc 235 #[.float .f64 x]).run Try.prog w = .ok (.value (.float .f64 (pick .f64 (fsqrt x) s))) (w.drewN n) := by
  obtain ⟨s, n, h⟩ := run_sqrt (P := Try.prog) w x
  have h2 : (callFunc 235 #[.float .f64 x]).run Try.prog w = (Extern.MathSqrt.sqrt #[.float .f64 x] >>= fun v => pure (Next.value v)).run Try.prog w := by kernel_rfl
  exact ⟨s, n, by rw [h2, Sem.run_bind, h]; rfl⟩
set_option maxHeartbeats 400000 in
theorem mathSqrt_any (x : Nat) (w : World) :
    Calls Try.prog 209 #[.float .f64 x] w fun e w' => ∃ s n, e = .returned (.float .f64 (pick .f64 (fsqrt x) s)) ∧ w' = w.drewN n := by
  obtain ⟨s, n, h⟩ := run_mathsqrt x w
  go_enter Try.func209, Try.ntmps209
  go_wp2
  go_ret
  exact ⟨s, n, rfl, rfl⟩
end Go.Proofs.Ytmpcalpapkedhaa
