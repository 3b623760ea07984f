
/- The walks of what asks whether a number is finite, in the model's package. -/
import Derived.Test.YtogmcinaoemnpabAbsW
namespace Go.Proofs.Ytogmcinaoemnpab
open Go Go.RowKit

set_option maxHeartbeats 400000 in
theorem l01Finite_any (x : Nat) (w : World) :
    Calls Try.prog 56 #[.float .f32 x] w fun e w' => e = .returned (.bool (isFin .f32 x)) ∧ ∃ n, w' = w.drewN n := by
  have h1 := sub_self .f32 x
  have hp := order_pick_l .f32
  go_enter Try.func56, Try.ntmps56
  go_wp2_with ((with_reducible refine wpL_fbin ?_); refine ⟨_, _, _, rfl, rfl, rfl, fun s n => ?_⟩)
  go_ret
  exact ⟨rfl, _, rfl⟩
end Go.Proofs.Ytogmcinaoemnpab
