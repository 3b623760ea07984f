/- The walks that ask whether a number is subnormal, in the model's package and in the program. -/
import Derived.Test.YthpdiknpfpejladSubn
import Derived.Test.YthpdiknpfpejladSame
namespace Go.Proofs.Ythpdiknpfpejlad
open Go Go.RowKit
def subn (x : Nat) : Bool := decide (0 < x % 2147483648) && decide (x % 2147483648 < 8388608)
theorem implIsSubnormal_any (x : Nat) (w : World) :
    Calls Try.prog 28 #[.float .f32 x] w fun e w' => e = .returned (.bool (subn x)) ∧ w = w' := by
  by_cases h0 : x % 2147483648 = 0
  · have hr : subn x = false := by simp [subn, h0]
    have h1 : (FloatKind.f32.format.order x 0 != some .eq) = false := by rw [order_zero_small x h0]; rfl
    rw [hr]
    clear h0 hr
    go_enter Try.func28, Try.ntmps28
    go_wp2
    go_ret
    exact ⟨rfl, rfl⟩
  · by_cases h1 : x % 2147483648 < 8388608
    · have hr : subn x = true := by simp [subn, h1]; omega
      obtain ⟨k1, k2, k3⟩ := order_small x (by omega) h1
      rw [hr]
      clear h0 hr h1
      go_enter Try.func28, Try.ntmps28
      go_wp2
      go_ret
      exact ⟨rfl, rfl⟩
    · have hr : subn x = false := by simp [subn, h1]
      obtain ⟨k1, k2 | ⟨k2, k3⟩⟩ := order_big x h1
      · rw [hr]
        clear h0 hr h1
        go_enter Try.func28, Try.ntmps28
        go_wp2
        go_ret
        exact ⟨rfl, rfl⟩
      · rw [hr]
        clear h0 hr h1
        go_enter Try.func28, Try.ntmps28
        go_wp2
        go_ret
        exact ⟨rfl, rfl⟩
end Go.Proofs.Ythpdiknpfpejlad
