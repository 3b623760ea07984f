/- Numbers that are finite and at least zero: as the model of chapter 3 asks it of one. -/
import Derived.Test.YtebelikahpnobabGeA
import Derived.Test.YtebelikahpnobabFinW
namespace Go.Proofs.Ytebelikahpnobab
open Go Go.ChangeShapes Go.WideShapes Go.ChangeAt Go.RowKit

set_option maxHeartbeats 800000 in
theorem l03Least_any (x : Nat) (w : World) : Calls Try.prog 140 #[.float .f32 x] w fun e w' => e = .returned (.bool (isG x)) ∧ ∃ m, w' = w.drewN m := by
  cases hf : isFin .f32 x
  · have H := Lib.hid (isG_no hf)
    go_enter Try.func140, Try.ntmps140
    go_wp2_with (go_at_call 120; refine (l01Finite_any _ _).mono ?_; rintro e w' ⟨rfl, q, rfl⟩)
    go_ret
    exact ⟨ret_bool H.out.symm, _, rfl⟩
  · have H := Lib.hid (show isG x = (FloatKind.f32.format.order x 0 == some .gt || FloatKind.f32.format.order x 0 == some .eq) by unfold isG; rw [hf]; rfl)
    go_enter Try.func140, Try.ntmps140
    go_wp2_with (go_at_call 120; refine (l01Finite_any _ _).mono ?_; rintro e w' ⟨rfl, q, rfl⟩)
    go_ret
    exact ⟨ret_bool H.out.symm, _, rfl⟩
end Go.Proofs.Ytebelikahpnobab
