
/- Numbers greater than 0, and lists told if all of it is finite, as the model of chapter 2 asks them. -/
import Derived.Test.YtogmcinaoemnpaaPush
import Derived.Test.YtogmcinaoemnpaaFinS
namespace Go.Proofs.Ytogmcinaoemnpaa
open Go Go.ChangeShapes Go.WideShapes Go.ChangeAt Go.RowKit

set_option maxHeartbeats 800000 in
theorem l02Above_any (x : Nat) (w : World) : Calls Try.prog 97 #[.float .f32 x] w fun e w' => e = .returned (.bool (isP x)) ∧ ∃ m, w' = w.drewN m := by
  cases hf : isFin .f32 x
  · have H := Lib.hid (show isP x = false by simp [isP, hf])
    go_enter Try.func97, Try.ntmps97
    go_wp2_with (go_at_call 117; refine (l01Finite_any _ _).mono ?_; rintro e w' ⟨rfl, q, rfl⟩)
    go_ret
    exact ⟨ret_bool H.out.symm, _, rfl⟩
  · have H := Lib.hid (show isP x = (FloatKind.f32.format.order x 0 == some .gt) by simp [isP, hf])
    go_enter Try.func97, Try.ntmps97
    go_wp2_with (go_at_call 117; refine (l01Finite_any _ _).mono ?_; rintro e w' ⟨rfl, q, rfl⟩)
    go_ret
    exact ⟨ret_bool H.out.symm, _, rfl⟩
theorem l02List_any (v : Value) (B n : Nat) (X : Nat → Nat) (w : World) (hown : w.ownsRow B 32 1 v n (rowOf X n)) (hn : n ≤ 1048576) :
    Calls Try.prog 48 #[v] w fun e w' => e = .returned (.tuple #[if finL X n = true then v else .slice none 0 0, .bool (finL X n)]) ∧ ∃ m, w' = w.drewN m := by
  obtain ⟨xa, cap, rfl, _, _, hX⟩ := rd_of_own hown
  clear hown
  cases hf : finL X n
  · go_enter Try.func48, Try.ntmps48
    go_wp2_with (go_at_call 93; refine (l02Finite_any _ _ _ X _ hX hn).mono ?_; rintro e w' ⟨rfl, q, rfl⟩)
    go_ret2
    exact ⟨rfl, _, rfl⟩
  · go_enter Try.func48, Try.ntmps48
    go_wp2_with (go_at_call 93; refine (l02Finite_any _ _ _ X _ hX hn).mono ?_; rintro e w' ⟨rfl, q, rfl⟩)
    go_ret2
    exact ⟨rfl, _, rfl⟩
end Go.Proofs.Ytogmcinaoemnpaa
