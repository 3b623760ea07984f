/- The growth of a vector that is damped. -/
import Derived.Test.YtebelikahpnobaaStp
namespace Go.Proofs.Ytebelikahpnobaa
open Go Go.ChangeShapes Go.WideShapes Go.ChangeAt Go.RowKit

def dampG (r o p d : Nat) (S : Nat → Nat) (j : Nat) : Nat :=
  if j = 0 then fbin .sub .f32 (fbin .sub .f32 0 (fbin .mul .f32 d (S 0))) (fbin .mul .f32 o (S 1))
  else if j = 1 then fbin .sub .f32 (fbin .sub .f32 (fbin .mul .f32 o (S 0)) (fbin .mul .f32 d (S 1))) (fbin .mul .f32 r (S 2))
  else fbin .add .f32 (fbin .mul .f32 r (S 1)) (fbin .mul .f32 p (fbin .sub .f32 1065353216 (S 2)))
set_option maxRecDepth 100000 in
set_option maxHeartbeats 6400000 in
theorem dampGrow_any (r o p d : Nat) (xa : Option Addr) (cap : Nat) (X R : Nat → Nat) (w : World) (hX : Rd w xa 3 X) (hL : LikeP X R 3) :
    Calls Try.prog 79 #[.agg #[.float .f32 r, .float .f32 o, .float .f32 p, .float .f32 d], .slice xa 3 cap] w (GrowRet (dampG r o p d R) 3 w) := by
  have HX := hX.alloc (.cells #[.float .f32 r, .float .f32 o, .float .f32 p, .float .f32 d] 81)
  obtain ⟨xb, xo, hxa, hcx⟩ := HX
  have e := hxa (by omega)
  subst e
  have r0 := hcx 0 (by omega)
  have r1 := hcx 1 (by omega)
  have r2 := hcx 2 (by omega)
  obtain ⟨s0, e0⟩ := hL 0 (by omega)
  obtain ⟨s1, e1⟩ := hL 1 (by omega)
  obtain ⟨s2, e2⟩ := hL 2 (by omega)
  rw [e0, Nat.add_zero] at r0
  rw [e1] at r1
  rw [e2] at r2
  obtain ⟨U, hU⟩ : ∃ U, U = R 0 := ⟨_, rfl⟩
  obtain ⟨V, hV⟩ : ∃ V, V = R 1 := ⟨_, rfl⟩
  obtain ⟨Z, hZ⟩ : ∃ Z, Z = R 2 := ⟨_, rfl⟩
  rw [← hU] at r0
  rw [← hV] at r1
  rw [← hZ] at r2
  have H0 := Lib.hid (show dampG r o p d R 0 = fbin .sub .f32 (fbin .sub .f32 0 (fbin .mul .f32 d U)) (fbin .mul .f32 o V) by rw [hU, hV]; rfl)
  have H1 := Lib.hid (show dampG r o p d R 1 = fbin .sub .f32 (fbin .sub .f32 (fbin .mul .f32 o U) (fbin .mul .f32 d V)) (fbin .mul .f32 r Z) by rw [hU, hV, hZ]; rfl)
  have H2 := Lib.hid (show dampG r o p d R 2 = fbin .add .f32 (fbin .mul .f32 r V) (fbin .mul .f32 p (fbin .sub .f32 1065353216 Z)) by rw [hV, hZ]; rfl)
  clear e0 e1 e2 hcx hxa hX hL hU hV hZ
  have hp := fun op => fbin_pick_l op .f32
  have hq := fun op => fbin_pick_r op .f32
  go_enter Try.func79, Try.ntmps79
  go_wp2_with fail
  go_quiet (fail)
  go_wp2_with ((with_reducible refine wpL_fbin ?_); refine ⟨_, _, _, rfl, rfl, rfl, fun s n => ?_⟩)
  go_ret
  exact ⟨_, _, rfl, made3 _ (by simp) (by simp; try omega) _ _ _, like3 H0.out H1.out H2.out, by (repeat (first | with_reducible exact Below.refl _ _ | with_reducible refine Below.drewN ?_ _ | with_reducible refine Below.alloc ?_ (by simp; try omega) _))⟩
end Go.Proofs.Ytebelikahpnobaa
