/- The growth of a lamp's light. -/
import Derived.Test.YtebelikahpnobaaStp
namespace Go.Proofs.Ytebelikahpnobaa
open Go Go.ChangeShapes Go.WideShapes Go.ChangeAt Go.RowKit

def lampG (p l g s : Nat) (S : Nat → Nat) (j : Nat) : Nat :=
  if j = 0 then fbin .sub .f32 (fbin .sub .f32 p (S 0)) (fbin .mul .f32 (fbin .mul .f32 g (S 0)) (S 1))
  else fbin .add .f32 (fbin .mul .f32 (fbin .sub .f32 (fbin .mul .f32 g (S 0)) l) (S 1)) (fbin .mul .f32 s (S 0))
set_option maxRecDepth 100000 in
set_option maxHeartbeats 3200000 in
theorem lampGrow_any (p l g s : Nat) (xa : Option Addr) (cap : Nat) (X R : Nat → Nat) (w : World) (hX : Rd w xa 2 X) (hL : LikeP X R 2) :
    Calls Try.prog 76 #[.agg #[.float .f32 p, .float .f32 l, .float .f32 g, .float .f32 s], .slice xa 2 cap] w (GrowRet (lampG p l g s R) 2 w) := by
  have HX := hX.alloc (.cells #[.float .f32 p, .float .f32 l, .float .f32 g, .float .f32 s] 64)
  obtain ⟨xb, xo, hxa, hcx⟩ := HX
  have e := hxa (by omega)
  subst e
  have r0 := hcx 0 (by omega)
  have r1 := hcx 1 (by omega)
  obtain ⟨s0, e0⟩ := hL 0 (by omega)
  obtain ⟨s1, e1⟩ := hL 1 (by omega)
  rw [e0, Nat.add_zero] at r0
  rw [e1] at r1
  obtain ⟨U, hU⟩ : ∃ U, U = R 0 := ⟨_, rfl⟩
  obtain ⟨V, hV⟩ : ∃ V, V = R 1 := ⟨_, rfl⟩
  rw [← hU] at r0
  rw [← hV] at r1
  have H0 := Lib.hid (show lampG p l g s R 0 = fbin .sub .f32 (fbin .sub .f32 p U) (fbin .mul .f32 (fbin .mul .f32 g U) V) by rw [hU, hV]; rfl)
  have H1 := Lib.hid (show lampG p l g s R 1 = fbin .add .f32 (fbin .mul .f32 (fbin .sub .f32 (fbin .mul .f32 g U) l) V) (fbin .mul .f32 s U) by rw [hU, hV]; rfl)
  clear e0 e1 hcx hxa hX hL hU hV
  have hp := fun op => fbin_pick_l op .f32
  have hq := fun op => fbin_pick_r op .f32
  go_enter Try.func76, Try.ntmps76
  go_wp2_with fail
  go_quiet (fail)
  go_wp2_with ((with_reducible refine wpL_fbin ?_); refine ⟨_, _, _, rfl, rfl, rfl, fun s n => ?_⟩)
  go_ret
  exact ⟨_, _, rfl, made2 _ (by simp) (by simp; try omega) _ _, like2 H0.out H1.out, by (repeat (first | with_reducible exact Below.refl _ _ | with_reducible refine Below.drewN ?_ _ | with_reducible refine Below.alloc ?_ (by simp; try omega) _))⟩
end Go.Proofs.Ytebelikahpnobaa
