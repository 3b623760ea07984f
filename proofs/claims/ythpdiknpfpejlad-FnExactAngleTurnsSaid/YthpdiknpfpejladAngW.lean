/- The walks of the angle of a point, in the program. -/
import Derived.Test.YthpdiknpfpejladAngP
import Derived.Test.YthpdiknpfpejladSqrtW
namespace Go.Proofs.Ythpdiknpfpejlad
open Go Go.RowKit
/-- It hands back X, or, where X is a not-a-number, any. -/
def RetA (k : FloatKind) (X : Nat) (w : World) (e : Ending) (w' : World) : Prop := ∃ s n, e = .returned (.float k (pick k X s)) ∧ w' = w.drewN n
set_option maxHeartbeats 1000000 in
theorem flatAngle_any (t : Nat) (w : World) : Calls Try.prog 56 #[.float .f64 t] w (RetA .f64 (flatA t) w) := by
  have hl := fun op => fbin_pick_l op .f64
  have hr := fun op => fbin_pick_r op .f64
  have hq := fsqrt_pick
  obtain ⟨t1, h1⟩ : ∃ t1, fbin .quo .f64 t (fbin .add .f64 4607182418800017408 (fsqrt (fbin .add .f64 4607182418800017408 (fbin .mul .f64 t t)))) = t1 := ⟨_, rfl⟩
  obtain ⟨t2, h2⟩ : ∃ t2, fbin .quo .f64 t1 (fbin .add .f64 4607182418800017408 (fsqrt (fbin .add .f64 4607182418800017408 (fbin .mul .f64 t1 t1)))) = t2 := ⟨_, rfl⟩
  obtain ⟨t3, h3⟩ : ∃ t3, fbin .quo .f64 t2 (fbin .add .f64 4607182418800017408 (fsqrt (fbin .add .f64 4607182418800017408 (fbin .mul .f64 t2 t2)))) = t3 := ⟨_, rfl⟩
  obtain ⟨U, hU⟩ : ∃ U, fbin .mul .f64 t3 t3 = U := ⟨_, rfl⟩
  have hA : flatA t = fbin .quo .f64 (fbin .mul .f64 eightW (fbin .mul .f64 t3 (flatR U))) tauW := by
    unfold flatA flatB
    have e1 : flatStep t = t1 := h1
    have e2 : flatStep t1 = t2 := h2
    have e3 : flatStep t2 = t3 := h3
    have : flatT t = t3 := by unfold flatT; rw [e1, e2, e3]
    rw [this, hU]
  have HA := Lib.hid hA
  clear hA
  go_enter Try.func56, Try.ntmps56
  go_wp2_with (first | ((with_reducible refine wpL_fbin ?_); refine ⟨_, _, _, rfl, rfl, rfl, fun s n => ?_⟩) | (go_at_call 62; refine (mathSqrt_any _ _).mono ?_; rintro e w' ⟨s, n, rfl, rfl⟩))
  refine wp_loop_rounds 4 ?_
  repeat (rw [rounds_succ]; go_wp2_with (first | ((with_reducible refine wpL_fbin ?_); refine ⟨_, _, _, rfl, rfl, rfl, fun s n => ?_⟩) | (go_at_call 62; refine (mathSqrt_any _ _).mono ?_; rintro e w' ⟨s, n, rfl, rfl⟩)))
  refine wp_loop_rounds 9 ?_
  repeat (rw [rounds_succ]; go_wp2_with ((with_reducible refine wpL_fbin ?_); refine ⟨_, _, _, rfl, rfl, rfl, fun s n => ?_⟩))
  go_ret
  exact ⟨_, _, by rw [HA.out]; rfl, rfl⟩
set_option maxHeartbeats 400000 in
theorem steepAngle_any (a b : Nat) (w : World) : Calls Try.prog 37 #[.float .f64 a, .float .f64 b] w (RetA .f64 (steepA a b) w) := by
  have hl := fun op => fbin_pick_l op .f64
  have hr := fun op => fbin_pick_r op .f64
  have hf : ∀ x s, flatA (pick .f64 x s) = flatA x := by
    intro x s
    have : flatStep (pick .f64 x s) = flatStep x := by unfold flatStep; simp only [fbin_pick_l, fbin_pick_r]
    unfold flatA flatT
    rw [this]
  cases hc : gt64 a b
  · have hc' : (FloatKind.f64.format.order a b == some .gt) = false := hc
    have HS := Lib.hid (show steepA a b = flatA (fbin .quo .f64 a b) by unfold steepA; rw [hc]; rfl)
    clear hc
    go_enter Try.func37, Try.ntmps37
    go_wp2_with (first | ((with_reducible refine wpL_fbin ?_); refine ⟨_, _, _, rfl, rfl, rfl, fun s n => ?_⟩) | (go_at_call 56; refine (flatAngle_any _ _).mono ?_; rintro e w' ⟨s, n, rfl, rfl⟩))
    go_ret
    exact ⟨_, _, by rw [HS.out]; rfl, rfl⟩
  · have hc' : (FloatKind.f64.format.order a b == some .gt) = true := hc
    have HS := Lib.hid (show steepA a b = fbin .sub .f64 quarW (flatA (fbin .quo .f64 b a)) by unfold steepA; rw [hc]; rfl)
    clear hc
    go_enter Try.func37, Try.ntmps37
    go_wp2_with (first | ((with_reducible refine wpL_fbin ?_); refine ⟨_, _, _, rfl, rfl, rfl, fun s n => ?_⟩) | (go_at_call 56; refine (flatAngle_any _ _).mono ?_; rintro e w' ⟨s, n, rfl, rfl⟩))
    go_ret
    exact ⟨_, _, by rw [HS.out]; rfl, rfl⟩
end Go.Proofs.Ythpdiknpfpejlad
