/- The walks of the angle of a point, in the model's package. -/
import Derived.Test.YthpdiknpfpejladAngP
import Derived.Test.YthpdiknpfpejladSqrtW
import Derived.Test.YthpdiknpfpejladAbsW
namespace Go.Proofs.Ythpdiknpfpejlad
open Go Go.RowKit

set_option maxHeartbeats 2000000 in
theorem angWide_000 (Y X : Nat) (hY : Y < 18446744073709551616) (hX : X < 18446744073709551616) (h0 : gt64 (absw Y) (absw X) = false) (h1 : lt64 X 0 = false) (h2 : lt64 Y 0 = false)
    (g0 : (FloatKind.f64.format.order (fbin .sub .f64 Y Y) 0 != some .eq) = false) (g1 : (FloatKind.f64.format.order (fbin .sub .f64 X X) 0 != some .eq) = false)
    (hz : (FloatKind.f64.format.order X 0 == some .eq) = false ∨ ((FloatKind.f64.format.order X 0 == some .eq) = true ∧ (FloatKind.f64.format.order Y 0 == some .eq) = false)) (w : World) :
    Calls Try.prog 55 #[.float .f64 Y, .float .f64 X] w fun e w' => ∃ s n, e = .returned (.float .f64 ((pick .f64 (angX false (steepA (absw Y) (absw X))) s))) ∧ w' = w.drewN n := by
  have hp := order_pick_l .f64
  have hl := fun op => fbin_pick_l op .f64
  have hr := fun op => fbin_pick_r op .f64
  have hq := fsqrt_pick
  obtain ⟨t0, k0⟩ : ∃ t0, fbin .quo .f64 (absw Y) (absw X) = t0 := ⟨_, rfl⟩
  obtain ⟨t1, k1⟩ : ∃ t1, fbin .quo .f64 t0 (fbin .add .f64 4607182418800017408 (fsqrt (fbin .add .f64 4607182418800017408 (fbin .mul .f64 t0 t0)))) = t1 := ⟨_, rfl⟩
  obtain ⟨t2, k2⟩ : ∃ t2, fbin .quo .f64 t1 (fbin .add .f64 4607182418800017408 (fsqrt (fbin .add .f64 4607182418800017408 (fbin .mul .f64 t1 t1)))) = t2 := ⟨_, rfl⟩
  obtain ⟨t3, k3⟩ : ∃ t3, fbin .quo .f64 t2 (fbin .add .f64 4607182418800017408 (fsqrt (fbin .add .f64 4607182418800017408 (fbin .mul .f64 t2 t2)))) = t3 := ⟨_, rfl⟩
  obtain ⟨U, hU⟩ : ∃ U, fbin .mul .f64 t3 t3 = U := ⟨_, rfl⟩
  have hA : angX false (steepA (absw Y) (absw X)) = fbin .quo .f64 (fbin .mul .f64 eightW (fbin .mul .f64 t3 (flatR U))) tauW := by
    have e0 : steepA (absw Y) (absw X) = flatA t0 := by unfold steepA; rw [h0, ← k0]; rfl
    have e1 : flatStep t0 = t1 := k1
    have e2 : flatStep t1 = t2 := k2
    have e3 : flatStep t2 = t3 := k3
    have e4 : flatT t0 = t3 := by unfold flatT; rw [e1, e2, e3]
    rw [e0]
    unfold flatA flatB angX
    rw [e4, hU]
    rfl
  have HA := Lib.hid hA
  have t4 : (FloatKind.f64.format.order (absw Y) (absw X) == some .gt) = false := h0
  have t5 : (FloatKind.f64.format.order X 0 == some .lt) = false := h1
  have t6 : (FloatKind.f64.format.order Y 0 == some .lt) = false := h2
  clear hA h0 h1 h2
  rcases hz with hz | ⟨hz, hz'⟩
  all_goals go_enter Try.func55, Try.ntmps55
  all_goals go_wp2_with (first | ((with_reducible refine wpL_fbin ?_); refine ⟨_, _, _, rfl, rfl, rfl, fun s n => ?_⟩) | ((with_reducible refine wpL_fbin_g ?_); refine ⟨rfl, _, _, _, rfl, rfl, rfl, fun s n => ?_⟩) | ((with_reducible refine wpL_fneg ?_); refine ⟨_, _, rfl, ?_⟩) | (go_at_call 33; refine (mathAbs_any _ _ (by assumption)).mono ?_; rintro e w' ⟨rfl, rfl⟩) | (go_at_call 62; refine (mathSqrt_any _ _).mono ?_; rintro e w' ⟨s, n, rfl, rfl⟩))
  all_goals refine wp_loop_rounds 4 ?_
  all_goals repeat (rw [rounds_succ]; go_wp2_with (first | ((with_reducible refine wpL_fbin ?_); refine ⟨_, _, _, rfl, rfl, rfl, fun s n => ?_⟩) | (go_at_call 62; refine (mathSqrt_any _ _).mono ?_; rintro e w' ⟨s, n, rfl, rfl⟩)))
  all_goals refine wp_loop_rounds 9 ?_
  all_goals repeat (rw [rounds_succ]; go_wp2_with (first | ((with_reducible refine wpL_fbin ?_); refine ⟨_, _, _, rfl, rfl, rfl, fun s n => ?_⟩) | ((with_reducible refine wpL_fneg ?_); refine ⟨_, _, rfl, ?_⟩)))
  all_goals go_ret
  all_goals exact ⟨_, _, by rw [HA.out]; rfl, rfl⟩

set_option maxHeartbeats 2000000 in
theorem angWide_001 (Y X : Nat) (hY : Y < 18446744073709551616) (hX : X < 18446744073709551616) (h0 : gt64 (absw Y) (absw X) = false) (h1 : lt64 X 0 = false) (h2 : lt64 Y 0 = true)
    (g0 : (FloatKind.f64.format.order (fbin .sub .f64 Y Y) 0 != some .eq) = false) (g1 : (FloatKind.f64.format.order (fbin .sub .f64 X X) 0 != some .eq) = false)
    (hz : (FloatKind.f64.format.order X 0 == some .eq) = false ∨ ((FloatKind.f64.format.order X 0 == some .eq) = true ∧ (FloatKind.f64.format.order Y 0 == some .eq) = false)) (w : World) :
    Calls Try.prog 55 #[.float .f64 Y, .float .f64 X] w fun e w' => ∃ s n, e = .returned (.float .f64 (Op.negFloat .f64 (pick .f64 (angX false (steepA (absw Y) (absw X))) s))) ∧ w' = w.drewN n := by
  have hp := order_pick_l .f64
  have hl := fun op => fbin_pick_l op .f64
  have hr := fun op => fbin_pick_r op .f64
  have hq := fsqrt_pick
  obtain ⟨t0, k0⟩ : ∃ t0, fbin .quo .f64 (absw Y) (absw X) = t0 := ⟨_, rfl⟩
  obtain ⟨t1, k1⟩ : ∃ t1, fbin .quo .f64 t0 (fbin .add .f64 4607182418800017408 (fsqrt (fbin .add .f64 4607182418800017408 (fbin .mul .f64 t0 t0)))) = t1 := ⟨_, rfl⟩
  obtain ⟨t2, k2⟩ : ∃ t2, fbin .quo .f64 t1 (fbin .add .f64 4607182418800017408 (fsqrt (fbin .add .f64 4607182418800017408 (fbin .mul .f64 t1 t1)))) = t2 := ⟨_, rfl⟩
  obtain ⟨t3, k3⟩ : ∃ t3, fbin .quo .f64 t2 (fbin .add .f64 4607182418800017408 (fsqrt (fbin .add .f64 4607182418800017408 (fbin .mul .f64 t2 t2)))) = t3 := ⟨_, rfl⟩
  obtain ⟨U, hU⟩ : ∃ U, fbin .mul .f64 t3 t3 = U := ⟨_, rfl⟩
  have hA : angX false (steepA (absw Y) (absw X)) = fbin .quo .f64 (fbin .mul .f64 eightW (fbin .mul .f64 t3 (flatR U))) tauW := by
    have e0 : steepA (absw Y) (absw X) = flatA t0 := by unfold steepA; rw [h0, ← k0]; rfl
    have e1 : flatStep t0 = t1 := k1
    have e2 : flatStep t1 = t2 := k2
    have e3 : flatStep t2 = t3 := k3
    have e4 : flatT t0 = t3 := by unfold flatT; rw [e1, e2, e3]
    rw [e0]
    unfold flatA flatB angX
    rw [e4, hU]
    rfl
  have HA := Lib.hid hA
  have t4 : (FloatKind.f64.format.order (absw Y) (absw X) == some .gt) = false := h0
  have t5 : (FloatKind.f64.format.order X 0 == some .lt) = false := h1
  have t6 : (FloatKind.f64.format.order Y 0 == some .lt) = true := h2
  clear hA h0 h1 h2
  rcases hz with hz | ⟨hz, hz'⟩
  all_goals go_enter Try.func55, Try.ntmps55
  all_goals go_wp2_with (first | ((with_reducible refine wpL_fbin ?_); refine ⟨_, _, _, rfl, rfl, rfl, fun s n => ?_⟩) | ((with_reducible refine wpL_fbin_g ?_); refine ⟨rfl, _, _, _, rfl, rfl, rfl, fun s n => ?_⟩) | ((with_reducible refine wpL_fneg ?_); refine ⟨_, _, rfl, ?_⟩) | (go_at_call 33; refine (mathAbs_any _ _ (by assumption)).mono ?_; rintro e w' ⟨rfl, rfl⟩) | (go_at_call 62; refine (mathSqrt_any _ _).mono ?_; rintro e w' ⟨s, n, rfl, rfl⟩))
  all_goals refine wp_loop_rounds 4 ?_
  all_goals repeat (rw [rounds_succ]; go_wp2_with (first | ((with_reducible refine wpL_fbin ?_); refine ⟨_, _, _, rfl, rfl, rfl, fun s n => ?_⟩) | (go_at_call 62; refine (mathSqrt_any _ _).mono ?_; rintro e w' ⟨s, n, rfl, rfl⟩)))
  all_goals refine wp_loop_rounds 9 ?_
  all_goals repeat (rw [rounds_succ]; go_wp2_with (first | ((with_reducible refine wpL_fbin ?_); refine ⟨_, _, _, rfl, rfl, rfl, fun s n => ?_⟩) | ((with_reducible refine wpL_fneg ?_); refine ⟨_, _, rfl, ?_⟩)))
  all_goals go_ret
  all_goals exact ⟨_, _, by rw [HA.out]; rfl, rfl⟩

set_option maxHeartbeats 2000000 in
theorem angWide_010 (Y X : Nat) (hY : Y < 18446744073709551616) (hX : X < 18446744073709551616) (h0 : gt64 (absw Y) (absw X) = false) (h1 : lt64 X 0 = true) (h2 : lt64 Y 0 = false)
    (g0 : (FloatKind.f64.format.order (fbin .sub .f64 Y Y) 0 != some .eq) = false) (g1 : (FloatKind.f64.format.order (fbin .sub .f64 X X) 0 != some .eq) = false)
    (hz : (FloatKind.f64.format.order X 0 == some .eq) = false ∨ ((FloatKind.f64.format.order X 0 == some .eq) = true ∧ (FloatKind.f64.format.order Y 0 == some .eq) = false)) (w : World) :
    Calls Try.prog 55 #[.float .f64 Y, .float .f64 X] w fun e w' => ∃ s n, e = .returned (.float .f64 ((pick .f64 (angX true (steepA (absw Y) (absw X))) s))) ∧ w' = w.drewN n := by
  have hp := order_pick_l .f64
  have hl := fun op => fbin_pick_l op .f64
  have hr := fun op => fbin_pick_r op .f64
  have hq := fsqrt_pick
  obtain ⟨t0, k0⟩ : ∃ t0, fbin .quo .f64 (absw Y) (absw X) = t0 := ⟨_, rfl⟩
  obtain ⟨t1, k1⟩ : ∃ t1, fbin .quo .f64 t0 (fbin .add .f64 4607182418800017408 (fsqrt (fbin .add .f64 4607182418800017408 (fbin .mul .f64 t0 t0)))) = t1 := ⟨_, rfl⟩
  obtain ⟨t2, k2⟩ : ∃ t2, fbin .quo .f64 t1 (fbin .add .f64 4607182418800017408 (fsqrt (fbin .add .f64 4607182418800017408 (fbin .mul .f64 t1 t1)))) = t2 := ⟨_, rfl⟩
  obtain ⟨t3, k3⟩ : ∃ t3, fbin .quo .f64 t2 (fbin .add .f64 4607182418800017408 (fsqrt (fbin .add .f64 4607182418800017408 (fbin .mul .f64 t2 t2)))) = t3 := ⟨_, rfl⟩
  obtain ⟨U, hU⟩ : ∃ U, fbin .mul .f64 t3 t3 = U := ⟨_, rfl⟩
  have hA : angX true (steepA (absw Y) (absw X)) = fbin .sub .f64 halfW (fbin .quo .f64 (fbin .mul .f64 eightW (fbin .mul .f64 t3 (flatR U))) tauW) := by
    have e0 : steepA (absw Y) (absw X) = flatA t0 := by unfold steepA; rw [h0, ← k0]; rfl
    have e1 : flatStep t0 = t1 := k1
    have e2 : flatStep t1 = t2 := k2
    have e3 : flatStep t2 = t3 := k3
    have e4 : flatT t0 = t3 := by unfold flatT; rw [e1, e2, e3]
    rw [e0]
    unfold flatA flatB angX
    rw [e4, hU]
    rfl
  have HA := Lib.hid hA
  have t4 : (FloatKind.f64.format.order (absw Y) (absw X) == some .gt) = false := h0
  have t5 : (FloatKind.f64.format.order X 0 == some .lt) = true := h1
  have t6 : (FloatKind.f64.format.order Y 0 == some .lt) = false := h2
  clear hA h0 h1 h2
  rcases hz with hz | ⟨hz, hz'⟩
  all_goals go_enter Try.func55, Try.ntmps55
  all_goals go_wp2_with (first | ((with_reducible refine wpL_fbin ?_); refine ⟨_, _, _, rfl, rfl, rfl, fun s n => ?_⟩) | ((with_reducible refine wpL_fbin_g ?_); refine ⟨rfl, _, _, _, rfl, rfl, rfl, fun s n => ?_⟩) | ((with_reducible refine wpL_fneg ?_); refine ⟨_, _, rfl, ?_⟩) | (go_at_call 33; refine (mathAbs_any _ _ (by assumption)).mono ?_; rintro e w' ⟨rfl, rfl⟩) | (go_at_call 62; refine (mathSqrt_any _ _).mono ?_; rintro e w' ⟨s, n, rfl, rfl⟩))
  all_goals refine wp_loop_rounds 4 ?_
  all_goals repeat (rw [rounds_succ]; go_wp2_with (first | ((with_reducible refine wpL_fbin ?_); refine ⟨_, _, _, rfl, rfl, rfl, fun s n => ?_⟩) | (go_at_call 62; refine (mathSqrt_any _ _).mono ?_; rintro e w' ⟨s, n, rfl, rfl⟩)))
  all_goals refine wp_loop_rounds 9 ?_
  all_goals repeat (rw [rounds_succ]; go_wp2_with (first | ((with_reducible refine wpL_fbin ?_); refine ⟨_, _, _, rfl, rfl, rfl, fun s n => ?_⟩) | ((with_reducible refine wpL_fneg ?_); refine ⟨_, _, rfl, ?_⟩)))
  all_goals go_ret
  all_goals exact ⟨_, _, by rw [HA.out]; rfl, rfl⟩

set_option maxHeartbeats 2000000 in
theorem angWide_011 (Y X : Nat) (hY : Y < 18446744073709551616) (hX : X < 18446744073709551616) (h0 : gt64 (absw Y) (absw X) = false) (h1 : lt64 X 0 = true) (h2 : lt64 Y 0 = true)
    (g0 : (FloatKind.f64.format.order (fbin .sub .f64 Y Y) 0 != some .eq) = false) (g1 : (FloatKind.f64.format.order (fbin .sub .f64 X X) 0 != some .eq) = false)
    (hz : (FloatKind.f64.format.order X 0 == some .eq) = false ∨ ((FloatKind.f64.format.order X 0 == some .eq) = true ∧ (FloatKind.f64.format.order Y 0 == some .eq) = false)) (w : World) :
    Calls Try.prog 55 #[.float .f64 Y, .float .f64 X] w fun e w' => ∃ s n, e = .returned (.float .f64 (Op.negFloat .f64 (pick .f64 (angX true (steepA (absw Y) (absw X))) s))) ∧ w' = w.drewN n := by
  have hp := order_pick_l .f64
  have hl := fun op => fbin_pick_l op .f64
  have hr := fun op => fbin_pick_r op .f64
  have hq := fsqrt_pick
  obtain ⟨t0, k0⟩ : ∃ t0, fbin .quo .f64 (absw Y) (absw X) = t0 := ⟨_, rfl⟩
  obtain ⟨t1, k1⟩ : ∃ t1, fbin .quo .f64 t0 (fbin .add .f64 4607182418800017408 (fsqrt (fbin .add .f64 4607182418800017408 (fbin .mul .f64 t0 t0)))) = t1 := ⟨_, rfl⟩
  obtain ⟨t2, k2⟩ : ∃ t2, fbin .quo .f64 t1 (fbin .add .f64 4607182418800017408 (fsqrt (fbin .add .f64 4607182418800017408 (fbin .mul .f64 t1 t1)))) = t2 := ⟨_, rfl⟩
  obtain ⟨t3, k3⟩ : ∃ t3, fbin .quo .f64 t2 (fbin .add .f64 4607182418800017408 (fsqrt (fbin .add .f64 4607182418800017408 (fbin .mul .f64 t2 t2)))) = t3 := ⟨_, rfl⟩
  obtain ⟨U, hU⟩ : ∃ U, fbin .mul .f64 t3 t3 = U := ⟨_, rfl⟩
  have hA : angX true (steepA (absw Y) (absw X)) = fbin .sub .f64 halfW (fbin .quo .f64 (fbin .mul .f64 eightW (fbin .mul .f64 t3 (flatR U))) tauW) := by
    have e0 : steepA (absw Y) (absw X) = flatA t0 := by unfold steepA; rw [h0, ← k0]; rfl
    have e1 : flatStep t0 = t1 := k1
    have e2 : flatStep t1 = t2 := k2
    have e3 : flatStep t2 = t3 := k3
    have e4 : flatT t0 = t3 := by unfold flatT; rw [e1, e2, e3]
    rw [e0]
    unfold flatA flatB angX
    rw [e4, hU]
    rfl
  have HA := Lib.hid hA
  have t4 : (FloatKind.f64.format.order (absw Y) (absw X) == some .gt) = false := h0
  have t5 : (FloatKind.f64.format.order X 0 == some .lt) = true := h1
  have t6 : (FloatKind.f64.format.order Y 0 == some .lt) = true := h2
  clear hA h0 h1 h2
  rcases hz with hz | ⟨hz, hz'⟩
  all_goals go_enter Try.func55, Try.ntmps55
  all_goals go_wp2_with (first | ((with_reducible refine wpL_fbin ?_); refine ⟨_, _, _, rfl, rfl, rfl, fun s n => ?_⟩) | ((with_reducible refine wpL_fbin_g ?_); refine ⟨rfl, _, _, _, rfl, rfl, rfl, fun s n => ?_⟩) | ((with_reducible refine wpL_fneg ?_); refine ⟨_, _, rfl, ?_⟩) | (go_at_call 33; refine (mathAbs_any _ _ (by assumption)).mono ?_; rintro e w' ⟨rfl, rfl⟩) | (go_at_call 62; refine (mathSqrt_any _ _).mono ?_; rintro e w' ⟨s, n, rfl, rfl⟩))
  all_goals refine wp_loop_rounds 4 ?_
  all_goals repeat (rw [rounds_succ]; go_wp2_with (first | ((with_reducible refine wpL_fbin ?_); refine ⟨_, _, _, rfl, rfl, rfl, fun s n => ?_⟩) | (go_at_call 62; refine (mathSqrt_any _ _).mono ?_; rintro e w' ⟨s, n, rfl, rfl⟩)))
  all_goals refine wp_loop_rounds 9 ?_
  all_goals repeat (rw [rounds_succ]; go_wp2_with (first | ((with_reducible refine wpL_fbin ?_); refine ⟨_, _, _, rfl, rfl, rfl, fun s n => ?_⟩) | ((with_reducible refine wpL_fneg ?_); refine ⟨_, _, rfl, ?_⟩)))
  all_goals go_ret
  all_goals exact ⟨_, _, by rw [HA.out]; rfl, rfl⟩
end Go.Proofs.Ythpdiknpfpejlad
