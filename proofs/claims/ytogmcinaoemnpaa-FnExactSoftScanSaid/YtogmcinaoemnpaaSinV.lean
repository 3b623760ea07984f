
/- The walks of the sine in the model's package. -/
import Derived.Test.YtogmcinaoemnpaaNeg
import Derived.Test.YtogmcinaoemnpaaSameA
namespace Go.Proofs.Ytogmcinaoemnpaa
open Go Go.RowKit

set_option maxRecDepth 100000 in
set_option maxHeartbeats 1000000 in
theorem sineWide_000 (Y : Nat) (hi : floatToIntVal .f64 Y .i64 = some (ipart Y)) (h0 : lt64 (fr0 Y) 0 = false) (h1 : ge64 (fr Y) halfW = false) (h2 : gt64 (sineG (fr Y)) quarW = false)
    (g0 : (FloatKind.f64.format.order (fbin .sub .f64 Y Y) 0 != some .eq) = false) (g1 : (FloatKind.f64.format.order Y 4841369599423283200 == some .gt || FloatKind.f64.format.order Y 4841369599423283200 == some .eq) = false)
    (g2 : (FloatKind.f64.format.order Y 14064741636278059008 == some .lt || FloatKind.f64.format.order Y 14064741636278059008 == some .eq) = false) (w : World) :
    Calls Try.prog 105 #[.float .f64 Y] w fun e w' => ∃ s n, e = .returned (.float .f64 ((pick .f64 (sineM (fr Y)) s))) ∧ w' = w.drewN n := by
  have hp := order_pick_l .f64
  have hl := fun op => fbin_pick_l op .f64
  have hr := fun op => fbin_pick_r op .f64
  have HI := Lib.hid hi
  clear hi
  have hF0 : fr Y = fr0 Y := by unfold fr; rw [h0]; rfl
  have hF1 : fr0 Y = fbin .sub .f64 Y (floatOfInt .f64 (ipart Y)) := rfl
  have hG : sineG (fr Y) = fr Y := by unfold sineG; rw [h1]; rfl
  have hH : sineH (sineG (fr Y)) = sineG (fr Y) := by unfold sineH; rw [h2]; rfl
  have hZ0 : fbin .mul .f64 (sineH (sineG (fr Y))) 4618760256179416344 = sineZ (fr Y) := rfl
  have hM : sineM (fr Y) = fbin .mul .f64 (sineZ (fr Y)) (sineR (fbin .mul .f64 (sineZ (fr Y)) (sineZ (fr Y)))) := rfl
  rw [hH, hG] at hZ0
  rw [hG] at h2
  generalize sineZ (fr Y) = Z at *
  obtain ⟨U, hU⟩ : ∃ U, fbin .mul .f64 Z Z = U := ⟨_, rfl⟩
  rw [hU] at hM
  have HM := Lib.hid hM
  obtain ⟨F, hF⟩ : ∃ F, F = fr Y := ⟨_, rfl⟩
  rw [← hF] at h1 h2 hZ0 hF0
  rw [hF1] at h0 hF0
  have t0 : (FloatKind.f64.format.order (fbin .sub .f64 Y (floatOfInt .f64 (ipart Y))) 0 == some .lt) = false := h0
  have t3 : fbin .sub .f64 Y (floatOfInt .f64 (ipart Y)) = F := hF0.symm
  have t1 : (FloatKind.f64.format.order F 4602678819172646912 == some .gt || FloatKind.f64.format.order F 4602678819172646912 == some .eq) = false := h1
  have t2 : (FloatKind.f64.format.order F 4598175219545276416 == some .gt) = false := h2
  clear hM hG hH h0 h1 h2 hF0 hF1 hF
  rw [t3] at t0
  go_enter Try.func105, Try.ntmps105
  go_wp2_with (first | ((with_reducible refine wpL_ftoi ?_); refine ⟨_, _, _, _, rfl, Option.isSome_iff_exists.2 ⟨_, Try.underlying76⟩, Try.underlying2, HI.out, ?_⟩) | ((with_reducible refine wpL_fbin ?_); refine ⟨_, _, _, rfl, rfl, rfl, fun s n => ?_⟩) | ((with_reducible refine wpL_fneg ?_); refine ⟨_, _, rfl, ?_⟩))
  refine wp_loop_rounds 9 ?_
  repeat (rw [rounds_succ]; go_wp2_with (first | ((with_reducible refine wpL_fbin ?_); refine ⟨_, _, _, rfl, rfl, rfl, fun s n => ?_⟩) | ((with_reducible refine wpL_fneg ?_); refine ⟨_, _, rfl, ?_⟩)))
  go_ret
  exact ⟨_, _, by rw [HM.out]; rfl, rfl⟩

set_option maxRecDepth 100000 in
set_option maxHeartbeats 1000000 in
theorem sineWide_001 (Y : Nat) (hi : floatToIntVal .f64 Y .i64 = some (ipart Y)) (h0 : lt64 (fr0 Y) 0 = false) (h1 : ge64 (fr Y) halfW = false) (h2 : gt64 (sineG (fr Y)) quarW = true)
    (g0 : (FloatKind.f64.format.order (fbin .sub .f64 Y Y) 0 != some .eq) = false) (g1 : (FloatKind.f64.format.order Y 4841369599423283200 == some .gt || FloatKind.f64.format.order Y 4841369599423283200 == some .eq) = false)
    (g2 : (FloatKind.f64.format.order Y 14064741636278059008 == some .lt || FloatKind.f64.format.order Y 14064741636278059008 == some .eq) = false) (w : World) :
    Calls Try.prog 105 #[.float .f64 Y] w fun e w' => ∃ s n, e = .returned (.float .f64 ((pick .f64 (sineM (fr Y)) s))) ∧ w' = w.drewN n := by
  have hp := order_pick_l .f64
  have hl := fun op => fbin_pick_l op .f64
  have hr := fun op => fbin_pick_r op .f64
  have HI := Lib.hid hi
  clear hi
  have hF0 : fr Y = fr0 Y := by unfold fr; rw [h0]; rfl
  have hF1 : fr0 Y = fbin .sub .f64 Y (floatOfInt .f64 (ipart Y)) := rfl
  have hG : sineG (fr Y) = fr Y := by unfold sineG; rw [h1]; rfl
  have hH : sineH (sineG (fr Y)) = fbin .sub .f64 4602678819172646912 (sineG (fr Y)) := by unfold sineH; rw [h2]; rfl
  have hZ0 : fbin .mul .f64 (sineH (sineG (fr Y))) 4618760256179416344 = sineZ (fr Y) := rfl
  have hM : sineM (fr Y) = fbin .mul .f64 (sineZ (fr Y)) (sineR (fbin .mul .f64 (sineZ (fr Y)) (sineZ (fr Y)))) := rfl
  rw [hH, hG] at hZ0
  rw [hG] at h2
  generalize sineZ (fr Y) = Z at *
  obtain ⟨U, hU⟩ : ∃ U, fbin .mul .f64 Z Z = U := ⟨_, rfl⟩
  rw [hU] at hM
  have HM := Lib.hid hM
  obtain ⟨F, hF⟩ : ∃ F, F = fr Y := ⟨_, rfl⟩
  rw [← hF] at h1 h2 hZ0 hF0
  rw [hF1] at h0 hF0
  have t0 : (FloatKind.f64.format.order (fbin .sub .f64 Y (floatOfInt .f64 (ipart Y))) 0 == some .lt) = false := h0
  have t3 : fbin .sub .f64 Y (floatOfInt .f64 (ipart Y)) = F := hF0.symm
  have t1 : (FloatKind.f64.format.order F 4602678819172646912 == some .gt || FloatKind.f64.format.order F 4602678819172646912 == some .eq) = false := h1
  have t2 : (FloatKind.f64.format.order F 4598175219545276416 == some .gt) = true := h2
  clear hM hG hH h0 h1 h2 hF0 hF1 hF
  rw [t3] at t0
  go_enter Try.func105, Try.ntmps105
  go_wp2_with (first | ((with_reducible refine wpL_ftoi ?_); refine ⟨_, _, _, _, rfl, Option.isSome_iff_exists.2 ⟨_, Try.underlying76⟩, Try.underlying2, HI.out, ?_⟩) | ((with_reducible refine wpL_fbin ?_); refine ⟨_, _, _, rfl, rfl, rfl, fun s n => ?_⟩) | ((with_reducible refine wpL_fneg ?_); refine ⟨_, _, rfl, ?_⟩))
  refine wp_loop_rounds 9 ?_
  repeat (rw [rounds_succ]; go_wp2_with (first | ((with_reducible refine wpL_fbin ?_); refine ⟨_, _, _, rfl, rfl, rfl, fun s n => ?_⟩) | ((with_reducible refine wpL_fneg ?_); refine ⟨_, _, rfl, ?_⟩)))
  go_ret
  exact ⟨_, _, by rw [HM.out]; rfl, rfl⟩

set_option maxRecDepth 100000 in
set_option maxHeartbeats 1000000 in
theorem sineWide_010 (Y : Nat) (hi : floatToIntVal .f64 Y .i64 = some (ipart Y)) (h0 : lt64 (fr0 Y) 0 = false) (h1 : ge64 (fr Y) halfW = true) (h2 : gt64 (sineG (fr Y)) quarW = false)
    (g0 : (FloatKind.f64.format.order (fbin .sub .f64 Y Y) 0 != some .eq) = false) (g1 : (FloatKind.f64.format.order Y 4841369599423283200 == some .gt || FloatKind.f64.format.order Y 4841369599423283200 == some .eq) = false)
    (g2 : (FloatKind.f64.format.order Y 14064741636278059008 == some .lt || FloatKind.f64.format.order Y 14064741636278059008 == some .eq) = false) (w : World) :
    Calls Try.prog 105 #[.float .f64 Y] w fun e w' => ∃ s n, e = .returned (.float .f64 (Op.negFloat .f64 (pick .f64 (sineM (fr Y)) s))) ∧ w' = w.drewN n := by
  have hp := order_pick_l .f64
  have hl := fun op => fbin_pick_l op .f64
  have hr := fun op => fbin_pick_r op .f64
  have HI := Lib.hid hi
  clear hi
  have hF0 : fr Y = fr0 Y := by unfold fr; rw [h0]; rfl
  have hF1 : fr0 Y = fbin .sub .f64 Y (floatOfInt .f64 (ipart Y)) := rfl
  have hG : sineG (fr Y) = fbin .sub .f64 (fr Y) 4602678819172646912 := by unfold sineG; rw [h1]; rfl
  have hH : sineH (sineG (fr Y)) = sineG (fr Y) := by unfold sineH; rw [h2]; rfl
  have hZ0 : fbin .mul .f64 (sineH (sineG (fr Y))) 4618760256179416344 = sineZ (fr Y) := rfl
  have hM : sineM (fr Y) = fbin .mul .f64 (sineZ (fr Y)) (sineR (fbin .mul .f64 (sineZ (fr Y)) (sineZ (fr Y)))) := rfl
  rw [hH, hG] at hZ0
  rw [hG] at h2
  generalize sineZ (fr Y) = Z at *
  obtain ⟨U, hU⟩ : ∃ U, fbin .mul .f64 Z Z = U := ⟨_, rfl⟩
  rw [hU] at hM
  have HM := Lib.hid hM
  obtain ⟨F, hF⟩ : ∃ F, F = fr Y := ⟨_, rfl⟩
  rw [← hF] at h1 h2 hZ0 hF0
  rw [hF1] at h0 hF0
  have t0 : (FloatKind.f64.format.order (fbin .sub .f64 Y (floatOfInt .f64 (ipart Y))) 0 == some .lt) = false := h0
  have t3 : fbin .sub .f64 Y (floatOfInt .f64 (ipart Y)) = F := hF0.symm
  have t1 : (FloatKind.f64.format.order F 4602678819172646912 == some .gt || FloatKind.f64.format.order F 4602678819172646912 == some .eq) = true := h1
  have t2 : (FloatKind.f64.format.order (fbin .sub .f64 F 4602678819172646912) 4598175219545276416 == some .gt) = false := h2
  clear hM hG hH h0 h1 h2 hF0 hF1 hF
  rw [t3] at t0
  go_enter Try.func105, Try.ntmps105
  go_wp2_with (first | ((with_reducible refine wpL_ftoi ?_); refine ⟨_, _, _, _, rfl, Option.isSome_iff_exists.2 ⟨_, Try.underlying76⟩, Try.underlying2, HI.out, ?_⟩) | ((with_reducible refine wpL_fbin ?_); refine ⟨_, _, _, rfl, rfl, rfl, fun s n => ?_⟩) | ((with_reducible refine wpL_fneg ?_); refine ⟨_, _, rfl, ?_⟩))
  refine wp_loop_rounds 9 ?_
  repeat (rw [rounds_succ]; go_wp2_with (first | ((with_reducible refine wpL_fbin ?_); refine ⟨_, _, _, rfl, rfl, rfl, fun s n => ?_⟩) | ((with_reducible refine wpL_fneg ?_); refine ⟨_, _, rfl, ?_⟩)))
  go_ret
  exact ⟨_, _, by rw [HM.out]; rfl, rfl⟩

set_option maxRecDepth 100000 in
set_option maxHeartbeats 1000000 in
theorem sineWide_011 (Y : Nat) (hi : floatToIntVal .f64 Y .i64 = some (ipart Y)) (h0 : lt64 (fr0 Y) 0 = false) (h1 : ge64 (fr Y) halfW = true) (h2 : gt64 (sineG (fr Y)) quarW = true)
    (g0 : (FloatKind.f64.format.order (fbin .sub .f64 Y Y) 0 != some .eq) = false) (g1 : (FloatKind.f64.format.order Y 4841369599423283200 == some .gt || FloatKind.f64.format.order Y 4841369599423283200 == some .eq) = false)
    (g2 : (FloatKind.f64.format.order Y 14064741636278059008 == some .lt || FloatKind.f64.format.order Y 14064741636278059008 == some .eq) = false) (w : World) :
    Calls Try.prog 105 #[.float .f64 Y] w fun e w' => ∃ s n, e = .returned (.float .f64 (Op.negFloat .f64 (pick .f64 (sineM (fr Y)) s))) ∧ w' = w.drewN n := by
  have hp := order_pick_l .f64
  have hl := fun op => fbin_pick_l op .f64
  have hr := fun op => fbin_pick_r op .f64
  have HI := Lib.hid hi
  clear hi
  have hF0 : fr Y = fr0 Y := by unfold fr; rw [h0]; rfl
  have hF1 : fr0 Y = fbin .sub .f64 Y (floatOfInt .f64 (ipart Y)) := rfl
  have hG : sineG (fr Y) = fbin .sub .f64 (fr Y) 4602678819172646912 := by unfold sineG; rw [h1]; rfl
  have hH : sineH (sineG (fr Y)) = fbin .sub .f64 4602678819172646912 (sineG (fr Y)) := by unfold sineH; rw [h2]; rfl
  have hZ0 : fbin .mul .f64 (sineH (sineG (fr Y))) 4618760256179416344 = sineZ (fr Y) := rfl
  have hM : sineM (fr Y) = fbin .mul .f64 (sineZ (fr Y)) (sineR (fbin .mul .f64 (sineZ (fr Y)) (sineZ (fr Y)))) := rfl
  rw [hH, hG] at hZ0
  rw [hG] at h2
  generalize sineZ (fr Y) = Z at *
  obtain ⟨U, hU⟩ : ∃ U, fbin .mul .f64 Z Z = U := ⟨_, rfl⟩
  rw [hU] at hM
  have HM := Lib.hid hM
  obtain ⟨F, hF⟩ : ∃ F, F = fr Y := ⟨_, rfl⟩
  rw [← hF] at h1 h2 hZ0 hF0
  rw [hF1] at h0 hF0
  have t0 : (FloatKind.f64.format.order (fbin .sub .f64 Y (floatOfInt .f64 (ipart Y))) 0 == some .lt) = false := h0
  have t3 : fbin .sub .f64 Y (floatOfInt .f64 (ipart Y)) = F := hF0.symm
  have t1 : (FloatKind.f64.format.order F 4602678819172646912 == some .gt || FloatKind.f64.format.order F 4602678819172646912 == some .eq) = true := h1
  have t2 : (FloatKind.f64.format.order (fbin .sub .f64 F 4602678819172646912) 4598175219545276416 == some .gt) = true := h2
  clear hM hG hH h0 h1 h2 hF0 hF1 hF
  rw [t3] at t0
  go_enter Try.func105, Try.ntmps105
  go_wp2_with (first | ((with_reducible refine wpL_ftoi ?_); refine ⟨_, _, _, _, rfl, Option.isSome_iff_exists.2 ⟨_, Try.underlying76⟩, Try.underlying2, HI.out, ?_⟩) | ((with_reducible refine wpL_fbin ?_); refine ⟨_, _, _, rfl, rfl, rfl, fun s n => ?_⟩) | ((with_reducible refine wpL_fneg ?_); refine ⟨_, _, rfl, ?_⟩))
  refine wp_loop_rounds 9 ?_
  repeat (rw [rounds_succ]; go_wp2_with (first | ((with_reducible refine wpL_fbin ?_); refine ⟨_, _, _, rfl, rfl, rfl, fun s n => ?_⟩) | ((with_reducible refine wpL_fneg ?_); refine ⟨_, _, rfl, ?_⟩)))
  go_ret
  exact ⟨_, _, by rw [HM.out]; rfl, rfl⟩

set_option maxRecDepth 100000 in
set_option maxHeartbeats 1000000 in
theorem sineWide_100 (Y : Nat) (hi : floatToIntVal .f64 Y .i64 = some (ipart Y)) (h0 : lt64 (fr0 Y) 0 = true) (h1 : ge64 (fr Y) halfW = false) (h2 : gt64 (sineG (fr Y)) quarW = false)
    (g0 : (FloatKind.f64.format.order (fbin .sub .f64 Y Y) 0 != some .eq) = false) (g1 : (FloatKind.f64.format.order Y 4841369599423283200 == some .gt || FloatKind.f64.format.order Y 4841369599423283200 == some .eq) = false)
    (g2 : (FloatKind.f64.format.order Y 14064741636278059008 == some .lt || FloatKind.f64.format.order Y 14064741636278059008 == some .eq) = false) (w : World) :
    Calls Try.prog 105 #[.float .f64 Y] w fun e w' => ∃ s n, e = .returned (.float .f64 ((pick .f64 (sineM (fr Y)) s))) ∧ w' = w.drewN n := by
  have hp := order_pick_l .f64
  have hl := fun op => fbin_pick_l op .f64
  have hr := fun op => fbin_pick_r op .f64
  have HI := Lib.hid hi
  clear hi
  have hF0 : fr Y = fbin .add .f64 (fr0 Y) oneW := by unfold fr; rw [h0]; rfl
  have hF1 : fr0 Y = fbin .sub .f64 Y (floatOfInt .f64 (ipart Y)) := rfl
  have hG : sineG (fr Y) = fr Y := by unfold sineG; rw [h1]; rfl
  have hH : sineH (sineG (fr Y)) = sineG (fr Y) := by unfold sineH; rw [h2]; rfl
  have hZ0 : fbin .mul .f64 (sineH (sineG (fr Y))) 4618760256179416344 = sineZ (fr Y) := rfl
  have hM : sineM (fr Y) = fbin .mul .f64 (sineZ (fr Y)) (sineR (fbin .mul .f64 (sineZ (fr Y)) (sineZ (fr Y)))) := rfl
  rw [hH, hG] at hZ0
  rw [hG] at h2
  generalize sineZ (fr Y) = Z at *
  obtain ⟨U, hU⟩ : ∃ U, fbin .mul .f64 Z Z = U := ⟨_, rfl⟩
  rw [hU] at hM
  have HM := Lib.hid hM
  obtain ⟨F, hF⟩ : ∃ F, F = fr Y := ⟨_, rfl⟩
  rw [← hF] at h1 h2 hZ0 hF0
  rw [hF1] at h0 hF0
  have t0 : (FloatKind.f64.format.order (fbin .sub .f64 Y (floatOfInt .f64 (ipart Y))) 0 == some .lt) = true := h0
  have t3 : fbin .add .f64 (fbin .sub .f64 Y (floatOfInt .f64 (ipart Y))) 4607182418800017408 = F := hF0.symm
  have t1 : (FloatKind.f64.format.order F 4602678819172646912 == some .gt || FloatKind.f64.format.order F 4602678819172646912 == some .eq) = false := h1
  have t2 : (FloatKind.f64.format.order F 4598175219545276416 == some .gt) = false := h2
  clear hM hG hH h0 h1 h2 hF0 hF1 hF
  skip
  go_enter Try.func105, Try.ntmps105
  go_wp2_with (first | ((with_reducible refine wpL_ftoi ?_); refine ⟨_, _, _, _, rfl, Option.isSome_iff_exists.2 ⟨_, Try.underlying76⟩, Try.underlying2, HI.out, ?_⟩) | ((with_reducible refine wpL_fbin ?_); refine ⟨_, _, _, rfl, rfl, rfl, fun s n => ?_⟩) | ((with_reducible refine wpL_fneg ?_); refine ⟨_, _, rfl, ?_⟩))
  refine wp_loop_rounds 9 ?_
  repeat (rw [rounds_succ]; go_wp2_with (first | ((with_reducible refine wpL_fbin ?_); refine ⟨_, _, _, rfl, rfl, rfl, fun s n => ?_⟩) | ((with_reducible refine wpL_fneg ?_); refine ⟨_, _, rfl, ?_⟩)))
  go_ret
  exact ⟨_, _, by rw [HM.out]; rfl, rfl⟩

set_option maxRecDepth 100000 in
set_option maxHeartbeats 1000000 in
theorem sineWide_101 (Y : Nat) (hi : floatToIntVal .f64 Y .i64 = some (ipart Y)) (h0 : lt64 (fr0 Y) 0 = true) (h1 : ge64 (fr Y) halfW = false) (h2 : gt64 (sineG (fr Y)) quarW = true)
    (g0 : (FloatKind.f64.format.order (fbin .sub .f64 Y Y) 0 != some .eq) = false) (g1 : (FloatKind.f64.format.order Y 4841369599423283200 == some .gt || FloatKind.f64.format.order Y 4841369599423283200 == some .eq) = false)
    (g2 : (FloatKind.f64.format.order Y 14064741636278059008 == some .lt || FloatKind.f64.format.order Y 14064741636278059008 == some .eq) = false) (w : World) :
    Calls Try.prog 105 #[.float .f64 Y] w fun e w' => ∃ s n, e = .returned (.float .f64 ((pick .f64 (sineM (fr Y)) s))) ∧ w' = w.drewN n := by
  have hp := order_pick_l .f64
  have hl := fun op => fbin_pick_l op .f64
  have hr := fun op => fbin_pick_r op .f64
  have HI := Lib.hid hi
  clear hi
  have hF0 : fr Y = fbin .add .f64 (fr0 Y) oneW := by unfold fr; rw [h0]; rfl
  have hF1 : fr0 Y = fbin .sub .f64 Y (floatOfInt .f64 (ipart Y)) := rfl
  have hG : sineG (fr Y) = fr Y := by unfold sineG; rw [h1]; rfl
  have hH : sineH (sineG (fr Y)) = fbin .sub .f64 4602678819172646912 (sineG (fr Y)) := by unfold sineH; rw [h2]; rfl
  have hZ0 : fbin .mul .f64 (sineH (sineG (fr Y))) 4618760256179416344 = sineZ (fr Y) := rfl
  have hM : sineM (fr Y) = fbin .mul .f64 (sineZ (fr Y)) (sineR (fbin .mul .f64 (sineZ (fr Y)) (sineZ (fr Y)))) := rfl
  rw [hH, hG] at hZ0
  rw [hG] at h2
  generalize sineZ (fr Y) = Z at *
  obtain ⟨U, hU⟩ : ∃ U, fbin .mul .f64 Z Z = U := ⟨_, rfl⟩
  rw [hU] at hM
  have HM := Lib.hid hM
  obtain ⟨F, hF⟩ : ∃ F, F = fr Y := ⟨_, rfl⟩
  rw [← hF] at h1 h2 hZ0 hF0
  rw [hF1] at h0 hF0
  have t0 : (FloatKind.f64.format.order (fbin .sub .f64 Y (floatOfInt .f64 (ipart Y))) 0 == some .lt) = true := h0
  have t3 : fbin .add .f64 (fbin .sub .f64 Y (floatOfInt .f64 (ipart Y))) 4607182418800017408 = F := hF0.symm
  have t1 : (FloatKind.f64.format.order F 4602678819172646912 == some .gt || FloatKind.f64.format.order F 4602678819172646912 == some .eq) = false := h1
  have t2 : (FloatKind.f64.format.order F 4598175219545276416 == some .gt) = true := h2
  clear hM hG hH h0 h1 h2 hF0 hF1 hF
  skip
  go_enter Try.func105, Try.ntmps105
  go_wp2_with (first | ((with_reducible refine wpL_ftoi ?_); refine ⟨_, _, _, _, rfl, Option.isSome_iff_exists.2 ⟨_, Try.underlying76⟩, Try.underlying2, HI.out, ?_⟩) | ((with_reducible refine wpL_fbin ?_); refine ⟨_, _, _, rfl, rfl, rfl, fun s n => ?_⟩) | ((with_reducible refine wpL_fneg ?_); refine ⟨_, _, rfl, ?_⟩))
  refine wp_loop_rounds 9 ?_
  repeat (rw [rounds_succ]; go_wp2_with (first | ((with_reducible refine wpL_fbin ?_); refine ⟨_, _, _, rfl, rfl, rfl, fun s n => ?_⟩) | ((with_reducible refine wpL_fneg ?_); refine ⟨_, _, rfl, ?_⟩)))
  go_ret
  exact ⟨_, _, by rw [HM.out]; rfl, rfl⟩

set_option maxRecDepth 100000 in
set_option maxHeartbeats 1000000 in
theorem sineWide_110 (Y : Nat) (hi : floatToIntVal .f64 Y .i64 = some (ipart Y)) (h0 : lt64 (fr0 Y) 0 = true) (h1 : ge64 (fr Y) halfW = true) (h2 : gt64 (sineG (fr Y)) quarW = false)
    (g0 : (FloatKind.f64.format.order (fbin .sub .f64 Y Y) 0 != some .eq) = false) (g1 : (FloatKind.f64.format.order Y 4841369599423283200 == some .gt || FloatKind.f64.format.order Y 4841369599423283200 == some .eq) = false)
    (g2 : (FloatKind.f64.format.order Y 14064741636278059008 == some .lt || FloatKind.f64.format.order Y 14064741636278059008 == some .eq) = false) (w : World) :
    Calls Try.prog 105 #[.float .f64 Y] w fun e w' => ∃ s n, e = .returned (.float .f64 (Op.negFloat .f64 (pick .f64 (sineM (fr Y)) s))) ∧ w' = w.drewN n := by
  have hp := order_pick_l .f64
  have hl := fun op => fbin_pick_l op .f64
  have hr := fun op => fbin_pick_r op .f64
  have HI := Lib.hid hi
  clear hi
  have hF0 : fr Y = fbin .add .f64 (fr0 Y) oneW := by unfold fr; rw [h0]; rfl
  have hF1 : fr0 Y = fbin .sub .f64 Y (floatOfInt .f64 (ipart Y)) := rfl
  have hG : sineG (fr Y) = fbin .sub .f64 (fr Y) 4602678819172646912 := by unfold sineG; rw [h1]; rfl
  have hH : sineH (sineG (fr Y)) = sineG (fr Y) := by unfold sineH; rw [h2]; rfl
  have hZ0 : fbin .mul .f64 (sineH (sineG (fr Y))) 4618760256179416344 = sineZ (fr Y) := rfl
  have hM : sineM (fr Y) = fbin .mul .f64 (sineZ (fr Y)) (sineR (fbin .mul .f64 (sineZ (fr Y)) (sineZ (fr Y)))) := rfl
  rw [hH, hG] at hZ0
  rw [hG] at h2
  generalize sineZ (fr Y) = Z at *
  obtain ⟨U, hU⟩ : ∃ U, fbin .mul .f64 Z Z = U := ⟨_, rfl⟩
  rw [hU] at hM
  have HM := Lib.hid hM
  obtain ⟨F, hF⟩ : ∃ F, F = fr Y := ⟨_, rfl⟩
  rw [← hF] at h1 h2 hZ0 hF0
  rw [hF1] at h0 hF0
  have t0 : (FloatKind.f64.format.order (fbin .sub .f64 Y (floatOfInt .f64 (ipart Y))) 0 == some .lt) = true := h0
  have t3 : fbin .add .f64 (fbin .sub .f64 Y (floatOfInt .f64 (ipart Y))) 4607182418800017408 = F := hF0.symm
  have t1 : (FloatKind.f64.format.order F 4602678819172646912 == some .gt || FloatKind.f64.format.order F 4602678819172646912 == some .eq) = true := h1
  have t2 : (FloatKind.f64.format.order (fbin .sub .f64 F 4602678819172646912) 4598175219545276416 == some .gt) = false := h2
  clear hM hG hH h0 h1 h2 hF0 hF1 hF
  skip
  go_enter Try.func105, Try.ntmps105
  go_wp2_with (first | ((with_reducible refine wpL_ftoi ?_); refine ⟨_, _, _, _, rfl, Option.isSome_iff_exists.2 ⟨_, Try.underlying76⟩, Try.underlying2, HI.out, ?_⟩) | ((with_reducible refine wpL_fbin ?_); refine ⟨_, _, _, rfl, rfl, rfl, fun s n => ?_⟩) | ((with_reducible refine wpL_fneg ?_); refine ⟨_, _, rfl, ?_⟩))
  refine wp_loop_rounds 9 ?_
  repeat (rw [rounds_succ]; go_wp2_with (first | ((with_reducible refine wpL_fbin ?_); refine ⟨_, _, _, rfl, rfl, rfl, fun s n => ?_⟩) | ((with_reducible refine wpL_fneg ?_); refine ⟨_, _, rfl, ?_⟩)))
  go_ret
  exact ⟨_, _, by rw [HM.out]; rfl, rfl⟩

set_option maxRecDepth 100000 in
set_option maxHeartbeats 1000000 in
theorem sineWide_111 (Y : Nat) (hi : floatToIntVal .f64 Y .i64 = some (ipart Y)) (h0 : lt64 (fr0 Y) 0 = true) (h1 : ge64 (fr Y) halfW = true) (h2 : gt64 (sineG (fr Y)) quarW = true)
    (g0 : (FloatKind.f64.format.order (fbin .sub .f64 Y Y) 0 != some .eq) = false) (g1 : (FloatKind.f64.format.order Y 4841369599423283200 == some .gt || FloatKind.f64.format.order Y 4841369599423283200 == some .eq) = false)
    (g2 : (FloatKind.f64.format.order Y 14064741636278059008 == some .lt || FloatKind.f64.format.order Y 14064741636278059008 == some .eq) = false) (w : World) :
    Calls Try.prog 105 #[.float .f64 Y] w fun e w' => ∃ s n, e = .returned (.float .f64 (Op.negFloat .f64 (pick .f64 (sineM (fr Y)) s))) ∧ w' = w.drewN n := by
  have hp := order_pick_l .f64
  have hl := fun op => fbin_pick_l op .f64
  have hr := fun op => fbin_pick_r op .f64
  have HI := Lib.hid hi
  clear hi
  have hF0 : fr Y = fbin .add .f64 (fr0 Y) oneW := by unfold fr; rw [h0]; rfl
  have hF1 : fr0 Y = fbin .sub .f64 Y (floatOfInt .f64 (ipart Y)) := rfl
  have hG : sineG (fr Y) = fbin .sub .f64 (fr Y) 4602678819172646912 := by unfold sineG; rw [h1]; rfl
  have hH : sineH (sineG (fr Y)) = fbin .sub .f64 4602678819172646912 (sineG (fr Y)) := by unfold sineH; rw [h2]; rfl
  have hZ0 : fbin .mul .f64 (sineH (sineG (fr Y))) 4618760256179416344 = sineZ (fr Y) := rfl
  have hM : sineM (fr Y) = fbin .mul .f64 (sineZ (fr Y)) (sineR (fbin .mul .f64 (sineZ (fr Y)) (sineZ (fr Y)))) := rfl
  rw [hH, hG] at hZ0
  rw [hG] at h2
  generalize sineZ (fr Y) = Z at *
  obtain ⟨U, hU⟩ : ∃ U, fbin .mul .f64 Z Z = U := ⟨_, rfl⟩
  rw [hU] at hM
  have HM := Lib.hid hM
  obtain ⟨F, hF⟩ : ∃ F, F = fr Y := ⟨_, rfl⟩
  rw [← hF] at h1 h2 hZ0 hF0
  rw [hF1] at h0 hF0
  have t0 : (FloatKind.f64.format.order (fbin .sub .f64 Y (floatOfInt .f64 (ipart Y))) 0 == some .lt) = true := h0
  have t3 : fbin .add .f64 (fbin .sub .f64 Y (floatOfInt .f64 (ipart Y))) 4607182418800017408 = F := hF0.symm
  have t1 : (FloatKind.f64.format.order F 4602678819172646912 == some .gt || FloatKind.f64.format.order F 4602678819172646912 == some .eq) = true := h1
  have t2 : (FloatKind.f64.format.order (fbin .sub .f64 F 4602678819172646912) 4598175219545276416 == some .gt) = true := h2
  clear hM hG hH h0 h1 h2 hF0 hF1 hF
  skip
  go_enter Try.func105, Try.ntmps105
  go_wp2_with (first | ((with_reducible refine wpL_ftoi ?_); refine ⟨_, _, _, _, rfl, Option.isSome_iff_exists.2 ⟨_, Try.underlying76⟩, Try.underlying2, HI.out, ?_⟩) | ((with_reducible refine wpL_fbin ?_); refine ⟨_, _, _, rfl, rfl, rfl, fun s n => ?_⟩) | ((with_reducible refine wpL_fneg ?_); refine ⟨_, _, rfl, ?_⟩))
  refine wp_loop_rounds 9 ?_
  repeat (rw [rounds_succ]; go_wp2_with (first | ((with_reducible refine wpL_fbin ?_); refine ⟨_, _, _, rfl, rfl, rfl, fun s n => ?_⟩) | ((with_reducible refine wpL_fneg ?_); refine ⟨_, _, rfl, ?_⟩)))
  go_ret
  exact ⟨_, _, by rw [HM.out]; rfl, rfl⟩
end Go.Proofs.Ytogmcinaoemnpaa
