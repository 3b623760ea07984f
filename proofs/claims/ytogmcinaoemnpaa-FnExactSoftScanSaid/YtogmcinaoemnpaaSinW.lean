
/- The walks of the sine in the program. -/
import Derived.Test.YtogmcinaoemnpaaNeg
import Derived.Test.YtogmcinaoemnpaaSameA
namespace Go.Proofs.Ytogmcinaoemnpaa
open Go Go.RowKit

set_option maxRecDepth 100000 in
set_option maxHeartbeats 400000 in
theorem partOfTurn_any (Y : Nat) (hi : floatToIntVal .f64 Y .i64 = some (ipart Y)) (w : World) :
    Calls Try.prog 140 #[.float .f64 Y] w fun e w' => ∃ s n, e = .returned (.float .f64 (pick .f64 (fr Y) s)) ∧ w' = w.drewN n := by
  have hp := order_pick_l .f64
  have hl := fun op => fbin_pick_l op .f64
  have hr := fun op => fbin_pick_r op .f64
  cases hc : lt64 (fr0 Y) 0
  · have hc' : (FloatKind.f64.format.order (fbin .sub .f64 Y (floatOfInt .f64 (ipart Y))) 0 == some .lt) = false := hc
    have HF := Lib.hid (show fr Y = fr0 Y by unfold fr; rw [hc]; rfl)
    have HI := Lib.hid hi
    clear hc hi
    go_enter Try.func140, Try.ntmps140
    go_wp2_with (first | ((with_reducible refine wpL_ftoi ?_); refine ⟨_, _, _, _, rfl, Option.isSome_iff_exists.2 ⟨_, Try.underlying76⟩, Try.underlying2, HI.out, ?_⟩) | ((with_reducible refine wpL_fbin ?_); refine ⟨_, _, _, rfl, rfl, rfl, fun s n => ?_⟩))
    go_ret
    exact ⟨_, _, by rw [HF.out]; rfl, rfl⟩
  · have hc' : (FloatKind.f64.format.order (fbin .sub .f64 Y (floatOfInt .f64 (ipart Y))) 0 == some .lt) = true := hc
    have HF := Lib.hid (show fr Y = fbin .add .f64 (fr0 Y) oneW by unfold fr; rw [hc]; rfl)
    have HI := Lib.hid hi
    clear hc hi
    go_enter Try.func140, Try.ntmps140
    go_wp2_with (first | ((with_reducible refine wpL_ftoi ?_); refine ⟨_, _, _, _, rfl, Option.isSome_iff_exists.2 ⟨_, Try.underlying76⟩, Try.underlying2, HI.out, ?_⟩) | ((with_reducible refine wpL_fbin ?_); refine ⟨_, _, _, rfl, rfl, rfl, fun s n => ?_⟩))
    go_ret
    exact ⟨_, _, by rw [HF.out]; rfl, rfl⟩

set_option maxRecDepth 100000 in
set_option maxHeartbeats 1000000 in
theorem wideSine_00 (Y : Nat) (hi : floatToIntVal .f64 Y .i64 = some (ipart Y)) (h1 : ge64 (fr Y) halfW = false) (h2 : gt64 (sineG (fr Y)) quarW = false) (w : World) :
    Calls Try.prog 141 #[.float .f64 Y] w fun e w' => ∃ s n, e = .returned (.float .f64 ((pick .f64 (sineM (fr Y)) s))) ∧ w' = w.drewN n := by
  have hp := order_pick_l .f64
  have hl := fun op => fbin_pick_l op .f64
  have hr := fun op => fbin_pick_r op .f64
  have HC := Lib.hid (fun w => partOfTurn_any Y hi w)
  clear hi
  obtain ⟨F, hF⟩ : ∃ F, F = fr Y := ⟨_, rfl⟩
  rw [← hF] at h1 h2 ⊢
  rw [← hF] at HC
  clear hF
  have hG : sineG F = F := by unfold sineG; rw [h1]; rfl
  have hH : sineH (sineG F) = sineG F := by unfold sineH; rw [h2]; rfl
  have hZ0 : fbin .mul .f64 (sineH (sineG F)) 4618760256179416344 = sineZ F := rfl
  have hM : sineM F = fbin .mul .f64 (sineZ F) (sineR (fbin .mul .f64 (sineZ F) (sineZ F))) := rfl
  rw [hH, hG] at hZ0
  rw [hG] at h2
  have t1 : (FloatKind.f64.format.order F 4602678819172646912 == some .gt || FloatKind.f64.format.order F 4602678819172646912 == some .eq) = false := h1
  have t2 : (FloatKind.f64.format.order F 4598175219545276416 == some .gt) = false := h2
  generalize sineZ F = Z at *
  obtain ⟨U, hU⟩ : ∃ U, fbin .mul .f64 Z Z = U := ⟨_, rfl⟩
  rw [hU] at hM
  have HM := Lib.hid hM
  clear hM hG hH h1 h2
  go_enter Try.func141, Try.ntmps141
  go_wp2_with (first | ((with_reducible refine wpL_fbin ?_); refine ⟨_, _, _, rfl, rfl, rfl, fun s n => ?_⟩) | ((with_reducible refine wpL_fneg ?_); refine ⟨_, _, rfl, ?_⟩) | (go_at_call 140; refine (HC.out _).mono ?_; rintro e w' ⟨s, n, rfl, rfl⟩))
  refine wp_loop_rounds 9 ?_
  repeat (rw [rounds_succ]; go_wp2_with (first | ((with_reducible refine wpL_fbin ?_); refine ⟨_, _, _, rfl, rfl, rfl, fun s n => ?_⟩) | ((with_reducible refine wpL_fneg ?_); refine ⟨_, _, rfl, ?_⟩)))
  go_ret
  exact ⟨_, _, by rw [HM.out]; rfl, rfl⟩

set_option maxRecDepth 100000 in
set_option maxHeartbeats 1000000 in
theorem wideSine_01 (Y : Nat) (hi : floatToIntVal .f64 Y .i64 = some (ipart Y)) (h1 : ge64 (fr Y) halfW = false) (h2 : gt64 (sineG (fr Y)) quarW = true) (w : World) :
    Calls Try.prog 141 #[.float .f64 Y] w fun e w' => ∃ s n, e = .returned (.float .f64 ((pick .f64 (sineM (fr Y)) s))) ∧ w' = w.drewN n := by
  have hp := order_pick_l .f64
  have hl := fun op => fbin_pick_l op .f64
  have hr := fun op => fbin_pick_r op .f64
  have HC := Lib.hid (fun w => partOfTurn_any Y hi w)
  clear hi
  obtain ⟨F, hF⟩ : ∃ F, F = fr Y := ⟨_, rfl⟩
  rw [← hF] at h1 h2 ⊢
  rw [← hF] at HC
  clear hF
  have hG : sineG F = F := by unfold sineG; rw [h1]; rfl
  have hH : sineH (sineG F) = fbin .sub .f64 4602678819172646912 (sineG F) := by unfold sineH; rw [h2]; rfl
  have hZ0 : fbin .mul .f64 (sineH (sineG F)) 4618760256179416344 = sineZ F := rfl
  have hM : sineM F = fbin .mul .f64 (sineZ F) (sineR (fbin .mul .f64 (sineZ F) (sineZ F))) := rfl
  rw [hH, hG] at hZ0
  rw [hG] at h2
  have t1 : (FloatKind.f64.format.order F 4602678819172646912 == some .gt || FloatKind.f64.format.order F 4602678819172646912 == some .eq) = false := h1
  have t2 : (FloatKind.f64.format.order F 4598175219545276416 == some .gt) = true := h2
  generalize sineZ F = Z at *
  obtain ⟨U, hU⟩ : ∃ U, fbin .mul .f64 Z Z = U := ⟨_, rfl⟩
  rw [hU] at hM
  have HM := Lib.hid hM
  clear hM hG hH h1 h2
  go_enter Try.func141, Try.ntmps141
  go_wp2_with (first | ((with_reducible refine wpL_fbin ?_); refine ⟨_, _, _, rfl, rfl, rfl, fun s n => ?_⟩) | ((with_reducible refine wpL_fneg ?_); refine ⟨_, _, rfl, ?_⟩) | (go_at_call 140; refine (HC.out _).mono ?_; rintro e w' ⟨s, n, rfl, rfl⟩))
  refine wp_loop_rounds 9 ?_
  repeat (rw [rounds_succ]; go_wp2_with (first | ((with_reducible refine wpL_fbin ?_); refine ⟨_, _, _, rfl, rfl, rfl, fun s n => ?_⟩) | ((with_reducible refine wpL_fneg ?_); refine ⟨_, _, rfl, ?_⟩)))
  go_ret
  exact ⟨_, _, by rw [HM.out]; rfl, rfl⟩

set_option maxRecDepth 100000 in
set_option maxHeartbeats 1000000 in
theorem wideSine_10 (Y : Nat) (hi : floatToIntVal .f64 Y .i64 = some (ipart Y)) (h1 : ge64 (fr Y) halfW = true) (h2 : gt64 (sineG (fr Y)) quarW = false) (w : World) :
    Calls Try.prog 141 #[.float .f64 Y] w fun e w' => ∃ s n, e = .returned (.float .f64 (Op.negFloat .f64 (pick .f64 (sineM (fr Y)) s))) ∧ w' = w.drewN n := by
  have hp := order_pick_l .f64
  have hl := fun op => fbin_pick_l op .f64
  have hr := fun op => fbin_pick_r op .f64
  have HC := Lib.hid (fun w => partOfTurn_any Y hi w)
  clear hi
  obtain ⟨F, hF⟩ : ∃ F, F = fr Y := ⟨_, rfl⟩
  rw [← hF] at h1 h2 ⊢
  rw [← hF] at HC
  clear hF
  have hG : sineG F = fbin .sub .f64 F 4602678819172646912 := by unfold sineG; rw [h1]; rfl
  have hH : sineH (sineG F) = sineG F := by unfold sineH; rw [h2]; rfl
  have hZ0 : fbin .mul .f64 (sineH (sineG F)) 4618760256179416344 = sineZ F := rfl
  have hM : sineM F = fbin .mul .f64 (sineZ F) (sineR (fbin .mul .f64 (sineZ F) (sineZ F))) := rfl
  rw [hH, hG] at hZ0
  rw [hG] at h2
  have t1 : (FloatKind.f64.format.order F 4602678819172646912 == some .gt || FloatKind.f64.format.order F 4602678819172646912 == some .eq) = true := h1
  have t2 : (FloatKind.f64.format.order (fbin .sub .f64 F 4602678819172646912) 4598175219545276416 == some .gt) = false := h2
  generalize sineZ F = Z at *
  obtain ⟨U, hU⟩ : ∃ U, fbin .mul .f64 Z Z = U := ⟨_, rfl⟩
  rw [hU] at hM
  have HM := Lib.hid hM
  clear hM hG hH h1 h2
  go_enter Try.func141, Try.ntmps141
  go_wp2_with (first | ((with_reducible refine wpL_fbin ?_); refine ⟨_, _, _, rfl, rfl, rfl, fun s n => ?_⟩) | ((with_reducible refine wpL_fneg ?_); refine ⟨_, _, rfl, ?_⟩) | (go_at_call 140; refine (HC.out _).mono ?_; rintro e w' ⟨s, n, rfl, rfl⟩))
  refine wp_loop_rounds 9 ?_
  repeat (rw [rounds_succ]; go_wp2_with (first | ((with_reducible refine wpL_fbin ?_); refine ⟨_, _, _, rfl, rfl, rfl, fun s n => ?_⟩) | ((with_reducible refine wpL_fneg ?_); refine ⟨_, _, rfl, ?_⟩)))
  go_ret
  exact ⟨_, _, by rw [HM.out]; rfl, rfl⟩

set_option maxRecDepth 100000 in
set_option maxHeartbeats 1000000 in
theorem wideSine_11 (Y : Nat) (hi : floatToIntVal .f64 Y .i64 = some (ipart Y)) (h1 : ge64 (fr Y) halfW = true) (h2 : gt64 (sineG (fr Y)) quarW = true) (w : World) :
    Calls Try.prog 141 #[.float .f64 Y] w fun e w' => ∃ s n, e = .returned (.float .f64 (Op.negFloat .f64 (pick .f64 (sineM (fr Y)) s))) ∧ w' = w.drewN n := by
  have hp := order_pick_l .f64
  have hl := fun op => fbin_pick_l op .f64
  have hr := fun op => fbin_pick_r op .f64
  have HC := Lib.hid (fun w => partOfTurn_any Y hi w)
  clear hi
  obtain ⟨F, hF⟩ : ∃ F, F = fr Y := ⟨_, rfl⟩
  rw [← hF] at h1 h2 ⊢
  rw [← hF] at HC
  clear hF
  have hG : sineG F = fbin .sub .f64 F 4602678819172646912 := by unfold sineG; rw [h1]; rfl
  have hH : sineH (sineG F) = fbin .sub .f64 4602678819172646912 (sineG F) := by unfold sineH; rw [h2]; rfl
  have hZ0 : fbin .mul .f64 (sineH (sineG F)) 4618760256179416344 = sineZ F := rfl
  have hM : sineM F = fbin .mul .f64 (sineZ F) (sineR (fbin .mul .f64 (sineZ F) (sineZ F))) := rfl
  rw [hH, hG] at hZ0
  rw [hG] at h2
  have t1 : (FloatKind.f64.format.order F 4602678819172646912 == some .gt || FloatKind.f64.format.order F 4602678819172646912 == some .eq) = true := h1
  have t2 : (FloatKind.f64.format.order (fbin .sub .f64 F 4602678819172646912) 4598175219545276416 == some .gt) = true := h2
  generalize sineZ F = Z at *
  obtain ⟨U, hU⟩ : ∃ U, fbin .mul .f64 Z Z = U := ⟨_, rfl⟩
  rw [hU] at hM
  have HM := Lib.hid hM
  clear hM hG hH h1 h2
  go_enter Try.func141, Try.ntmps141
  go_wp2_with (first | ((with_reducible refine wpL_fbin ?_); refine ⟨_, _, _, rfl, rfl, rfl, fun s n => ?_⟩) | ((with_reducible refine wpL_fneg ?_); refine ⟨_, _, rfl, ?_⟩) | (go_at_call 140; refine (HC.out _).mono ?_; rintro e w' ⟨s, n, rfl, rfl⟩))
  refine wp_loop_rounds 9 ?_
  repeat (rw [rounds_succ]; go_wp2_with (first | ((with_reducible refine wpL_fbin ?_); refine ⟨_, _, _, rfl, rfl, rfl, fun s n => ?_⟩) | ((with_reducible refine wpL_fneg ?_); refine ⟨_, _, rfl, ?_⟩)))
  go_ret
  exact ⟨_, _, by rw [HM.out]; rfl, rfl⟩

theorem bd_sineF {f : Nat} (hf : Bd .f64 f 1) : Bd .f64 (sineF f) 73 := by
  have h := bd_sineM hf rfl
  unfold sineF
  split
  · exact bd_neg (fbin_lt64 ..) h
  · exact h
theorem wideSine_any (Y : Nat) (hi : floatToIntVal .f64 Y .i64 = some (ipart Y)) (hb : Bd .f64 (fr Y) 1) (w : World) :
    Calls Try.prog 141 #[.float .f64 Y] w fun e w' => e = .returned (.float .f64 (sineF (fr Y))) ∧ ∃ n, w' = w.drewN n := by
  have hn := (bd_sineM hb rfl).num
  cases h1 : ge64 (fr Y) halfW
  · have hF : sineF (fr Y) = sineM (fr Y) := by unfold sineF; rw [h1]; rfl
    cases h2 : gt64 (sineG (fr Y)) quarW
    · refine (wideSine_00 Y hi h1 h2 w).mono ?_
      rintro e w' ⟨s, n, rfl, rfl⟩
      exact ⟨by rw [pick_num hn, hF], n, rfl⟩
    · refine (wideSine_01 Y hi h1 h2 w).mono ?_
      rintro e w' ⟨s, n, rfl, rfl⟩
      exact ⟨by rw [pick_num hn, hF], n, rfl⟩
  · have hF : sineF (fr Y) = Op.negFloat .f64 (sineM (fr Y)) := by unfold sineF; rw [h1, if_pos rfl, fneg_num hn]
    cases h2 : gt64 (sineG (fr Y)) quarW
    · refine (wideSine_10 Y hi h1 h2 w).mono ?_
      rintro e w' ⟨s, n, rfl, rfl⟩
      exact ⟨by rw [pick_num hn, hF], n, rfl⟩
    · refine (wideSine_11 Y hi h1 h2 w).mono ?_
      rintro e w' ⟨s, n, rfl, rfl⟩
      exact ⟨by rw [pick_num hn, hF], n, rfl⟩
end Go.Proofs.Ytogmcinaoemnpaa
