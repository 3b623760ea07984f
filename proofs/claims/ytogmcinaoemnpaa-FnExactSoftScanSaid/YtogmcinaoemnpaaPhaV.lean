
/- The walks of the phasor in the model's package. -/
import Derived.Test.YtogmcinaoemnpaaPhaP
import Derived.Test.YtogmcinaoemnpaaSinU
import Derived.Test.YtogmcinaoemnpaaPhaW
namespace Go.Proofs.Ytogmcinaoemnpaa
open Go Go.RowKit
set_option linter.unusedVariables false

set_option maxRecDepth 100000 in
set_option maxHeartbeats 1000000 in
theorem specPha_00 (Y F  D C S NS NC : Nat)
    (t0 : (FloatKind.f64.format.order F 4598175219545276416 == some .gt || FloatKind.f64.format.order F 4598175219545276416 == some .eq) = false)
    (hD : fbin .sub .f64 4598175219545276416 F = D) (pD : ∀ s, pick .f64 D s = D) (pG : ∀ s, pick .f64 F s = F)
    (HS0 : ∀ w, Calls Try.prog 105 #[.float .f64 F] w fun e w' => e = .returned (.float .f64 S) ∧ ∃ n, w' = w.drewN n)
    (HC0 : ∀ w, Calls Try.prog 105 #[.float .f64 D] w fun e w' => e = .returned (.float .f64 C) ∧ ∃ n, w' = w.drewN n)
    (hNS : fbin .sub .f64 0 S = NS) (pNS : ∀ s, pick .f64 NS s = NS) (hNC : fbin .sub .f64 0 C = NC) (pNC : ∀ s, pick .f64 NC s = NC)
    (okS0 : convOk .f64 S .f32) (okC0 : convOk .f64 C .f32) (okNS0 : convOk .f64 NS .f32) (okNC0 : convOk .f64 NC .f32)
    (hi : floatToIntVal .f64 Y .i64 = some (ipart Y)) (hF0 : fbin .sub .f64 Y (floatOfInt .f64 (ipart Y)) = F) (tF : (FloatKind.f64.format.order F 0 == some .lt) = false)
    (q0 : (FloatKind.f64.format.order (fbin .sub .f64 Y Y) 0 != some .eq) = false) (q1 : (FloatKind.f64.format.order Y 4841369599423283200 == some .gt || FloatKind.f64.format.order Y 4841369599423283200 == some .eq) = false)
    (q2 : (FloatKind.f64.format.order Y 14064741636278059008 == some .lt || FloatKind.f64.format.order Y 14064741636278059008 == some .eq) = false) (w : World) :
    Calls Try.prog 67 #[.float .f64 Y] w (RetC (fconv .f64 C .f32) (fconv .f64 S .f32) w) := by
  have hp := order_pick_l .f64
  have hl := fun op => fbin_pick_l op .f64
  have hr := fun op => fbin_pick_r op .f64
  have HS := Lib.hid HS0
  have HC := Lib.hid HC0
  have okS := Lib.hid okS0
  have okC := Lib.hid okC0
  have okNS := Lib.hid okNS0
  have okNC := Lib.hid okNC0
  clear HS0 HC0 okS0 okC0 okNS0 okNC0
  have HI := Lib.hid hi
  clear hi
  go_enter Try.func67, Try.ntmps67
  go_wp2_with (first | ((with_reducible refine wpL_ftoi ?_); refine ⟨_, _, _, _, rfl, Option.isSome_iff_exists.2 ⟨_, Try.underlying76⟩, Try.underlying2, HI.out, ?_⟩) | ((with_reducible refine wpL_fbin ?_); refine ⟨_, _, _, rfl, rfl, rfl, fun s n => ?_⟩) | go_in)
  refine wp_loop_rounds 1 ?_
  repeat (rw [rounds_succ]; go_wp2_with (first | ((with_reducible refine wpL_fbin ?_); refine ⟨_, _, _, rfl, rfl, rfl, fun s n => ?_⟩) | ((with_reducible refine wpL_fconv ?_); refine ⟨_, _, _, rfl, Option.isSome_iff_exists.2 ⟨_, Try.underlying76⟩, Try.underlying32, FloatKind.noConfusion, okC.out, fun s n => ?_⟩) | ((with_reducible refine wpL_fconv ?_); refine ⟨_, _, _, rfl, Option.isSome_iff_exists.2 ⟨_, Try.underlying76⟩, Try.underlying32, FloatKind.noConfusion, okS.out, fun s n => ?_⟩) | ((with_reducible refine wpL_fconv ?_); refine ⟨_, _, _, rfl, Option.isSome_iff_exists.2 ⟨_, Try.underlying76⟩, Try.underlying32, FloatKind.noConfusion, okNC.out, fun s n => ?_⟩) | ((with_reducible refine wpL_fconv ?_); refine ⟨_, _, _, rfl, Option.isSome_iff_exists.2 ⟨_, Try.underlying76⟩, Try.underlying32, FloatKind.noConfusion, okNS.out, fun s n => ?_⟩) | (go_at_call 105; (with_reducible refine (HS.out _).mono ?_); rintro e w' ⟨rfl, n, rfl⟩) | (go_at_call 105; (with_reducible refine (HC.out _).mono ?_); rintro e w' ⟨rfl, n, rfl⟩) | go_in))
  go_ret
  exact ⟨_, _, _, rfl, rfl⟩

set_option maxRecDepth 100000 in
set_option maxHeartbeats 1000000 in
theorem specPha_01 (Y F g1 D C S NS NC : Nat)
    (e1 : fbin .sub .f64 F 4598175219545276416 = g1)
    (t0 : (FloatKind.f64.format.order F 4598175219545276416 == some .gt || FloatKind.f64.format.order F 4598175219545276416 == some .eq) = true)
    (t1 : (FloatKind.f64.format.order g1 4598175219545276416 == some .gt || FloatKind.f64.format.order g1 4598175219545276416 == some .eq) = false)
    (hD : fbin .sub .f64 4598175219545276416 g1 = D) (pD : ∀ s, pick .f64 D s = D) (pG : ∀ s, pick .f64 g1 s = g1)
    (HS0 : ∀ w, Calls Try.prog 105 #[.float .f64 g1] w fun e w' => e = .returned (.float .f64 S) ∧ ∃ n, w' = w.drewN n)
    (HC0 : ∀ w, Calls Try.prog 105 #[.float .f64 D] w fun e w' => e = .returned (.float .f64 C) ∧ ∃ n, w' = w.drewN n)
    (hNS : fbin .sub .f64 0 S = NS) (pNS : ∀ s, pick .f64 NS s = NS) (hNC : fbin .sub .f64 0 C = NC) (pNC : ∀ s, pick .f64 NC s = NC)
    (okS0 : convOk .f64 S .f32) (okC0 : convOk .f64 C .f32) (okNS0 : convOk .f64 NS .f32) (okNC0 : convOk .f64 NC .f32)
    (hi : floatToIntVal .f64 Y .i64 = some (ipart Y)) (hF0 : fbin .sub .f64 Y (floatOfInt .f64 (ipart Y)) = F) (tF : (FloatKind.f64.format.order F 0 == some .lt) = false)
    (q0 : (FloatKind.f64.format.order (fbin .sub .f64 Y Y) 0 != some .eq) = false) (q1 : (FloatKind.f64.format.order Y 4841369599423283200 == some .gt || FloatKind.f64.format.order Y 4841369599423283200 == some .eq) = false)
    (q2 : (FloatKind.f64.format.order Y 14064741636278059008 == some .lt || FloatKind.f64.format.order Y 14064741636278059008 == some .eq) = false) (w : World) :
    Calls Try.prog 67 #[.float .f64 Y] w (RetC (fconv .f64 NS .f32) (fconv .f64 C .f32) w) := by
  have hp := order_pick_l .f64
  have hl := fun op => fbin_pick_l op .f64
  have hr := fun op => fbin_pick_r op .f64
  have HS := Lib.hid HS0
  have HC := Lib.hid HC0
  have okS := Lib.hid okS0
  have okC := Lib.hid okC0
  have okNS := Lib.hid okNS0
  have okNC := Lib.hid okNC0
  clear HS0 HC0 okS0 okC0 okNS0 okNC0
  have HI := Lib.hid hi
  clear hi
  go_enter Try.func67, Try.ntmps67
  go_wp2_with (first | ((with_reducible refine wpL_ftoi ?_); refine ⟨_, _, _, _, rfl, Option.isSome_iff_exists.2 ⟨_, Try.underlying76⟩, Try.underlying2, HI.out, ?_⟩) | ((with_reducible refine wpL_fbin ?_); refine ⟨_, _, _, rfl, rfl, rfl, fun s n => ?_⟩) | go_in)
  refine wp_loop_rounds 2 ?_
  repeat (rw [rounds_succ]; go_wp2_with (first | ((with_reducible refine wpL_fbin ?_); refine ⟨_, _, _, rfl, rfl, rfl, fun s n => ?_⟩) | ((with_reducible refine wpL_fconv ?_); refine ⟨_, _, _, rfl, Option.isSome_iff_exists.2 ⟨_, Try.underlying76⟩, Try.underlying32, FloatKind.noConfusion, okC.out, fun s n => ?_⟩) | ((with_reducible refine wpL_fconv ?_); refine ⟨_, _, _, rfl, Option.isSome_iff_exists.2 ⟨_, Try.underlying76⟩, Try.underlying32, FloatKind.noConfusion, okS.out, fun s n => ?_⟩) | ((with_reducible refine wpL_fconv ?_); refine ⟨_, _, _, rfl, Option.isSome_iff_exists.2 ⟨_, Try.underlying76⟩, Try.underlying32, FloatKind.noConfusion, okNC.out, fun s n => ?_⟩) | ((with_reducible refine wpL_fconv ?_); refine ⟨_, _, _, rfl, Option.isSome_iff_exists.2 ⟨_, Try.underlying76⟩, Try.underlying32, FloatKind.noConfusion, okNS.out, fun s n => ?_⟩) | (go_at_call 105; (with_reducible refine (HS.out _).mono ?_); rintro e w' ⟨rfl, n, rfl⟩) | (go_at_call 105; (with_reducible refine (HC.out _).mono ?_); rintro e w' ⟨rfl, n, rfl⟩) | go_in))
  go_ret
  exact ⟨_, _, _, rfl, rfl⟩

set_option maxRecDepth 100000 in
set_option maxHeartbeats 1000000 in
theorem specPha_02 (Y F g1 g2 D C S NS NC : Nat)
    (e1 : fbin .sub .f64 F 4598175219545276416 = g1)
    (e2 : fbin .sub .f64 g1 4598175219545276416 = g2)
    (t0 : (FloatKind.f64.format.order F 4598175219545276416 == some .gt || FloatKind.f64.format.order F 4598175219545276416 == some .eq) = true)
    (t1 : (FloatKind.f64.format.order g1 4598175219545276416 == some .gt || FloatKind.f64.format.order g1 4598175219545276416 == some .eq) = true)
    (t2 : (FloatKind.f64.format.order g2 4598175219545276416 == some .gt || FloatKind.f64.format.order g2 4598175219545276416 == some .eq) = false)
    (hD : fbin .sub .f64 4598175219545276416 g2 = D) (pD : ∀ s, pick .f64 D s = D) (pG : ∀ s, pick .f64 g2 s = g2)
    (HS0 : ∀ w, Calls Try.prog 105 #[.float .f64 g2] w fun e w' => e = .returned (.float .f64 S) ∧ ∃ n, w' = w.drewN n)
    (HC0 : ∀ w, Calls Try.prog 105 #[.float .f64 D] w fun e w' => e = .returned (.float .f64 C) ∧ ∃ n, w' = w.drewN n)
    (hNS : fbin .sub .f64 0 S = NS) (pNS : ∀ s, pick .f64 NS s = NS) (hNC : fbin .sub .f64 0 C = NC) (pNC : ∀ s, pick .f64 NC s = NC)
    (okS0 : convOk .f64 S .f32) (okC0 : convOk .f64 C .f32) (okNS0 : convOk .f64 NS .f32) (okNC0 : convOk .f64 NC .f32)
    (hi : floatToIntVal .f64 Y .i64 = some (ipart Y)) (hF0 : fbin .sub .f64 Y (floatOfInt .f64 (ipart Y)) = F) (tF : (FloatKind.f64.format.order F 0 == some .lt) = false)
    (q0 : (FloatKind.f64.format.order (fbin .sub .f64 Y Y) 0 != some .eq) = false) (q1 : (FloatKind.f64.format.order Y 4841369599423283200 == some .gt || FloatKind.f64.format.order Y 4841369599423283200 == some .eq) = false)
    (q2 : (FloatKind.f64.format.order Y 14064741636278059008 == some .lt || FloatKind.f64.format.order Y 14064741636278059008 == some .eq) = false) (w : World) :
    Calls Try.prog 67 #[.float .f64 Y] w (RetC (fconv .f64 NC .f32) (fconv .f64 NS .f32) w) := by
  have hp := order_pick_l .f64
  have hl := fun op => fbin_pick_l op .f64
  have hr := fun op => fbin_pick_r op .f64
  have HS := Lib.hid HS0
  have HC := Lib.hid HC0
  have okS := Lib.hid okS0
  have okC := Lib.hid okC0
  have okNS := Lib.hid okNS0
  have okNC := Lib.hid okNC0
  clear HS0 HC0 okS0 okC0 okNS0 okNC0
  have HI := Lib.hid hi
  clear hi
  go_enter Try.func67, Try.ntmps67
  go_wp2_with (first | ((with_reducible refine wpL_ftoi ?_); refine ⟨_, _, _, _, rfl, Option.isSome_iff_exists.2 ⟨_, Try.underlying76⟩, Try.underlying2, HI.out, ?_⟩) | ((with_reducible refine wpL_fbin ?_); refine ⟨_, _, _, rfl, rfl, rfl, fun s n => ?_⟩) | go_in)
  refine wp_loop_rounds 3 ?_
  repeat (rw [rounds_succ]; go_wp2_with (first | ((with_reducible refine wpL_fbin ?_); refine ⟨_, _, _, rfl, rfl, rfl, fun s n => ?_⟩) | ((with_reducible refine wpL_fconv ?_); refine ⟨_, _, _, rfl, Option.isSome_iff_exists.2 ⟨_, Try.underlying76⟩, Try.underlying32, FloatKind.noConfusion, okC.out, fun s n => ?_⟩) | ((with_reducible refine wpL_fconv ?_); refine ⟨_, _, _, rfl, Option.isSome_iff_exists.2 ⟨_, Try.underlying76⟩, Try.underlying32, FloatKind.noConfusion, okS.out, fun s n => ?_⟩) | ((with_reducible refine wpL_fconv ?_); refine ⟨_, _, _, rfl, Option.isSome_iff_exists.2 ⟨_, Try.underlying76⟩, Try.underlying32, FloatKind.noConfusion, okNC.out, fun s n => ?_⟩) | ((with_reducible refine wpL_fconv ?_); refine ⟨_, _, _, rfl, Option.isSome_iff_exists.2 ⟨_, Try.underlying76⟩, Try.underlying32, FloatKind.noConfusion, okNS.out, fun s n => ?_⟩) | (go_at_call 105; (with_reducible refine (HS.out _).mono ?_); rintro e w' ⟨rfl, n, rfl⟩) | (go_at_call 105; (with_reducible refine (HC.out _).mono ?_); rintro e w' ⟨rfl, n, rfl⟩) | go_in))
  go_ret
  exact ⟨_, _, _, rfl, rfl⟩

set_option maxRecDepth 100000 in
set_option maxHeartbeats 1000000 in
theorem specPha_03 (Y F g1 g2 g3 D C S NS NC : Nat)
    (e1 : fbin .sub .f64 F 4598175219545276416 = g1)
    (e2 : fbin .sub .f64 g1 4598175219545276416 = g2)
    (e3 : fbin .sub .f64 g2 4598175219545276416 = g3)
    (t0 : (FloatKind.f64.format.order F 4598175219545276416 == some .gt || FloatKind.f64.format.order F 4598175219545276416 == some .eq) = true)
    (t1 : (FloatKind.f64.format.order g1 4598175219545276416 == some .gt || FloatKind.f64.format.order g1 4598175219545276416 == some .eq) = true)
    (t2 : (FloatKind.f64.format.order g2 4598175219545276416 == some .gt || FloatKind.f64.format.order g2 4598175219545276416 == some .eq) = true)
    (t3 : (FloatKind.f64.format.order g3 4598175219545276416 == some .gt || FloatKind.f64.format.order g3 4598175219545276416 == some .eq) = false)
    (hD : fbin .sub .f64 4598175219545276416 g3 = D) (pD : ∀ s, pick .f64 D s = D) (pG : ∀ s, pick .f64 g3 s = g3)
    (HS0 : ∀ w, Calls Try.prog 105 #[.float .f64 g3] w fun e w' => e = .returned (.float .f64 S) ∧ ∃ n, w' = w.drewN n)
    (HC0 : ∀ w, Calls Try.prog 105 #[.float .f64 D] w fun e w' => e = .returned (.float .f64 C) ∧ ∃ n, w' = w.drewN n)
    (hNS : fbin .sub .f64 0 S = NS) (pNS : ∀ s, pick .f64 NS s = NS) (hNC : fbin .sub .f64 0 C = NC) (pNC : ∀ s, pick .f64 NC s = NC)
    (okS0 : convOk .f64 S .f32) (okC0 : convOk .f64 C .f32) (okNS0 : convOk .f64 NS .f32) (okNC0 : convOk .f64 NC .f32)
    (hi : floatToIntVal .f64 Y .i64 = some (ipart Y)) (hF0 : fbin .sub .f64 Y (floatOfInt .f64 (ipart Y)) = F) (tF : (FloatKind.f64.format.order F 0 == some .lt) = false)
    (q0 : (FloatKind.f64.format.order (fbin .sub .f64 Y Y) 0 != some .eq) = false) (q1 : (FloatKind.f64.format.order Y 4841369599423283200 == some .gt || FloatKind.f64.format.order Y 4841369599423283200 == some .eq) = false)
    (q2 : (FloatKind.f64.format.order Y 14064741636278059008 == some .lt || FloatKind.f64.format.order Y 14064741636278059008 == some .eq) = false) (w : World) :
    Calls Try.prog 67 #[.float .f64 Y] w (RetC (fconv .f64 S .f32) (fconv .f64 NC .f32) w) := by
  have hp := order_pick_l .f64
  have hl := fun op => fbin_pick_l op .f64
  have hr := fun op => fbin_pick_r op .f64
  have HS := Lib.hid HS0
  have HC := Lib.hid HC0
  have okS := Lib.hid okS0
  have okC := Lib.hid okC0
  have okNS := Lib.hid okNS0
  have okNC := Lib.hid okNC0
  clear HS0 HC0 okS0 okC0 okNS0 okNC0
  have HI := Lib.hid hi
  clear hi
  go_enter Try.func67, Try.ntmps67
  go_wp2_with (first | ((with_reducible refine wpL_ftoi ?_); refine ⟨_, _, _, _, rfl, Option.isSome_iff_exists.2 ⟨_, Try.underlying76⟩, Try.underlying2, HI.out, ?_⟩) | ((with_reducible refine wpL_fbin ?_); refine ⟨_, _, _, rfl, rfl, rfl, fun s n => ?_⟩) | go_in)
  refine wp_loop_rounds 4 ?_
  repeat (rw [rounds_succ]; go_wp2_with (first | ((with_reducible refine wpL_fbin ?_); refine ⟨_, _, _, rfl, rfl, rfl, fun s n => ?_⟩) | ((with_reducible refine wpL_fconv ?_); refine ⟨_, _, _, rfl, Option.isSome_iff_exists.2 ⟨_, Try.underlying76⟩, Try.underlying32, FloatKind.noConfusion, okC.out, fun s n => ?_⟩) | ((with_reducible refine wpL_fconv ?_); refine ⟨_, _, _, rfl, Option.isSome_iff_exists.2 ⟨_, Try.underlying76⟩, Try.underlying32, FloatKind.noConfusion, okS.out, fun s n => ?_⟩) | ((with_reducible refine wpL_fconv ?_); refine ⟨_, _, _, rfl, Option.isSome_iff_exists.2 ⟨_, Try.underlying76⟩, Try.underlying32, FloatKind.noConfusion, okNC.out, fun s n => ?_⟩) | ((with_reducible refine wpL_fconv ?_); refine ⟨_, _, _, rfl, Option.isSome_iff_exists.2 ⟨_, Try.underlying76⟩, Try.underlying32, FloatKind.noConfusion, okNS.out, fun s n => ?_⟩) | (go_at_call 105; (with_reducible refine (HS.out _).mono ?_); rintro e w' ⟨rfl, n, rfl⟩) | (go_at_call 105; (with_reducible refine (HC.out _).mono ?_); rintro e w' ⟨rfl, n, rfl⟩) | go_in))
  go_ret
  exact ⟨_, _, _, rfl, rfl⟩

set_option maxRecDepth 100000 in
set_option maxHeartbeats 1000000 in
theorem specPha_04 (Y F g1 g2 g3 g4 D C S NS NC : Nat)
    (e1 : fbin .sub .f64 F 4598175219545276416 = g1)
    (e2 : fbin .sub .f64 g1 4598175219545276416 = g2)
    (e3 : fbin .sub .f64 g2 4598175219545276416 = g3)
    (e4 : fbin .sub .f64 g3 4598175219545276416 = g4)
    (t0 : (FloatKind.f64.format.order F 4598175219545276416 == some .gt || FloatKind.f64.format.order F 4598175219545276416 == some .eq) = true)
    (t1 : (FloatKind.f64.format.order g1 4598175219545276416 == some .gt || FloatKind.f64.format.order g1 4598175219545276416 == some .eq) = true)
    (t2 : (FloatKind.f64.format.order g2 4598175219545276416 == some .gt || FloatKind.f64.format.order g2 4598175219545276416 == some .eq) = true)
    (t3 : (FloatKind.f64.format.order g3 4598175219545276416 == some .gt || FloatKind.f64.format.order g3 4598175219545276416 == some .eq) = true)
    (t4 : (FloatKind.f64.format.order g4 4598175219545276416 == some .gt || FloatKind.f64.format.order g4 4598175219545276416 == some .eq) = false)
    (hD : fbin .sub .f64 4598175219545276416 g4 = D) (pD : ∀ s, pick .f64 D s = D) (pG : ∀ s, pick .f64 g4 s = g4)
    (HS0 : ∀ w, Calls Try.prog 105 #[.float .f64 g4] w fun e w' => e = .returned (.float .f64 S) ∧ ∃ n, w' = w.drewN n)
    (HC0 : ∀ w, Calls Try.prog 105 #[.float .f64 D] w fun e w' => e = .returned (.float .f64 C) ∧ ∃ n, w' = w.drewN n)
    (hNS : fbin .sub .f64 0 S = NS) (pNS : ∀ s, pick .f64 NS s = NS) (hNC : fbin .sub .f64 0 C = NC) (pNC : ∀ s, pick .f64 NC s = NC)
    (okS0 : convOk .f64 S .f32) (okC0 : convOk .f64 C .f32) (okNS0 : convOk .f64 NS .f32) (okNC0 : convOk .f64 NC .f32)
    (hi : floatToIntVal .f64 Y .i64 = some (ipart Y)) (hF0 : fbin .sub .f64 Y (floatOfInt .f64 (ipart Y)) = F) (tF : (FloatKind.f64.format.order F 0 == some .lt) = false)
    (q0 : (FloatKind.f64.format.order (fbin .sub .f64 Y Y) 0 != some .eq) = false) (q1 : (FloatKind.f64.format.order Y 4841369599423283200 == some .gt || FloatKind.f64.format.order Y 4841369599423283200 == some .eq) = false)
    (q2 : (FloatKind.f64.format.order Y 14064741636278059008 == some .lt || FloatKind.f64.format.order Y 14064741636278059008 == some .eq) = false) (w : World) :
    Calls Try.prog 67 #[.float .f64 Y] w (RetC (fconv .f64 C .f32) (fconv .f64 S .f32) w) := by
  have hp := order_pick_l .f64
  have hl := fun op => fbin_pick_l op .f64
  have hr := fun op => fbin_pick_r op .f64
  have HS := Lib.hid HS0
  have HC := Lib.hid HC0
  have okS := Lib.hid okS0
  have okC := Lib.hid okC0
  have okNS := Lib.hid okNS0
  have okNC := Lib.hid okNC0
  clear HS0 HC0 okS0 okC0 okNS0 okNC0
  have HI := Lib.hid hi
  clear hi
  go_enter Try.func67, Try.ntmps67
  go_wp2_with (first | ((with_reducible refine wpL_ftoi ?_); refine ⟨_, _, _, _, rfl, Option.isSome_iff_exists.2 ⟨_, Try.underlying76⟩, Try.underlying2, HI.out, ?_⟩) | ((with_reducible refine wpL_fbin ?_); refine ⟨_, _, _, rfl, rfl, rfl, fun s n => ?_⟩) | go_in)
  refine wp_loop_rounds 5 ?_
  repeat (rw [rounds_succ]; go_wp2_with (first | ((with_reducible refine wpL_fbin ?_); refine ⟨_, _, _, rfl, rfl, rfl, fun s n => ?_⟩) | ((with_reducible refine wpL_fconv ?_); refine ⟨_, _, _, rfl, Option.isSome_iff_exists.2 ⟨_, Try.underlying76⟩, Try.underlying32, FloatKind.noConfusion, okC.out, fun s n => ?_⟩) | ((with_reducible refine wpL_fconv ?_); refine ⟨_, _, _, rfl, Option.isSome_iff_exists.2 ⟨_, Try.underlying76⟩, Try.underlying32, FloatKind.noConfusion, okS.out, fun s n => ?_⟩) | ((with_reducible refine wpL_fconv ?_); refine ⟨_, _, _, rfl, Option.isSome_iff_exists.2 ⟨_, Try.underlying76⟩, Try.underlying32, FloatKind.noConfusion, okNC.out, fun s n => ?_⟩) | ((with_reducible refine wpL_fconv ?_); refine ⟨_, _, _, rfl, Option.isSome_iff_exists.2 ⟨_, Try.underlying76⟩, Try.underlying32, FloatKind.noConfusion, okNS.out, fun s n => ?_⟩) | (go_at_call 105; (with_reducible refine (HS.out _).mono ?_); rintro e w' ⟨rfl, n, rfl⟩) | (go_at_call 105; (with_reducible refine (HC.out _).mono ?_); rintro e w' ⟨rfl, n, rfl⟩) | go_in))
  go_ret
  exact ⟨_, _, _, rfl, rfl⟩

set_option maxRecDepth 100000 in
set_option maxHeartbeats 1000000 in
theorem specPha_10 (Y F  D C S NS NC : Nat)
    (t0 : (FloatKind.f64.format.order F 4598175219545276416 == some .gt || FloatKind.f64.format.order F 4598175219545276416 == some .eq) = false)
    (hD : fbin .sub .f64 4598175219545276416 F = D) (pD : ∀ s, pick .f64 D s = D) (pG : ∀ s, pick .f64 F s = F)
    (HS0 : ∀ w, Calls Try.prog 105 #[.float .f64 F] w fun e w' => e = .returned (.float .f64 S) ∧ ∃ n, w' = w.drewN n)
    (HC0 : ∀ w, Calls Try.prog 105 #[.float .f64 D] w fun e w' => e = .returned (.float .f64 C) ∧ ∃ n, w' = w.drewN n)
    (hNS : fbin .sub .f64 0 S = NS) (pNS : ∀ s, pick .f64 NS s = NS) (hNC : fbin .sub .f64 0 C = NC) (pNC : ∀ s, pick .f64 NC s = NC)
    (okS0 : convOk .f64 S .f32) (okC0 : convOk .f64 C .f32) (okNS0 : convOk .f64 NS .f32) (okNC0 : convOk .f64 NC .f32)
    (hi : floatToIntVal .f64 Y .i64 = some (ipart Y)) (F0 : Nat) (hF0 : fbin .sub .f64 Y (floatOfInt .f64 (ipart Y)) = F0) (hF : fbin .add .f64 F0 4607182418800017408 = F) (tF : (FloatKind.f64.format.order F0 0 == some .lt) = true)
    (q0 : (FloatKind.f64.format.order (fbin .sub .f64 Y Y) 0 != some .eq) = false) (q1 : (FloatKind.f64.format.order Y 4841369599423283200 == some .gt || FloatKind.f64.format.order Y 4841369599423283200 == some .eq) = false)
    (q2 : (FloatKind.f64.format.order Y 14064741636278059008 == some .lt || FloatKind.f64.format.order Y 14064741636278059008 == some .eq) = false) (w : World) :
    Calls Try.prog 67 #[.float .f64 Y] w (RetC (fconv .f64 C .f32) (fconv .f64 S .f32) w) := by
  have hp := order_pick_l .f64
  have hl := fun op => fbin_pick_l op .f64
  have hr := fun op => fbin_pick_r op .f64
  have HS := Lib.hid HS0
  have HC := Lib.hid HC0
  have okS := Lib.hid okS0
  have okC := Lib.hid okC0
  have okNS := Lib.hid okNS0
  have okNC := Lib.hid okNC0
  clear HS0 HC0 okS0 okC0 okNS0 okNC0
  have HI := Lib.hid hi
  clear hi
  go_enter Try.func67, Try.ntmps67
  go_wp2_with (first | ((with_reducible refine wpL_ftoi ?_); refine ⟨_, _, _, _, rfl, Option.isSome_iff_exists.2 ⟨_, Try.underlying76⟩, Try.underlying2, HI.out, ?_⟩) | ((with_reducible refine wpL_fbin ?_); refine ⟨_, _, _, rfl, rfl, rfl, fun s n => ?_⟩) | go_in)
  refine wp_loop_rounds 1 ?_
  repeat (rw [rounds_succ]; go_wp2_with (first | ((with_reducible refine wpL_fbin ?_); refine ⟨_, _, _, rfl, rfl, rfl, fun s n => ?_⟩) | ((with_reducible refine wpL_fconv ?_); refine ⟨_, _, _, rfl, Option.isSome_iff_exists.2 ⟨_, Try.underlying76⟩, Try.underlying32, FloatKind.noConfusion, okC.out, fun s n => ?_⟩) | ((with_reducible refine wpL_fconv ?_); refine ⟨_, _, _, rfl, Option.isSome_iff_exists.2 ⟨_, Try.underlying76⟩, Try.underlying32, FloatKind.noConfusion, okS.out, fun s n => ?_⟩) | ((with_reducible refine wpL_fconv ?_); refine ⟨_, _, _, rfl, Option.isSome_iff_exists.2 ⟨_, Try.underlying76⟩, Try.underlying32, FloatKind.noConfusion, okNC.out, fun s n => ?_⟩) | ((with_reducible refine wpL_fconv ?_); refine ⟨_, _, _, rfl, Option.isSome_iff_exists.2 ⟨_, Try.underlying76⟩, Try.underlying32, FloatKind.noConfusion, okNS.out, fun s n => ?_⟩) | (go_at_call 105; (with_reducible refine (HS.out _).mono ?_); rintro e w' ⟨rfl, n, rfl⟩) | (go_at_call 105; (with_reducible refine (HC.out _).mono ?_); rintro e w' ⟨rfl, n, rfl⟩) | go_in))
  go_ret
  exact ⟨_, _, _, rfl, rfl⟩

set_option maxRecDepth 100000 in
set_option maxHeartbeats 1000000 in
theorem specPha_11 (Y F g1 D C S NS NC : Nat)
    (e1 : fbin .sub .f64 F 4598175219545276416 = g1)
    (t0 : (FloatKind.f64.format.order F 4598175219545276416 == some .gt || FloatKind.f64.format.order F 4598175219545276416 == some .eq) = true)
    (t1 : (FloatKind.f64.format.order g1 4598175219545276416 == some .gt || FloatKind.f64.format.order g1 4598175219545276416 == some .eq) = false)
    (hD : fbin .sub .f64 4598175219545276416 g1 = D) (pD : ∀ s, pick .f64 D s = D) (pG : ∀ s, pick .f64 g1 s = g1)
    (HS0 : ∀ w, Calls Try.prog 105 #[.float .f64 g1] w fun e w' => e = .returned (.float .f64 S) ∧ ∃ n, w' = w.drewN n)
    (HC0 : ∀ w, Calls Try.prog 105 #[.float .f64 D] w fun e w' => e = .returned (.float .f64 C) ∧ ∃ n, w' = w.drewN n)
    (hNS : fbin .sub .f64 0 S = NS) (pNS : ∀ s, pick .f64 NS s = NS) (hNC : fbin .sub .f64 0 C = NC) (pNC : ∀ s, pick .f64 NC s = NC)
    (okS0 : convOk .f64 S .f32) (okC0 : convOk .f64 C .f32) (okNS0 : convOk .f64 NS .f32) (okNC0 : convOk .f64 NC .f32)
    (hi : floatToIntVal .f64 Y .i64 = some (ipart Y)) (F0 : Nat) (hF0 : fbin .sub .f64 Y (floatOfInt .f64 (ipart Y)) = F0) (hF : fbin .add .f64 F0 4607182418800017408 = F) (tF : (FloatKind.f64.format.order F0 0 == some .lt) = true)
    (q0 : (FloatKind.f64.format.order (fbin .sub .f64 Y Y) 0 != some .eq) = false) (q1 : (FloatKind.f64.format.order Y 4841369599423283200 == some .gt || FloatKind.f64.format.order Y 4841369599423283200 == some .eq) = false)
    (q2 : (FloatKind.f64.format.order Y 14064741636278059008 == some .lt || FloatKind.f64.format.order Y 14064741636278059008 == some .eq) = false) (w : World) :
    Calls Try.prog 67 #[.float .f64 Y] w (RetC (fconv .f64 NS .f32) (fconv .f64 C .f32) w) := by
  have hp := order_pick_l .f64
  have hl := fun op => fbin_pick_l op .f64
  have hr := fun op => fbin_pick_r op .f64
  have HS := Lib.hid HS0
  have HC := Lib.hid HC0
  have okS := Lib.hid okS0
  have okC := Lib.hid okC0
  have okNS := Lib.hid okNS0
  have okNC := Lib.hid okNC0
  clear HS0 HC0 okS0 okC0 okNS0 okNC0
  have HI := Lib.hid hi
  clear hi
  go_enter Try.func67, Try.ntmps67
  go_wp2_with (first | ((with_reducible refine wpL_ftoi ?_); refine ⟨_, _, _, _, rfl, Option.isSome_iff_exists.2 ⟨_, Try.underlying76⟩, Try.underlying2, HI.out, ?_⟩) | ((with_reducible refine wpL_fbin ?_); refine ⟨_, _, _, rfl, rfl, rfl, fun s n => ?_⟩) | go_in)
  refine wp_loop_rounds 2 ?_
  repeat (rw [rounds_succ]; go_wp2_with (first | ((with_reducible refine wpL_fbin ?_); refine ⟨_, _, _, rfl, rfl, rfl, fun s n => ?_⟩) | ((with_reducible refine wpL_fconv ?_); refine ⟨_, _, _, rfl, Option.isSome_iff_exists.2 ⟨_, Try.underlying76⟩, Try.underlying32, FloatKind.noConfusion, okC.out, fun s n => ?_⟩) | ((with_reducible refine wpL_fconv ?_); refine ⟨_, _, _, rfl, Option.isSome_iff_exists.2 ⟨_, Try.underlying76⟩, Try.underlying32, FloatKind.noConfusion, okS.out, fun s n => ?_⟩) | ((with_reducible refine wpL_fconv ?_); refine ⟨_, _, _, rfl, Option.isSome_iff_exists.2 ⟨_, Try.underlying76⟩, Try.underlying32, FloatKind.noConfusion, okNC.out, fun s n => ?_⟩) | ((with_reducible refine wpL_fconv ?_); refine ⟨_, _, _, rfl, Option.isSome_iff_exists.2 ⟨_, Try.underlying76⟩, Try.underlying32, FloatKind.noConfusion, okNS.out, fun s n => ?_⟩) | (go_at_call 105; (with_reducible refine (HS.out _).mono ?_); rintro e w' ⟨rfl, n, rfl⟩) | (go_at_call 105; (with_reducible refine (HC.out _).mono ?_); rintro e w' ⟨rfl, n, rfl⟩) | go_in))
  go_ret
  exact ⟨_, _, _, rfl, rfl⟩

set_option maxRecDepth 100000 in
set_option maxHeartbeats 1000000 in
theorem specPha_12 (Y F g1 g2 D C S NS NC : Nat)
    (e1 : fbin .sub .f64 F 4598175219545276416 = g1)
    (e2 : fbin .sub .f64 g1 4598175219545276416 = g2)
    (t0 : (FloatKind.f64.format.order F 4598175219545276416 == some .gt || FloatKind.f64.format.order F 4598175219545276416 == some .eq) = true)
    (t1 : (FloatKind.f64.format.order g1 4598175219545276416 == some .gt || FloatKind.f64.format.order g1 4598175219545276416 == some .eq) = true)
    (t2 : (FloatKind.f64.format.order g2 4598175219545276416 == some .gt || FloatKind.f64.format.order g2 4598175219545276416 == some .eq) = false)
    (hD : fbin .sub .f64 4598175219545276416 g2 = D) (pD : ∀ s, pick .f64 D s = D) (pG : ∀ s, pick .f64 g2 s = g2)
    (HS0 : ∀ w, Calls Try.prog 105 #[.float .f64 g2] w fun e w' => e = .returned (.float .f64 S) ∧ ∃ n, w' = w.drewN n)
    (HC0 : ∀ w, Calls Try.prog 105 #[.float .f64 D] w fun e w' => e = .returned (.float .f64 C) ∧ ∃ n, w' = w.drewN n)
    (hNS : fbin .sub .f64 0 S = NS) (pNS : ∀ s, pick .f64 NS s = NS) (hNC : fbin .sub .f64 0 C = NC) (pNC : ∀ s, pick .f64 NC s = NC)
    (okS0 : convOk .f64 S .f32) (okC0 : convOk .f64 C .f32) (okNS0 : convOk .f64 NS .f32) (okNC0 : convOk .f64 NC .f32)
    (hi : floatToIntVal .f64 Y .i64 = some (ipart Y)) (F0 : Nat) (hF0 : fbin .sub .f64 Y (floatOfInt .f64 (ipart Y)) = F0) (hF : fbin .add .f64 F0 4607182418800017408 = F) (tF : (FloatKind.f64.format.order F0 0 == some .lt) = true)
    (q0 : (FloatKind.f64.format.order (fbin .sub .f64 Y Y) 0 != some .eq) = false) (q1 : (FloatKind.f64.format.order Y 4841369599423283200 == some .gt || FloatKind.f64.format.order Y 4841369599423283200 == some .eq) = false)
    (q2 : (FloatKind.f64.format.order Y 14064741636278059008 == some .lt || FloatKind.f64.format.order Y 14064741636278059008 == some .eq) = false) (w : World) :
    Calls Try.prog 67 #[.float .f64 Y] w (RetC (fconv .f64 NC .f32) (fconv .f64 NS .f32) w) := by
  have hp := order_pick_l .f64
  have hl := fun op => fbin_pick_l op .f64
  have hr := fun op => fbin_pick_r op .f64
  have HS := Lib.hid HS0
  have HC := Lib.hid HC0
  have okS := Lib.hid okS0
  have okC := Lib.hid okC0
  have okNS := Lib.hid okNS0
  have okNC := Lib.hid okNC0
  clear HS0 HC0 okS0 okC0 okNS0 okNC0
  have HI := Lib.hid hi
  clear hi
  go_enter Try.func67, Try.ntmps67
  go_wp2_with (first | ((with_reducible refine wpL_ftoi ?_); refine ⟨_, _, _, _, rfl, Option.isSome_iff_exists.2 ⟨_, Try.underlying76⟩, Try.underlying2, HI.out, ?_⟩) | ((with_reducible refine wpL_fbin ?_); refine ⟨_, _, _, rfl, rfl, rfl, fun s n => ?_⟩) | go_in)
  refine wp_loop_rounds 3 ?_
  repeat (rw [rounds_succ]; go_wp2_with (first | ((with_reducible refine wpL_fbin ?_); refine ⟨_, _, _, rfl, rfl, rfl, fun s n => ?_⟩) | ((with_reducible refine wpL_fconv ?_); refine ⟨_, _, _, rfl, Option.isSome_iff_exists.2 ⟨_, Try.underlying76⟩, Try.underlying32, FloatKind.noConfusion, okC.out, fun s n => ?_⟩) | ((with_reducible refine wpL_fconv ?_); refine ⟨_, _, _, rfl, Option.isSome_iff_exists.2 ⟨_, Try.underlying76⟩, Try.underlying32, FloatKind.noConfusion, okS.out, fun s n => ?_⟩) | ((with_reducible refine wpL_fconv ?_); refine ⟨_, _, _, rfl, Option.isSome_iff_exists.2 ⟨_, Try.underlying76⟩, Try.underlying32, FloatKind.noConfusion, okNC.out, fun s n => ?_⟩) | ((with_reducible refine wpL_fconv ?_); refine ⟨_, _, _, rfl, Option.isSome_iff_exists.2 ⟨_, Try.underlying76⟩, Try.underlying32, FloatKind.noConfusion, okNS.out, fun s n => ?_⟩) | (go_at_call 105; (with_reducible refine (HS.out _).mono ?_); rintro e w' ⟨rfl, n, rfl⟩) | (go_at_call 105; (with_reducible refine (HC.out _).mono ?_); rintro e w' ⟨rfl, n, rfl⟩) | go_in))
  go_ret
  exact ⟨_, _, _, rfl, rfl⟩

set_option maxRecDepth 100000 in
set_option maxHeartbeats 1000000 in
theorem specPha_13 (Y F g1 g2 g3 D C S NS NC : Nat)
    (e1 : fbin .sub .f64 F 4598175219545276416 = g1)
    (e2 : fbin .sub .f64 g1 4598175219545276416 = g2)
    (e3 : fbin .sub .f64 g2 4598175219545276416 = g3)
    (t0 : (FloatKind.f64.format.order F 4598175219545276416 == some .gt || FloatKind.f64.format.order F 4598175219545276416 == some .eq) = true)
    (t1 : (FloatKind.f64.format.order g1 4598175219545276416 == some .gt || FloatKind.f64.format.order g1 4598175219545276416 == some .eq) = true)
    (t2 : (FloatKind.f64.format.order g2 4598175219545276416 == some .gt || FloatKind.f64.format.order g2 4598175219545276416 == some .eq) = true)
    (t3 : (FloatKind.f64.format.order g3 4598175219545276416 == some .gt || FloatKind.f64.format.order g3 4598175219545276416 == some .eq) = false)
    (hD : fbin .sub .f64 4598175219545276416 g3 = D) (pD : ∀ s, pick .f64 D s = D) (pG : ∀ s, pick .f64 g3 s = g3)
    (HS0 : ∀ w, Calls Try.prog 105 #[.float .f64 g3] w fun e w' => e = .returned (.float .f64 S) ∧ ∃ n, w' = w.drewN n)
    (HC0 : ∀ w, Calls Try.prog 105 #[.float .f64 D] w fun e w' => e = .returned (.float .f64 C) ∧ ∃ n, w' = w.drewN n)
    (hNS : fbin .sub .f64 0 S = NS) (pNS : ∀ s, pick .f64 NS s = NS) (hNC : fbin .sub .f64 0 C = NC) (pNC : ∀ s, pick .f64 NC s = NC)
    (okS0 : convOk .f64 S .f32) (okC0 : convOk .f64 C .f32) (okNS0 : convOk .f64 NS .f32) (okNC0 : convOk .f64 NC .f32)
    (hi : floatToIntVal .f64 Y .i64 = some (ipart Y)) (F0 : Nat) (hF0 : fbin .sub .f64 Y (floatOfInt .f64 (ipart Y)) = F0) (hF : fbin .add .f64 F0 4607182418800017408 = F) (tF : (FloatKind.f64.format.order F0 0 == some .lt) = true)
    (q0 : (FloatKind.f64.format.order (fbin .sub .f64 Y Y) 0 != some .eq) = false) (q1 : (FloatKind.f64.format.order Y 4841369599423283200 == some .gt || FloatKind.f64.format.order Y 4841369599423283200 == some .eq) = false)
    (q2 : (FloatKind.f64.format.order Y 14064741636278059008 == some .lt || FloatKind.f64.format.order Y 14064741636278059008 == some .eq) = false) (w : World) :
    Calls Try.prog 67 #[.float .f64 Y] w (RetC (fconv .f64 S .f32) (fconv .f64 NC .f32) w) := by
  have hp := order_pick_l .f64
  have hl := fun op => fbin_pick_l op .f64
  have hr := fun op => fbin_pick_r op .f64
  have HS := Lib.hid HS0
  have HC := Lib.hid HC0
  have okS := Lib.hid okS0
  have okC := Lib.hid okC0
  have okNS := Lib.hid okNS0
  have okNC := Lib.hid okNC0
  clear HS0 HC0 okS0 okC0 okNS0 okNC0
  have HI := Lib.hid hi
  clear hi
  go_enter Try.func67, Try.ntmps67
  go_wp2_with (first | ((with_reducible refine wpL_ftoi ?_); refine ⟨_, _, _, _, rfl, Option.isSome_iff_exists.2 ⟨_, Try.underlying76⟩, Try.underlying2, HI.out, ?_⟩) | ((with_reducible refine wpL_fbin ?_); refine ⟨_, _, _, rfl, rfl, rfl, fun s n => ?_⟩) | go_in)
  refine wp_loop_rounds 4 ?_
  repeat (rw [rounds_succ]; go_wp2_with (first | ((with_reducible refine wpL_fbin ?_); refine ⟨_, _, _, rfl, rfl, rfl, fun s n => ?_⟩) | ((with_reducible refine wpL_fconv ?_); refine ⟨_, _, _, rfl, Option.isSome_iff_exists.2 ⟨_, Try.underlying76⟩, Try.underlying32, FloatKind.noConfusion, okC.out, fun s n => ?_⟩) | ((with_reducible refine wpL_fconv ?_); refine ⟨_, _, _, rfl, Option.isSome_iff_exists.2 ⟨_, Try.underlying76⟩, Try.underlying32, FloatKind.noConfusion, okS.out, fun s n => ?_⟩) | ((with_reducible refine wpL_fconv ?_); refine ⟨_, _, _, rfl, Option.isSome_iff_exists.2 ⟨_, Try.underlying76⟩, Try.underlying32, FloatKind.noConfusion, okNC.out, fun s n => ?_⟩) | ((with_reducible refine wpL_fconv ?_); refine ⟨_, _, _, rfl, Option.isSome_iff_exists.2 ⟨_, Try.underlying76⟩, Try.underlying32, FloatKind.noConfusion, okNS.out, fun s n => ?_⟩) | (go_at_call 105; (with_reducible refine (HS.out _).mono ?_); rintro e w' ⟨rfl, n, rfl⟩) | (go_at_call 105; (with_reducible refine (HC.out _).mono ?_); rintro e w' ⟨rfl, n, rfl⟩) | go_in))
  go_ret
  exact ⟨_, _, _, rfl, rfl⟩

set_option maxRecDepth 100000 in
set_option maxHeartbeats 1000000 in
theorem specPha_14 (Y F g1 g2 g3 g4 D C S NS NC : Nat)
    (e1 : fbin .sub .f64 F 4598175219545276416 = g1)
    (e2 : fbin .sub .f64 g1 4598175219545276416 = g2)
    (e3 : fbin .sub .f64 g2 4598175219545276416 = g3)
    (e4 : fbin .sub .f64 g3 4598175219545276416 = g4)
    (t0 : (FloatKind.f64.format.order F 4598175219545276416 == some .gt || FloatKind.f64.format.order F 4598175219545276416 == some .eq) = true)
    (t1 : (FloatKind.f64.format.order g1 4598175219545276416 == some .gt || FloatKind.f64.format.order g1 4598175219545276416 == some .eq) = true)
    (t2 : (FloatKind.f64.format.order g2 4598175219545276416 == some .gt || FloatKind.f64.format.order g2 4598175219545276416 == some .eq) = true)
    (t3 : (FloatKind.f64.format.order g3 4598175219545276416 == some .gt || FloatKind.f64.format.order g3 4598175219545276416 == some .eq) = true)
    (t4 : (FloatKind.f64.format.order g4 4598175219545276416 == some .gt || FloatKind.f64.format.order g4 4598175219545276416 == some .eq) = false)
    (hD : fbin .sub .f64 4598175219545276416 g4 = D) (pD : ∀ s, pick .f64 D s = D) (pG : ∀ s, pick .f64 g4 s = g4)
    (HS0 : ∀ w, Calls Try.prog 105 #[.float .f64 g4] w fun e w' => e = .returned (.float .f64 S) ∧ ∃ n, w' = w.drewN n)
    (HC0 : ∀ w, Calls Try.prog 105 #[.float .f64 D] w fun e w' => e = .returned (.float .f64 C) ∧ ∃ n, w' = w.drewN n)
    (hNS : fbin .sub .f64 0 S = NS) (pNS : ∀ s, pick .f64 NS s = NS) (hNC : fbin .sub .f64 0 C = NC) (pNC : ∀ s, pick .f64 NC s = NC)
    (okS0 : convOk .f64 S .f32) (okC0 : convOk .f64 C .f32) (okNS0 : convOk .f64 NS .f32) (okNC0 : convOk .f64 NC .f32)
    (hi : floatToIntVal .f64 Y .i64 = some (ipart Y)) (F0 : Nat) (hF0 : fbin .sub .f64 Y (floatOfInt .f64 (ipart Y)) = F0) (hF : fbin .add .f64 F0 4607182418800017408 = F) (tF : (FloatKind.f64.format.order F0 0 == some .lt) = true)
    (q0 : (FloatKind.f64.format.order (fbin .sub .f64 Y Y) 0 != some .eq) = false) (q1 : (FloatKind.f64.format.order Y 4841369599423283200 == some .gt || FloatKind.f64.format.order Y 4841369599423283200 == some .eq) = false)
    (q2 : (FloatKind.f64.format.order Y 14064741636278059008 == some .lt || FloatKind.f64.format.order Y 14064741636278059008 == some .eq) = false) (w : World) :
    Calls Try.prog 67 #[.float .f64 Y] w (RetC (fconv .f64 C .f32) (fconv .f64 S .f32) w) := by
  have hp := order_pick_l .f64
  have hl := fun op => fbin_pick_l op .f64
  have hr := fun op => fbin_pick_r op .f64
  have HS := Lib.hid HS0
  have HC := Lib.hid HC0
  have okS := Lib.hid okS0
  have okC := Lib.hid okC0
  have okNS := Lib.hid okNS0
  have okNC := Lib.hid okNC0
  clear HS0 HC0 okS0 okC0 okNS0 okNC0
  have HI := Lib.hid hi
  clear hi
  go_enter Try.func67, Try.ntmps67
  go_wp2_with (first | ((with_reducible refine wpL_ftoi ?_); refine ⟨_, _, _, _, rfl, Option.isSome_iff_exists.2 ⟨_, Try.underlying76⟩, Try.underlying2, HI.out, ?_⟩) | ((with_reducible refine wpL_fbin ?_); refine ⟨_, _, _, rfl, rfl, rfl, fun s n => ?_⟩) | go_in)
  refine wp_loop_rounds 5 ?_
  repeat (rw [rounds_succ]; go_wp2_with (first | ((with_reducible refine wpL_fbin ?_); refine ⟨_, _, _, rfl, rfl, rfl, fun s n => ?_⟩) | ((with_reducible refine wpL_fconv ?_); refine ⟨_, _, _, rfl, Option.isSome_iff_exists.2 ⟨_, Try.underlying76⟩, Try.underlying32, FloatKind.noConfusion, okC.out, fun s n => ?_⟩) | ((with_reducible refine wpL_fconv ?_); refine ⟨_, _, _, rfl, Option.isSome_iff_exists.2 ⟨_, Try.underlying76⟩, Try.underlying32, FloatKind.noConfusion, okS.out, fun s n => ?_⟩) | ((with_reducible refine wpL_fconv ?_); refine ⟨_, _, _, rfl, Option.isSome_iff_exists.2 ⟨_, Try.underlying76⟩, Try.underlying32, FloatKind.noConfusion, okNC.out, fun s n => ?_⟩) | ((with_reducible refine wpL_fconv ?_); refine ⟨_, _, _, rfl, Option.isSome_iff_exists.2 ⟨_, Try.underlying76⟩, Try.underlying32, FloatKind.noConfusion, okNS.out, fun s n => ?_⟩) | (go_at_call 105; (with_reducible refine (HS.out _).mono ?_); rintro e w' ⟨rfl, n, rfl⟩) | (go_at_call 105; (with_reducible refine (HC.out _).mono ?_); rintro e w' ⟨rfl, n, rfl⟩) | go_in))
  go_ret
  exact ⟨_, _, _, rfl, rfl⟩
end Go.Proofs.Ytogmcinaoemnpaa
