
/- The place of a wave: where the model tells none. -/
import Derived.Test.YtbblohjldkpcnabPlS
namespace Go.Proofs.Ytbblohjldkpcnab
set_option linter.all false
open Go Go.ChangeShapes Go.WideShapes Go.ChangeAt Go.RowKit

set_option maxRecDepth 100000 in
set_option maxHeartbeats 6400000 in
theorem specPl_no (xa : Option Addr) (n cx wave lo hi : Nat) (N : Int) (X : Nat → Nat) (w : World) (hX : Rd w xa n X) (hn : n ≤ 1048576) (hk : (plQ X n wave lo hi N && plB X n wave lo hi) = false) :
    Calls Try.prog 34 #[.slice xa n cx, .float .f32 wave, .float .f32 lo, .float .f32 hi, .int .i64 N] w (NRet 0 false w) := by
  have ho1 := order_pick_l .f32
  have HX := Lib.hid hX
  have HK := Lib.hid hk
  clear hX hk
  cases k1 : crvB X n
  · go_enter Try.func34, Try.ntmps34
    go_wp2_with fail
    refine (specCrv_any xa n cx X _ (by exact HX.out) hn false (Lib.hid k1.symm)).mono ?_
    rintro e w1 ⟨rfl, q1, rfl⟩
    go_wp2
    go_ret2
    exact ⟨0, by rw [pick_nul]; rfl, Below.drewN (Below.refl _ _) _⟩
  cases k2 : isFin .f32 wave
  · go_enter Try.func34, Try.ntmps34
    go_wp2_with fail
    refine (specCrv_any xa n cx X _ (by exact HX.out) hn true (Lib.hid k1.symm)).mono ?_
    rintro e w1 ⟨rfl, q1, rfl⟩
    go_wp2_with fail
    refine (l01Finite_any _ _).mono ?_
    rw [k2]
    rintro e w1 ⟨rfl, q2, rfl⟩
    go_wp2
    go_ret2
    exact ⟨0, by rw [pick_nul]; rfl, Below.drewN (Below.refl _ _) _⟩
  cases k3 : isFin .f32 lo
  · go_enter Try.func34, Try.ntmps34
    go_wp2_with fail
    refine (specCrv_any xa n cx X _ (by exact HX.out) hn true (Lib.hid k1.symm)).mono ?_
    rintro e w1 ⟨rfl, q1, rfl⟩
    go_wp2_with fail
    refine (l01Finite_any _ _).mono ?_
    rw [k2]
    rintro e w1 ⟨rfl, q2, rfl⟩
    go_wp2_with fail
    refine (l01Finite_any _ _).mono ?_
    rw [k3]
    rintro e w1 ⟨rfl, q3, rfl⟩
    go_wp2
    go_ret2
    exact ⟨0, by rw [pick_nul]; rfl, Below.drewN (Below.refl _ _) _⟩
  cases k4 : isFin .f32 hi
  · go_enter Try.func34, Try.ntmps34
    go_wp2_with fail
    refine (specCrv_any xa n cx X _ (by exact HX.out) hn true (Lib.hid k1.symm)).mono ?_
    rintro e w1 ⟨rfl, q1, rfl⟩
    go_wp2_with fail
    refine (l01Finite_any _ _).mono ?_
    rw [k2]
    rintro e w1 ⟨rfl, q2, rfl⟩
    go_wp2_with fail
    refine (l01Finite_any _ _).mono ?_
    rw [k3]
    rintro e w1 ⟨rfl, q3, rfl⟩
    go_wp2_with fail
    refine (l01Finite_any _ _).mono ?_
    rw [k4]
    rintro e w1 ⟨rfl, q4, rfl⟩
    go_wp2
    go_ret2
    exact ⟨0, by rw [pick_nul]; rfl, Below.drewN (Below.refl _ _) _⟩
  cases k5 : geF lo hi
  rotate_left
  · have h5 : (FloatKind.f32.format.order lo hi == some .gt || FloatKind.f32.format.order lo hi == some .eq) = true := k5
    clear k5
    go_enter Try.func34, Try.ntmps34
    go_wp2_with fail
    refine (specCrv_any xa n cx X _ (by exact HX.out) hn true (Lib.hid k1.symm)).mono ?_
    rintro e w1 ⟨rfl, q1, rfl⟩
    go_wp2_with fail
    refine (l01Finite_any _ _).mono ?_
    rw [k2]
    rintro e w1 ⟨rfl, q2, rfl⟩
    go_wp2_with fail
    refine (l01Finite_any _ _).mono ?_
    rw [k3]
    rintro e w1 ⟨rfl, q3, rfl⟩
    go_wp2_with fail
    refine (l01Finite_any _ _).mono ?_
    rw [k4]
    rintro e w1 ⟨rfl, q4, rfl⟩
    go_wp2
    go_ret2
    exact ⟨0, by rw [pick_nul]; rfl, Below.drewN (Below.refl _ _) _⟩
  have h5 : (FloatKind.f32.format.order lo hi == some .gt || FloatKind.f32.format.order lo hi == some .eq) = false := k5
  cases k6 : inB N 1 32
  · clear k5
    go_enter Try.func34, Try.ntmps34
    go_wp2_with fail
    refine (specCrv_any xa n cx X _ (by exact HX.out) hn true (Lib.hid k1.symm)).mono ?_
    rintro e w1 ⟨rfl, q1, rfl⟩
    go_wp2_with fail
    refine (l01Finite_any _ _).mono ?_
    rw [k2]
    rintro e w1 ⟨rfl, q2, rfl⟩
    go_wp2_with fail
    refine (l01Finite_any _ _).mono ?_
    rw [k3]
    rintro e w1 ⟨rfl, q3, rfl⟩
    go_wp2_with fail
    refine (l01Finite_any _ _).mono ?_
    rw [k4]
    rintro e w1 ⟨rfl, q4, rfl⟩
    go_wp2_with fail
    refine (l00In_any _ _ _ _).mono ?_
    rw [k6]
    rintro e w1 ⟨rfl, rfl⟩
    go_wp2
    go_ret2
    exact ⟨0, by rw [pick_nul]; rfl, Below.drewN (Below.refl _ _) _⟩
  have h1n := (crvB_at k1).1
  have h3n := (crvB_at k1).2.1
  obtain ⟨a, ha⟩ : ∃ a, a = atW X n lo n := ⟨_, rfl⟩
  obtain ⟨b, hb⟩ : ∃ b, b = atW X n hi n := ⟨_, rfl⟩
  have Ha := Lib.hid ha
  have Hb := Lib.hid hb
  have HB : plB X n wave lo hi = false := by
    have := HK.out
    rw [show plQ X n wave lo hi N = true by unfold plQ; rw [k1, k2, k3, k4, k5, k6]; rfl, Bool.true_and] at this
    exact this
  unfold plB at HB
  rw [← ha, ← hb] at HB
  clear ha hb k5
  have hpa := isFin_pick .f32
  cases b1 : isFin .f32 a
  · go_enter Try.func34, Try.ntmps34
    go_wp2_with fail
    refine (specCrv_any xa n cx X _ (by exact HX.out) hn true (Lib.hid k1.symm)).mono ?_
    rintro e w1 ⟨rfl, q1, rfl⟩
    go_wp2_with fail
    refine (l01Finite_any _ _).mono ?_
    rw [k2]
    rintro e w1 ⟨rfl, q2, rfl⟩
    go_wp2_with fail
    refine (l01Finite_any _ _).mono ?_
    rw [k3]
    rintro e w1 ⟨rfl, q3, rfl⟩
    go_wp2_with fail
    refine (l01Finite_any _ _).mono ?_
    rw [k4]
    rintro e w1 ⟨rfl, q4, rfl⟩
    go_wp2_with fail
    refine (l00In_any _ _ _ _).mono ?_
    rw [k6]
    rintro e w1 ⟨rfl, rfl⟩
    go_wp2_with fail
    refine (l06At_any xa n cx X _ _ (by exact HX.out) h1n (by omega) a Ha).mono ?_
    rintro e w1 ⟨s5, q5, rfl, rfl⟩
    go_wp2_with fail
    refine (l06At_any xa n cx X _ _ (by exact HX.out) h1n (by omega) b Hb).mono ?_
    rintro e w1 ⟨s6, q6, rfl, rfl⟩
    go_wp2_with fail
    refine (l01Finite_any _ _).mono ?_
    rw [hpa, b1]
    rintro e w1 ⟨rfl, q7, rfl⟩
    go_wp2
    go_ret2
    exact ⟨0, by rw [pick_nul]; rfl, Below.drewN (Below.refl _ _) _⟩
  cases b2 : isFin .f32 b
  · go_enter Try.func34, Try.ntmps34
    go_wp2_with fail
    refine (specCrv_any xa n cx X _ (by exact HX.out) hn true (Lib.hid k1.symm)).mono ?_
    rintro e w1 ⟨rfl, q1, rfl⟩
    go_wp2_with fail
    refine (l01Finite_any _ _).mono ?_
    rw [k2]
    rintro e w1 ⟨rfl, q2, rfl⟩
    go_wp2_with fail
    refine (l01Finite_any _ _).mono ?_
    rw [k3]
    rintro e w1 ⟨rfl, q3, rfl⟩
    go_wp2_with fail
    refine (l01Finite_any _ _).mono ?_
    rw [k4]
    rintro e w1 ⟨rfl, q4, rfl⟩
    go_wp2_with fail
    refine (l00In_any _ _ _ _).mono ?_
    rw [k6]
    rintro e w1 ⟨rfl, rfl⟩
    go_wp2_with fail
    refine (l06At_any xa n cx X _ _ (by exact HX.out) h1n (by omega) a Ha).mono ?_
    rintro e w1 ⟨s5, q5, rfl, rfl⟩
    go_wp2_with fail
    refine (l06At_any xa n cx X _ _ (by exact HX.out) h1n (by omega) b Hb).mono ?_
    rintro e w1 ⟨s6, q6, rfl, rfl⟩
    go_wp2_with fail
    refine (l01Finite_any _ _).mono ?_
    rw [hpa, b1]
    rintro e w1 ⟨rfl, q7, rfl⟩
    go_wp2_with fail
    refine (l01Finite_any _ _).mono ?_
    rw [hpa, b2]
    rintro e w1 ⟨rfl, q8, rfl⟩
    go_wp2
    go_ret2
    exact ⟨0, by rw [pick_nul]; rfl, Below.drewN (Below.refl _ _) _⟩
  rw [b1, b2] at HB
  obtain ⟨x1, hx1⟩ : ∃ x1, x1 = lsF a wave := ⟨_, rfl⟩
  obtain ⟨x2, hx2⟩ : ∃ x2, x2 = lsF b wave := ⟨_, rfl⟩
  rw [← hx1, ← hx2] at HB
  have h6 : (FloatKind.f32.format.order a wave == some .lt) = x1 := hx1.symm
  have h7 : (FloatKind.f32.format.order b wave == some .lt) = x2 := hx2.symm
  have h8 : (x1 == x2) = true := by simpa using HB
  clear HB hx1 hx2
  go_enter Try.func34, Try.ntmps34
  go_wp2_with fail
  refine (specCrv_any xa n cx X _ (by exact HX.out) hn true (Lib.hid k1.symm)).mono ?_
  rintro e w1 ⟨rfl, q1, rfl⟩
  go_wp2_with fail
  refine (l01Finite_any _ _).mono ?_
  rw [k2]
  rintro e w1 ⟨rfl, q2, rfl⟩
  go_wp2_with fail
  refine (l01Finite_any _ _).mono ?_
  rw [k3]
  rintro e w1 ⟨rfl, q3, rfl⟩
  go_wp2_with fail
  refine (l01Finite_any _ _).mono ?_
  rw [k4]
  rintro e w1 ⟨rfl, q4, rfl⟩
  go_wp2_with fail
  refine (l00In_any _ _ _ _).mono ?_
  rw [k6]
  rintro e w1 ⟨rfl, rfl⟩
  go_wp2_with fail
  refine (l06At_any xa n cx X _ _ (by exact HX.out) h1n (by omega) a Ha).mono ?_
  rintro e w1 ⟨s5, q5, rfl, rfl⟩
  go_wp2_with fail
  refine (l06At_any xa n cx X _ _ (by exact HX.out) h1n (by omega) b Hb).mono ?_
  rintro e w1 ⟨s6, q6, rfl, rfl⟩
  go_wp2_with fail
  refine (l01Finite_any _ _).mono ?_
  rw [hpa, b1]
  rintro e w1 ⟨rfl, q7, rfl⟩
  go_wp2_with fail
  refine (l01Finite_any _ _).mono ?_
  rw [hpa, b2]
  rintro e w1 ⟨rfl, q8, rfl⟩
  go_wp2
  go_ret2
  exact ⟨0, by rw [pick_nul]; rfl, Below.drewN (Below.refl _ _) _⟩
end Go.Proofs.Ytbblohjldkpcnab
