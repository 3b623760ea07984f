/- The walk of the logarithm in the model's package. -/
import Derived.Test.YtchpnjihhncfmaaLogW
namespace Go.Proofs.Ytchpnjihhncfmaa
open Go Go.RowKit

set_option maxHeartbeats 400000 in
theorem mathIsInf1_any (x : Nat) (w : World) :
    Calls Try.prog 181 #[.float .f64 x, .int .i64 1] w fun e w' => e = .returned (.bool (FloatKind.f64.format.order x 9218868437227405311 == some .gt)) ∧ w = w' := by
  go_enter Try.func181, Try.ntmps181
  go_wp2
  go_ret
  exact ⟨rfl, rfl⟩
set_option maxHeartbeats 2000000 in
theorem logWide_any (Y : Nat) (hY : Pl Y 128 (-149)) (h1 : (FloatKind.f64.format.order Y Y != some .eq) = false) (h2 : (FloatKind.f64.format.order Y 0 == some .lt) = false) (h3 : (FloatKind.f64.format.order Y 0 == some .eq) = false) (h4 : (FloatKind.f64.format.order Y 9218868437227405311 == some .gt) = false) (w : World) : Calls Try.prog 187 #[.float .f64 Y] w (RetLog Y w) := by
  have hl := fun op => fbin_pick_l op .f64
  have hr := fun op => fbin_pick_r op .f64
  have hp := order_pick_l .f64
  have HY := Lib.hid hY
  clear hY
  go_enter Try.func187, Try.ntmps187
  go_wp2_with (go_at_call 181; refine (mathIsInf1_any _ _).mono ?_; rintro e w' ⟨rfl, rfl⟩)
  go_loopw [0, 3] (fun x e wr => ∃ j n : Nat, j ≤ 128 ∧ x = .float .f64 (hv Y j) ∧ e = .int .i64 j ∧ LogInv1 Y j ∧ wr = w.drewN n) (fun _ e _ => 200 - (intOf e).toNat)
  case atStart => exact ⟨0, 0, by omega, rfl, rfl, logInv1_start HY.out, rfl⟩
  case round =>
    obtain ⟨j, n1, hj, rfl, rfl, hI, rfl⟩ := hrel
    cases hg : ge64 (hv Y j) c15W
    · have HF := Lib.hid (logInv1_end hI hg)
      have t1 : (FloatKind.f64.format.order (hv Y j) 4609434218613702656 == some .gt || FloatKind.f64.format.order (hv Y j) 4609434218613702656 == some .eq) = false := hg
      clear hI hg
      obtain ⟨Z, hZ⟩ : ∃ Z, Z = hv Y j := ⟨_, rfl⟩
      have HZ := Lib.hid hZ
      rw [← hZ] at t1 ⊢
      clear hZ
      go_wp2
      go_loopw [0, 3] (fun x e wr => ∃ i n : Nat, i ≤ 149 ∧ x = .float .f64 (db Z i) ∧ e = .int .i64 ((j : Int) - i) ∧ LogInv2 Z i ∧ wr = w.drewN n) (fun _ e _ => (intOf e + 400 - j).toNat)
      case atStart => exact ⟨0, n1, by omega, rfl, by simp, logInv2_start (by rw [HZ.out]; exact HF.out.2), rfl⟩
      case round =>
        obtain ⟨i, n2, hi, rfl, rfl, hI, rfl⟩ := hrel
        cases hg : lt64 (db Z i) c75W
        · have HG := Lib.hid (logInv2_end hI hg)
          have t2 : (FloatKind.f64.format.order (db Z i) 4604930618986332160 == some .lt) = false := hg
          clear hI hg
          have hQ : logQ (db Z i) ((j : Int) - i) = fbin .add .f64 (fbin .mul .f64 twoW (fbin .mul .f64 (logS (db Z i)) (logR (fbin .mul .f64 (logS (db Z i)) (logS (db Z i)))))) (fbin .mul .f64 (floatOfInt .f64 ((j : Int) - i)) ln2W) := rfl
          obtain ⟨X, hX⟩ : ∃ X, X = db Z i := ⟨_, rfl⟩
          have HX := Lib.hid hX
          rw [← hX] at t2 hQ ⊢
          clear hX
          obtain ⟨S, hS⟩ : ∃ S, fbin .quo .f64 (fbin .sub .f64 X 4607182418800017408) (fbin .add .f64 X 4607182418800017408) = S := ⟨_, rfl⟩
          obtain ⟨U, hU⟩ : ∃ U, fbin .mul .f64 S S = U := ⟨_, rfl⟩
          have e1 : logS X = S := hS
          rw [e1, hU] at hQ
          have HQ := Lib.hid hQ
          clear hQ e1
          go_wp2_with ((with_reducible refine wpL_fbin ?_); refine ⟨_, _, _, rfl, rfl, rfl, fun s n => ?_⟩)
          refine wp_loop_rounds 14 ?_
          repeat (rw [rounds_succ]; go_wp2_with ((with_reducible refine wpL_fbin ?_); refine ⟨_, _, _, rfl, rfl, rfl, fun s n => ?_⟩))
          go_ret
          exact ⟨j, i, _, _, HF.out.1, by rw [← HZ.out]; exact HG.out.1, by rw [← HZ.out, ← HX.out, HQ.out]; rfl, rfl, by omega, by omega, by rw [← HZ.out]; exact HG.out.2⟩
        · obtain ⟨hn, hi2, hI2⟩ := logInv2_step hI hi hg
          have HI := Lib.hid hI2
          have t2 : (FloatKind.f64.format.order (db Z i) 4604930618986332160 == some .lt) = true := hg
          have hpk : ∀ s, pick .f64 (fbin .mul .f64 (db Z i) 4611686018427387904) s = db Z (i + 1) := fun s => pick_num hn s
          clear hI hg hn hI2
          go_wp2_with ((with_reducible refine wpL_fbin ?_); refine ⟨_, _, _, rfl, rfl, rfl, fun s n => ?_⟩)
          go_roundw
          case rel => exact ⟨i + 1, _, by omega, rfl, by go_num, HI.out, rfl⟩
          case measure => simp [intOf]; omega
    · obtain ⟨hn, hj2, hI2⟩ := logInv1_step hI hj hg
      have HI := Lib.hid hI2
      have t1 : (FloatKind.f64.format.order (hv Y j) 4609434218613702656 == some .gt || FloatKind.f64.format.order (hv Y j) 4609434218613702656 == some .eq) = true := hg
      have hpk : ∀ s, pick .f64 (fbin .quo .f64 (hv Y j) 4611686018427387904) s = hv Y (j + 1) := fun s => pick_num hn s
      clear hI hg hn hI2
      go_wp2_with ((with_reducible refine wpL_fbin ?_); refine ⟨_, _, _, rfl, rfl, rfl, fun s n => ?_⟩)
      go_roundw
      case rel => exact ⟨j + 1, _, by omega, rfl, by go_num, HI.out, rfl⟩
      case measure => simp [intOf]; omega
end Go.Proofs.Ytchpnjihhncfmaa
