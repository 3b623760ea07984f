/- The walks of the logarithm. -/
import Derived.Test.YtchpnjihhncfmaaLogP
import Derived.Test.YtchpnjihhncfmaaAbsW
namespace Go.Proofs.Ytchpnjihhncfmaa
open Go Go.RowKit

def RetLog (Y : Nat) (w : World) (e : Ending) (w' : World) : Prop :=
  ∃ j i s n : Nat, First1 Y j ∧ First2 (hv Y j) i ∧ e = .returned (.float .f64 (pick .f64 (logQ (db (hv Y j) i) ((j : Int) - i)) s)) ∧ w' = w.drewN n ∧ j ≤ 200 ∧ i ≤ 200 ∧ Pl (db (hv Y j) i) 1 (-149)
def LogInv1 (Y j : Nat) : Prop := Pl (hv Y j) (128 - j) (-149) ∧ ∀ k, k < j → ge64 (hv Y k) c15W = true
def LogInv2 (Z i : Nat) : Prop := Pl (db Z i) 1 (-149 + i) ∧ ∀ k, k < i → lt64 (db Z k) c75W = true
theorem Pl.weak {x : Nat} {B C D : Int} (h : Pl x B C) (hc : D ≤ C) : Pl x B D := by
  obtain ⟨m, e, h1, h2, h3⟩ := h; exact ⟨m, e, h1, h2, Rat.le_trans (two_mono hc) h3⟩
theorem Pl.wide {x : Nat} {B C D : Int} (h : Pl x B C) (hb : B ≤ D) : Pl x D C := by
  obtain ⟨m, e, h1, h2, h3⟩ := h; exact ⟨m, e, h1, Rat.le_trans h2 (two_mono hb), h3⟩
theorem logInv1_start {Y : Nat} (h : Pl Y 128 (-149)) : LogInv1 Y 0 := ⟨h, fun _ hk => absurd hk (by omega)⟩
theorem logInv1_end {Y j : Nat} (h : LogInv1 Y j) (hg : ge64 (hv Y j) c15W = false) : First1 Y j ∧ Pl (hv Y j) 1 (-149) := ⟨⟨hg, h.2⟩, (ge15 h.1).2 hg⟩
theorem logInv1_step {Y j : Nat} (h : LogInv1 Y j) (hj : j ≤ 128) (hg : ge64 (hv Y j) c15W = true) : isNaN .f64 (hv Y (j + 1)) = false ∧ j + 1 ≤ 128 ∧ LogInv1 Y (j + 1) := by
  obtain ⟨h1, h2⟩ := (ge15 h.1).1 hg
  have h3 := pl_half h2 (by omega) (by omega) (by omega)
  have h4 : Pl (hv Y (j + 1)) (128 - ((j + 1 : Nat) : Int)) (-149) := by
    have e : (128 : Int) - j - 1 = 128 - ((j + 1 : Nat) : Int) := by omega
    rw [e] at h3
    exact h3.weak (by omega)
  refine ⟨h4.pb.bd.num, by omega, h4, fun k hk => ?_⟩
  by_cases hc : k = j
  · rw [hc]; exact hg
  · exact h.2 k (by omega)
theorem logInv2_start {Z : Nat} (h : Pl Z 1 (-149)) : LogInv2 Z 0 := ⟨h, fun _ hk => absurd hk (by omega)⟩
theorem logInv2_end {Z i : Nat} (h : LogInv2 Z i) (hg : lt64 (db Z i) c75W = false) : First2 Z i ∧ Pl (db Z i) 1 (-149) := ⟨⟨hg, h.2⟩, h.1.weak (by omega)⟩
theorem logInv2_step {Z i : Nat} (h : LogInv2 Z i) (hi : i ≤ 149) (hg : lt64 (db Z i) c75W = true) : isNaN .f64 (db Z (i + 1)) = false ∧ i + 1 ≤ 149 ∧ LogInv2 Z (i + 1) := by
  obtain ⟨h1, h2⟩ := lt75 h.1 hg
  have h3 := pl_double h2 (by omega) (by omega) (by omega)
  have h4 : Pl (db Z (i + 1)) 1 (-149 + ((i + 1 : Nat) : Int)) := by
    have e : (-149 : Int) + i + 1 = -149 + ((i + 1 : Nat) : Int) := by omega
    rw [e] at h3
    exact h3
  refine ⟨h4.pb.bd.num, by omega, h4, fun k hk => ?_⟩
  by_cases hc : k = i
  · rw [hc]; exact hg
  · exact h.2 k (by omega)

set_option maxHeartbeats 2000000 in
theorem wideLog_any (Y : Nat) (hY : Pl Y 128 (-149)) (w : World) : Calls Try.prog 147 #[.float .f64 Y] w (RetLog Y w) := by
  have hl := fun op => fbin_pick_l op .f64
  have hr := fun op => fbin_pick_r op .f64
  have hp := order_pick_l .f64
  have HY := Lib.hid hY
  clear hY
  go_enter Try.func147, Try.ntmps147
  go_wp2
  go_loopw [0, 3] (fun x e wr => ∃ j n : Nat, j ≤ 128 ∧ x = .float .f64 (hv Y j) ∧ e = .int .i64 j ∧ LogInv1 Y j ∧ wr = w.drewN n) (fun _ e _ => 200 - (intOf e).toNat)
  case atStart => exact ⟨0, 0, by omega, rfl, rfl, logInv1_start HY.out, rfl⟩
  case round =>
    obtain ⟨j, n1, hj, rfl, rfl, hI, rfl⟩ := hrel
    cases hg : ge64 (hv Y j) c15W
    · have HF := Lib.hid (logInv1_end hI hg)
      have t1 : (FloatKind.f64.format.order (hv Y j) 4609434218613702656 == some .gt || FloatKind.f64.format.order (hv Y j) 4609434218613702656 == some .eq) = false := hg
      clear hI hg
      obtain ⟨Z, hZ⟩ : ∃ Z, Z = hv Y j := ⟨_, rfl⟩
      have HZ := Lib.hid hZ
      rw [← hZ] at t1 ⊢
      clear hZ
      go_wp2
      go_loopw [0, 3] (fun x e wr => ∃ i n : Nat, i ≤ 149 ∧ x = .float .f64 (db Z i) ∧ e = .int .i64 ((j : Int) - i) ∧ LogInv2 Z i ∧ wr = w.drewN n) (fun _ e _ => (intOf e + 400 - j).toNat)
      case atStart => exact ⟨0, n1, by omega, rfl, by simp, logInv2_start (by rw [HZ.out]; exact HF.out.2), rfl⟩
      case round =>
        obtain ⟨i, n2, hi, rfl, rfl, hI, rfl⟩ := hrel
        cases hg : lt64 (db Z i) c75W
        · have HG := Lib.hid (logInv2_end hI hg)
          have t2 : (FloatKind.f64.format.order (db Z i) 4604930618986332160 == some .lt) = false := hg
          clear hI hg
          have hQ : logQ (db Z i) ((j : Int) - i) = fbin .add .f64 (fbin .mul .f64 twoW (fbin .mul .f64 (logS (db Z i)) (logR (fbin .mul .f64 (logS (db Z i)) (logS (db Z i)))))) (fbin .mul .f64 (floatOfInt .f64 ((j : Int) - i)) ln2W) := rfl
          obtain ⟨X, hX⟩ : ∃ X, X = db Z i := ⟨_, rfl⟩
          have HX := Lib.hid hX
          rw [← hX] at t2 hQ ⊢
          clear hX
          obtain ⟨S, hS⟩ : ∃ S, fbin .quo .f64 (fbin .sub .f64 X 4607182418800017408) (fbin .add .f64 X 4607182418800017408) = S := ⟨_, rfl⟩
          obtain ⟨U, hU⟩ : ∃ U, fbin .mul .f64 S S = U := ⟨_, rfl⟩
          have e1 : logS X = S := hS
          rw [e1, hU] at hQ
          have HQ := Lib.hid hQ
          clear hQ e1
          go_wp2_with ((with_reducible refine wpL_fbin ?_); refine ⟨_, _, _, rfl, rfl, rfl, fun s n => ?_⟩)
          refine wp_loop_rounds 14 ?_
          repeat (rw [rounds_succ]; go_wp2_with ((with_reducible refine wpL_fbin ?_); refine ⟨_, _, _, rfl, rfl, rfl, fun s n => ?_⟩))
          go_ret
          exact ⟨j, i, _, _, HF.out.1, by rw [← HZ.out]; exact HG.out.1, by rw [← HZ.out, ← HX.out, HQ.out]; rfl, rfl, by omega, by omega, by rw [← HZ.out]; exact HG.out.2⟩
        · obtain ⟨hn, hi2, hI2⟩ := logInv2_step hI hi hg
          have HI := Lib.hid hI2
          have t2 : (FloatKind.f64.format.order (db Z i) 4604930618986332160 == some .lt) = true := hg
          have hpk : ∀ s, pick .f64 (fbin .mul .f64 (db Z i) 4611686018427387904) s = db Z (i + 1) := fun s => pick_num hn s
          clear hI hg hn hI2
          go_wp2_with ((with_reducible refine wpL_fbin ?_); refine ⟨_, _, _, rfl, rfl, rfl, fun s n => ?_⟩)
          go_roundw
          case rel => exact ⟨i + 1, _, by omega, rfl, by go_num, HI.out, rfl⟩
          case measure => simp [intOf]; omega
    · obtain ⟨hn, hj2, hI2⟩ := logInv1_step hI hj hg
      have HI := Lib.hid hI2
      have t1 : (FloatKind.f64.format.order (hv Y j) 4609434218613702656 == some .gt || FloatKind.f64.format.order (hv Y j) 4609434218613702656 == some .eq) = true := hg
      have hpk : ∀ s, pick .f64 (fbin .quo .f64 (hv Y j) 4611686018427387904) s = hv Y (j + 1) := fun s => pick_num hn s
      clear hI hg hn hI2
      go_wp2_with ((with_reducible refine wpL_fbin ?_); refine ⟨_, _, _, rfl, rfl, rfl, fun s n => ?_⟩)
      go_roundw
      case rel => exact ⟨j + 1, _, by omega, rfl, by go_num, HI.out, rfl⟩
      case measure => simp [intOf]; omega
end Go.Proofs.Ytchpnjihhncfmaa
