/- How wide a peak is at half: as the program tells it; the law: for all arguments. -/
import Derived.Test.YtaobjilnbbpmeaaHws
import Derived.Test.YtaobjilnbbpmeaaSame
import Derived.Test.YtaobjilnbbpmeaaLiC
import Derived.Test.YtaobjilnbbpmeaaLaw
namespace Go.Proofs.Ytaobjilnbbpmeaa
open Go Go.ChangeShapes Go.WideShapes Go.ChangeAt Go.RowKit

set_option maxRecDepth 100000 in
set_option maxHeartbeats 6400000 in
theorem implHw_yes (xa : Option Addr) (N cap : Nat) (X : Nat → Nat) (i k l H : Nat) (w : World) (hX : Rd w xa N X) (hN : N ≤ 1048576) (hv : okLst X N = true) (hi : i < N) (hg : gtF (X i) 0 = true) (hH : fbin .mul .f32 1056964608 (X i) = H) (hk : StopR X H N i k) (hl : StopL X H i l) (R : Nat) (ok v : Bool) (hvv : v = (decide (k < N) && decide (0 < l))) (hR : R = if v = true then numQ (hwD X H k l) else 0) (ho : ok = (v && isFin .f32 (hwD X H k l))) :
    Calls Try.prog 36 #[.slice xa N cap, .int .i64 (i : Int)] w (NRet R ok w) := by
  obtain ⟨hf, _, h128⟩ := okLst_at hv
  have HL := Lib.hid (fun w hX => implLst_any xa N cap X w hX hN true (Lib.hid hv.symm))
  obtain ⟨A, hA⟩ : ∃ A, A = decide (k < N) := ⟨_, rfl⟩
  obtain ⟨B, hB⟩ : ∃ B, B = decide (0 < l) := ⟨_, rfl⟩
  have H1 := Lib.hid (fun w hX => hpR_any xa N cap X i k H w hX hN hf hi hH hk _ A hA rfl)
  have H2 := Lib.hid (fun w hX => hpL_any xa N cap X i l H w hX hN hf hi hH hl _ B hB rfl)
  obtain ⟨P1, hP1⟩ : ∃ P1, P1 = if A = true then placeR X H k else 0 := ⟨_, rfl⟩
  obtain ⟨P2, hP2⟩ : ∃ P2, P2 = if B = true then placeL X H (l - 1) else 0 := ⟨_, rfl⟩
  rw [← hP1] at H1
  rw [← hP2] at H2
  rw [← hA, ← hB] at hvv
  have hle : (FloatKind.f32.format.order (X i) 0 == some .lt || FloatKind.f32.format.order (X i) 0 == some .eq) = false := by
    have h1 := le_gt (x := X i) (y := 0) (num_fin (finL_at hf i hi)) (by decide +kernel)
    rw [hg] at h1
    exact h1
  have HRX := hX
  obtain ⟨xb, xo, hxa, hcx⟩ := hX
  have e := hxa (by omega)
  subst e
  have ri := hcx i hi
  have hii : (i : Int) < (N : Int) := by omega
  have hi0 : decide ((i : Int) < 0) = false := decide_eq_false (by omega)
  have hi1 : decide ((N : Int) ≤ (i : Int)) = false := decide_eq_false (by omega)
  clear hcx hxa hf hg hH hk hl hv
  cases A
  · have hz : v = false := by rw [hvv, Bool.false_and]
    have hz1 := Lib.hid (show R = 0 by rw [hR, hz, if_neg (by simp)])
    have hz2 := Lib.hid (show ok = false by rw [ho, hz, Bool.false_and])
    clear hvv hR ho hz hA hB hP1 hP2
    go_enter Try.func36, Try.ntmps36
    go_wp2_with (first | (go_at_call 57; refine (HL.out _ (by exact HRX)).mono ?_; rintro e w' ⟨rfl, q, rfl⟩))
    refine (H1.out _ (by exact HRX)).mono ?_
    rintro e w' ⟨s1, m1, rfl, rfl⟩
    go_wp2_with fail
    refine (H2.out _ (by exact HRX)).mono ?_
    rintro e w' ⟨s2, m2, rfl, rfl⟩
    go_wp2
    go_ret2
    rw [hz1.out, hz2.out]
    refine hpNo ?_
    (repeat (first | with_reducible exact Below.refl _ _ | with_reducible refine Below.drewN ?_ _ | with_reducible refine Below.setCell ?_ (by simp; try omega) _ | with_reducible refine Below.alloc ?_ (by simp; try omega) _))
  · cases B
    · have hz : v = false := by rw [hvv, Bool.and_false]
      have hz1 := Lib.hid (show R = 0 by rw [hR, hz, if_neg (by simp)])
      have hz2 := Lib.hid (show ok = false by rw [ho, hz, Bool.false_and])
      clear hvv hR ho hz hA hB hP1 hP2
      go_enter Try.func36, Try.ntmps36
      go_wp2_with (first | (go_at_call 57; refine (HL.out _ (by exact HRX)).mono ?_; rintro e w' ⟨rfl, q, rfl⟩))
      refine (H1.out _ (by exact HRX)).mono ?_
      rintro e w' ⟨s1, m1, rfl, rfl⟩
      go_wp2_with fail
      refine (H2.out _ (by exact HRX)).mono ?_
      rintro e w' ⟨s2, m2, rfl, rfl⟩
      go_wp2
      go_ret2
      rw [hz1.out, hz2.out]
      refine hpNo ?_
      (repeat (first | with_reducible exact Below.refl _ _ | with_reducible refine Below.drewN ?_ _ | with_reducible refine Below.setCell ?_ (by simp; try omega) _ | with_reducible refine Below.alloc ?_ (by simp; try omega) _))
    · have hz : v = true := by rw [hvv]; rfl
      rw [if_pos rfl] at hP1 hP2
      obtain ⟨D, hD⟩ : ∃ D, D = hwD X H k l := ⟨_, rfl⟩
      have eD : fbin .sub .f32 P1 P2 = D := by rw [hD, hwD, hP1, hP2]
      have hz1 := Lib.hid (show R = numQ D by rw [hR, hz, if_pos rfl, hD])
      have hz2 := Lib.hid (show ok = isFin .f32 D by rw [ho, hz, Bool.true_and, hD])
      have hp := fun op => fbin_pick_l op .f32
      have hq := fun op => fbin_pick_r op .f32
      clear hvv hR ho hz hA hB hP1 hP2 hD
      go_enter Try.func36, Try.ntmps36
      go_wp2_with (first | (go_at_call 57; refine (HL.out _ (by exact HRX)).mono ?_; rintro e w' ⟨rfl, q, rfl⟩))
      refine (H1.out _ (by exact HRX)).mono ?_
      rintro e w' ⟨s1, m1, rfl, rfl⟩
      go_wp2_with fail
      refine (H2.out _ (by exact HRX)).mono ?_
      rintro e w' ⟨s2, m2, rfl, rfl⟩
      go_wp2_with (first | ((with_reducible refine wpL_fbin ?_); refine ⟨_, _, _, rfl, rfl, rfl, fun s n => ?_⟩) | (go_at_call 53; refine (numI_any _ _ _).mono ?_; rintro e w' ⟨s', m', rfl, rfl⟩))
      go_ret2
      rw [hz1.out, hz2.out]
      refine ⟨_, rfl, ?_⟩
      (repeat (first | with_reducible exact Below.refl _ _ | with_reducible refine Below.drewN ?_ _ | with_reducible refine Below.setCell ?_ (by simp; try omega) _ | with_reducible refine Below.alloc ?_ (by simp; try omega) _))
end Go.Proofs.Ytaobjilnbbpmeaa
