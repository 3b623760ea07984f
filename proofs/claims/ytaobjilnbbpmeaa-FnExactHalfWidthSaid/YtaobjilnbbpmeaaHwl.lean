/- Where a list has fallen to half, to the left: as the program tells it. -/
import Derived.Test.YtaobjilnbbpmeaaHw
namespace Go.Proofs.Ytaobjilnbbpmeaa
open Go Go.ChangeShapes Go.WideShapes Go.ChangeAt Go.RowKit

set_option maxRecDepth 100000 in
set_option maxHeartbeats 6400000 in
theorem hpL_any (xa : Option Addr) (N cap : Nat) (X : Nat → Nat) (i k H : Nat) (w : World) (hX : Rd w xa N X) (hn : N ≤ 1048576) (hf : finL X N = true) (hi : i < N) (hH : fbin .mul .f32 1056964608 (X i) = H) (hk : StopL X H i k) (R : Nat) (ok : Bool) (ho : ok = decide (0 < k)) (hR : R = if ok = true then placeL X H (k - 1) else 0) :
    Calls Try.prog 62 #[.slice xa N cap, .int .i64 (i : Int), .int .i64 (-1)] w (HpRet R ok w) := by
  obtain ⟨k1, k3, k4⟩ := hk
  have hnH : isNaN .f32 H = false := by rw [← hH]; exact nan_mul_fin ⟨_, _, _, read_halfW, by decide⟩ (num_fin (finL_at hf i hi))
  have hh : fbin .quo .f32 (X i) 1073741824 = H := by rw [← half_eq, hH]
  have hpH := fun s => pick_num (s := s) hnH
  have HF := Lib.hid (finL_at hf)
  have HK3 := Lib.hid k3
  have HK4 := Lib.hid k4
  obtain ⟨xb, xo, hxa, hcx⟩ := hX
  have e := hxa (by omega)
  subst e
  have ri := hcx i hi
  have HX := Lib.hid hcx
  have ho' := Lib.hid ho
  have hR' := Lib.hid hR
  have HN := Lib.hid hnH
  have hii : (i : Int) < (N : Int) := by omega
  clear hcx hxa k3 k4 hf ho hR hH hnH
  go_enter Try.func62, Try.ntmps62
  go_wp2_with ((with_reducible refine wpL_fbin ?_); refine ⟨_, _, _, rfl, rfl, rfl, fun s n => ?_⟩)
  go_loopw [9] (fun c wr => ∃ j m : Nat, k ≤ j ∧ j ≤ i ∧ c = .int .i64 ((j : Int) - 1) ∧ wr = w.drewN m) (fun c _ => (intOf c + 1).toNat)
  case atStart => exact ⟨i, _, by omega, by omega, by go_num, rfl⟩
  case round =>
    obtain ⟨j, m, h1, h2, rfl, rfl⟩ := hrel
    clear ri hh
    by_cases hlt : 0 < j
    · obtain ⟨q, rfl⟩ : ∃ q, j = q + 1 := ⟨j - 1, by omega⟩
      have eq1 : ((q + 1 : Nat) : Int) - 1 = (q : Int) := by omega
      rw [eq1]
      clear eq1
      have jq : (q : Int) < (N : Int) := by omega
      have jq0 : (0 : Int) ≤ (q : Int) := by omega
      have rq := HX.out q (by omega)
      have nj := num_fin (HF.out q (by omega))
      by_cases hjk : k < q + 1
      · have hle : leF (X q) H = false := by rw [le_gt nj HN.out, HK3.out q (by omega) (by omega)]; rfl
        have hle' : (FloatKind.f32.format.order (X q) H == some .lt || FloatKind.f32.format.order (X q) H == some .eq) = false := hle
        clear hle nj
        go_wp2
        go_roundw
        case rel => exact ⟨q, m, by omega, by omega, by go_num, rfl⟩
        case measure => simp [intOf]; omega
      · obtain rfl : k = q + 1 := by omega
        have hle : leF (X q) H = true := by
          have h4 := HK4.out (by omega)
          rw [Nat.add_sub_cancel] at h4
          rw [le_gt nj HN.out, h4]; rfl
        have hle' : (FloatKind.f32.format.order (X q) H == some .lt || FloatKind.f32.format.order (X q) H == some .eq) = true := hle
        clear hle nj
        have rj := HX.out (q + 1) (by omega)
        obtain ⟨A, hA⟩ : ∃ A, fbin .sub .f32 H (X q) = A := ⟨_, rfl⟩
        obtain ⟨B, hB⟩ : ∃ B, fbin .sub .f32 (X (q + 1)) (X q) = B := ⟨_, rfl⟩
        have q1 := fun t => run_numop (op := .sub) rfl t _ _ _ hA (by rw [← hA]; exact nan_sub HN.out (HF.out q (by omega)))
        have q2 := fun t => run_numop (op := .sub) rfl t _ _ _ hB (by rw [← hB]; exact nan_sub (num_fin (HF.out (q + 1) (by omega))) (HF.out q (by omega)))
        obtain ⟨D, hD⟩ : ∃ D, fbin .quo .f32 A B = D := ⟨_, rfl⟩
        have hm1 : ∀ x, fbin .sub .f32 x (fbin .mul .f32 3212836864 D) = fbin .add .f32 x D := fun x => by rw [← hD]; exact sub_opp (fbin_lt _ _ _)
        have hf1 := mone_f
        have hw := wrap_nat q (by omega)
        have hw1 : IntKind.i64.wrap ((q : Int) + 1) = (q : Int) + 1 := IntWalk.i64_in _ (by omega)
        have hw2 : IntKind.i64.wrap ((q : Int) - -1) = (q : Int) + 1 := by rw [IntWalk.i64_in _ (by omega)]; omega
        have hpl : placeL X H q = fbin .add .f32 (floatOfInt .f32 (q : Int)) D := by rw [placeL, backW, hA, hB, hD]
        have HP := Lib.hid hpl
        have jn1 : (q : Int) + 1 < (N : Int) := by omega
        have jn0 : (0 : Int) ≤ (q : Int) + 1 := by omega
        have tq : ((q : Int) + 1).toNat = q + 1 := by omega
        have hfin : ok = true ∧ R = placeL X H q := by
          have e1 : ok = true := by rw [ho'.out, decide_eq_true (by omega)]
          exact ⟨e1, by rw [hR'.out, e1, if_pos rfl, Nat.add_sub_cancel]⟩
        have HQ := Lib.hid hfin
        have hp := fun op => fbin_pick_l op .f32
        have hq := fun op => fbin_pick_r op .f32
        clear hA hB hpl hfin
        obtain ⟨wz, hwz⟩ : ∃ wz, wz = w.drewN m := ⟨_, rfl⟩
        have rj' : wz.cell? ⟨xb, xo + (q + 1), none⟩ = some (.float .f32 (X (q + 1))) := by rw [hwz]; exact rj
        have rq' : wz.cell? ⟨xb, xo + q, none⟩ = some (.float .f32 (X q)) := by rw [hwz]; exact rq
        rw [← hwz]
        have HWZ := Lib.hid hwz
        clear rj rq hwz
        go_wp2_with fail
        go_still_tail 17, (by kernel_rfl)
        change wpList _ _ _ _ _ wz.drew
        have hEw : wz.drew = wz.drewN 1 := rfl
        rw [hEw]
        clear hEw
        go_wp2_with ((with_reducible refine wpL_fbin ?_); refine ⟨_, _, _, rfl, rfl, rfl, fun s n => ?_⟩)
        go_ret2
        rw [HQ.out.1, HQ.out.2, HP.out]
        exact ⟨_, _, rfl, by rw [HWZ.out, World.drewN_drewN]⟩
    · obtain rfl : j = 0 := by omega
      obtain rfl : k = 0 := by omega
      have hfin : ok = false ∧ R = 0 := by
        have e1 : ok = false := by rw [ho'.out]; rfl
        exact ⟨e1, by rw [hR'.out, e1, if_neg (by simp)]⟩
      have HQ := Lib.hid hfin
      rw [show ((0 : Nat) : Int) - 1 = -1 from rfl]
      clear hfin
      go_wp2
      go_ret2
      rw [HQ.out.1, HQ.out.2]
      exact ⟨0, m, by rw [pick_nul]; rfl, rfl⟩
end Go.Proofs.Ytaobjilnbbpmeaa
