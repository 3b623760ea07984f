
/- The four numbers of a pulse: as the program tells them. -/
import Derived.Test.YtmpcalpapkedhaaPh1
import Derived.Test.YtmpcalpapkedhaaRo
import Derived.BigQuiet
namespace Go.Proofs.Ytmpcalpapkedhaa
set_option linter.all false
open Go Go.ChangeShapes Go.WideShapes Go.ChangeAt Go.RowKit

set_option maxRecDepth 100000 in
set_option maxHeartbeats 6400000 in
theorem implPt_any (r o u t : Nat) (w : World) (W T Z1 Z2 q1 q2 x y : Nat) (b : Bool) (hP : Pt r o u t W T Z1 Z2 q1 q2 x y b) (p : Nat) (ok : Bool) (hok : Hid (ok = (okPul r o u t && finC (ptR Z1 y q1 q2) (ptI x y q1 q2) 4))) (hp : Hid (p = if ok = true then 4 else 0)) :
    Calls Try.prog 17 #[.agg #[.float .f32 r, .float .f32 o, .float .f32 u, .float .f32 t]] w (RetU p (ptR Z1 y q1 q2) (ptI x y q1 q2) ok w) := by
  have HV := Lib.hid (fun w => implVP_any r o u t w)
  cases hv : okPul r o u t
  · have e : ok = false := by rw [hok.out, hv]; rfl
    subst e
    have e : p = 0 := by rw [hp.out]; rfl
    subst e
    rw [hv] at HV
    go_enter Try.func17, Try.ntmps17
    go_wp2_with fail
    refine (HV.out _).mono ?_
    rintro e1 w1 ⟨rfl, B1⟩
    go_wp2
    go_ret2
    exact RetU.no (((Below.refl _ _).alloc (Nat.le_refl _) _).trans (B1.mono (by simp)))
  have hu : isFin .f32 u = true := by
    unfold okPul at hv
    simp only [Bool.and_eq_true] at hv
    exact hv.2.2
  rw [hv] at HV
  have HK := Lib.hid (show ok = finC (ptR Z1 y q1 q2) (ptI x y q1 q2) 4 by rw [hok.out, hv]; rfl)
  have hpl := fun op => fbin_pick_l op .f32
  have hpr := fun op => fbin_pick_r op .f32
  have ho1 := order_pick_l .f32
  have b1 := hP.bq1 hu
  have b2 := hP.bq2 hu
  have hl2 : q2 < 4294967296 := by rw [hP.hq2]; exact q2_lt _
  have p1 : ∀ s, pick .f32 q1 s = q1 := fun s => pick_num b1.num s
  have p2 : ∀ s, pick .f32 q2 s = q2 := fun s => pick_num b2.num s
  have HW := Lib.hid (show ∀ w, Calls Try.prog 72 #[.float .f32 r, .float .f32 o] w (RetR .f32 W w) from fun w => by rw [hP.hW]; exact implWhole_any r o w)
  have HZ := Lib.hid (fun s w => implHalf_any W T t s Z1 Z2 hP.hT hP.hZ1 hP.hZ2 w)
  have HQ := Lib.hid (show ∀ (s : Nat) w, Calls Try.prog 74 #[.float .f64 (pick .f64 (fconv .f32 u .f64) s)] w (fun e w' => e = .returned (.complex .f32 q1 q2) ∧ ∃ m, w' = w.drewN m) from fun s w => by
    have := implPha_any (pick .f64 (fconv .f32 u .f64) s) (f64_lt (pick_wf (fconv_wf _ _ _) s)) w
    rw [phaT_pk, ← hP.hq1, ← hP.hq2] at this
    refine this.mono ?_
    rintro e w' ⟨s, t, n, rfl, rfl⟩
    rw [p1, p2]
    exact ⟨rfl, _, rfl⟩)
  obtain ⟨nq, hnq⟩ : ∃ nq, Op.negFloat .f32 q2 = nq := ⟨_, rfl⟩
  have HM1 := Lib.hid (fun w => implBack_any q1 nq b1 (by rw [← hnq]; exact bd_neg32 hl2 b2) w)
  have HM2 := Lib.hid (fun w => implBack_any q1 q2 b1 b2 w)
  have HC := Lib.hid (fun w => implConj_any q1 q2 w)
  rw [hnq] at HC
  obtain ⟨mR, hmR⟩ : ∃ m, m = bkR q1 nq := ⟨_, rfl⟩
  obtain ⟨mI, hmI⟩ : ∃ m, m = bkI q1 nq := ⟨_, rfl⟩
  obtain ⟨nR, hnR⟩ : ∃ m, m = bkR q1 q2 := ⟨_, rfl⟩
  obtain ⟨nI, hnI⟩ : ∃ m, m = bkI q1 q2 := ⟨_, rfl⟩
  rw [← hmR, ← hmI] at HM1
  rw [← hnR, ← hnI] at HM2
  have HR := Lib.hid (show ptR Z1 y q1 q2 = four Z1 (fbin .mul .f32 mR y) (fbin .mul .f32 nR y) Z1 by unfold ptR; rw [hnq, hmR, hnR])
  have HI := Lib.hid (show ptI x y q1 q2 = four (fbin .sub .f32 0 x) (fbin .mul .f32 mI y) (fbin .mul .f32 nI y) x by unfold ptI; rw [hnq, hmI, hnI])
  have hb := hP.hb.symm
  have hX := hP.hx
  have hY := hP.hy
  clear hP b1 b2 p1 p2 hu hl2 hnq hmR hmI hnR hnI hv hok
  cases b
  · rw [if_neg (by simp)] at hX hY
    subst hX hY
    go_enter Try.func17, Try.ntmps17
    go_wp2_with fail
    have HQ4 := box4_alloc w r o u t 28
    refine (HV.out _).mono ?_
    rintro e1 w1 ⟨rfl, B1⟩
    replace HQ4 := HQ4.below B1
    have HB : Below w.heap.size w w1 := ((Below.refl _ _).alloc (Nat.le_refl _) _).trans (B1.mono (by simp))
    obtain ⟨x0, x1, x2, x3⟩ := HQ4
    have hsz := HB.size
    clear B1
    go_wp2_with fail
    refine (HW.out _).mono ?_
    rintro e w' ⟨s', m', rfl, rfl⟩
    go_wp2_with fail
    refine (HZ.out _ _).mono ?_
    rintro e w' ⟨s', t', m', rfl, rfl⟩
    go_wp2_with (first | ((with_reducible refine wpL_fbin ?_); refine ⟨_, _, _, rfl, rfl, rfl, fun s n => ?_⟩) | ((with_reducible refine wpL_fconv ?_); refine ⟨_, _, _, rfl, Option.isSome_iff_exists.2 ⟨_, Try.underlying22⟩, Try.underlying76, FloatKind.noConfusion, convOk_widen _, fun s n => ?_⟩))
    refine (HQ.out _ _).mono ?_
    rintro e w' ⟨rfl, m', rfl⟩
    go_wp2_with (first | (first | ((with_reducible refine wpL_fbin ?_); refine ⟨_, _, _, rfl, rfl, rfl, fun s n => ?_⟩) | ((with_reducible refine wpL_fconv ?_); refine ⟨_, _, _, rfl, Option.isSome_iff_exists.2 ⟨_, Try.underlying22⟩, Try.underlying76, FloatKind.noConfusion, convOk_widen _, fun s n => ?_⟩)) | (go_at_call 77; refine (HC.out _).mono ?_; rintro e w' ⟨rfl, rfl⟩))
    refine (HM1.out _).mono ?_
    rintro e w' ⟨s', t', m', rfl, rfl⟩
    go_wp2_with (go_at_call 75; refine (implScale_any _ _ _ _).mono ?_; rintro e w' ⟨s', t', m', rfl, rfl⟩)
    refine (HM2.out _).mono ?_
    rintro e w' ⟨s', t', m', rfl, rfl⟩
    go_wp2_with (first | (first | ((with_reducible refine wpL_fbin ?_); refine ⟨_, _, _, rfl, rfl, rfl, fun s n => ?_⟩) | ((with_reducible refine wpL_fconv ?_); refine ⟨_, _, _, rfl, Option.isSome_iff_exists.2 ⟨_, Try.underlying22⟩, Try.underlying76, FloatKind.noConfusion, convOk_widen _, fun s n => ?_⟩)) | (go_at_call 75; refine (implScale_any _ _ _ _).mono ?_; rintro e w' ⟨s', t', m', rfl, rfl⟩))
    refine (implGive_any _ w.heap.size 4 _ _ _ (own_four _ (by exact hsz) _ _ _ _ _ _ _ _) (by omega) ok ?_).mono ?_
    · rw [HK.out, HR.out, HI.out]
      exact (finC_like (like_four rfl rfl rfl rfl) (like_four rfl rfl rfl (v := 0) (by rw [pick_nul]))).symm
    rintro e2 w2 ⟨rfl, qq, rfl⟩
    cases ok
    · have e : p = 0 := by rw [hp.out]; rfl
      subst e
      go_wp2
      go_ret2
      exact RetU.no (Below.drewN ((Below.drewN HB _).alloc hsz _) _)
    · have e : p = 4 := by rw [hp.out]; rfl
      subst e
      go_wp2
      go_ret2
      rw [HR.out, HI.out]
      exact ⟨_, _, _, rfl, own_drew (own_four _ (by exact hsz) _ _ _ _ _ _ _ _) _, like_four rfl rfl rfl rfl, like_four rfl rfl rfl (v := 0) (by rw [pick_nul]), Below.drewN ((Below.drewN HB _).alloc hsz _) _⟩
  · rw [if_pos rfl] at hX hY
    replace hX := hX.symm
    replace hY := hY.symm
    have k1 := run_quo32
    have k2 := run_mul32
    go_enter Try.func17, Try.ntmps17
    go_wp2_with fail
    have HQ4 := box4_alloc w r o u t 28
    refine (HV.out _).mono ?_
    rintro e1 w1 ⟨rfl, B1⟩
    replace HQ4 := HQ4.below B1
    have HB : Below w.heap.size w w1 := ((Below.refl _ _).alloc (Nat.le_refl _) _).trans (B1.mono (by simp))
    obtain ⟨x0, x1, x2, x3⟩ := HQ4
    have hsz := HB.size
    clear B1
    go_wp2_with fail
    refine (HW.out _).mono ?_
    rintro e w' ⟨s', m', rfl, rfl⟩
    go_wp2_with fail
    refine (HZ.out _ _).mono ?_
    rintro e w' ⟨s', t', m', rfl, rfl⟩
    go_wp2_with fail
    go_region
    all_goals go_wp2_with (first | ((with_reducible refine wpL_fbin ?_); refine ⟨_, _, _, rfl, rfl, rfl, fun s n => ?_⟩) | ((with_reducible refine wpL_fconv ?_); refine ⟨_, _, _, rfl, Option.isSome_iff_exists.2 ⟨_, Try.underlying22⟩, Try.underlying76, FloatKind.noConfusion, convOk_widen _, fun s n => ?_⟩))
    all_goals refine (HQ.out _ _).mono ?_
    all_goals rintro e w' ⟨rfl, m', rfl⟩
    all_goals go_wp2_with (first | (first | ((with_reducible refine wpL_fbin ?_); refine ⟨_, _, _, rfl, rfl, rfl, fun s n => ?_⟩) | ((with_reducible refine wpL_fconv ?_); refine ⟨_, _, _, rfl, Option.isSome_iff_exists.2 ⟨_, Try.underlying22⟩, Try.underlying76, FloatKind.noConfusion, convOk_widen _, fun s n => ?_⟩)) | (go_at_call 77; refine (HC.out _).mono ?_; rintro e w' ⟨rfl, rfl⟩))
    all_goals refine (HM1.out _).mono ?_
    all_goals rintro e w' ⟨s', t', m', rfl, rfl⟩
    all_goals go_wp2_with (go_at_call 75; refine (implScale_any _ _ _ _).mono ?_; rintro e w' ⟨s', t', m', rfl, rfl⟩)
    all_goals refine (HM2.out _).mono ?_
    all_goals rintro e w' ⟨s', t', m', rfl, rfl⟩
    all_goals go_wp2_with (first | (first | ((with_reducible refine wpL_fbin ?_); refine ⟨_, _, _, rfl, rfl, rfl, fun s n => ?_⟩) | ((with_reducible refine wpL_fconv ?_); refine ⟨_, _, _, rfl, Option.isSome_iff_exists.2 ⟨_, Try.underlying22⟩, Try.underlying76, FloatKind.noConfusion, convOk_widen _, fun s n => ?_⟩)) | (go_at_call 75; refine (implScale_any _ _ _ _).mono ?_; rintro e w' ⟨s', t', m', rfl, rfl⟩))
    all_goals refine (implGive_any _ w.heap.size 4 _ _ _ (own_four _ (by exact hsz) _ _ _ _ _ _ _ _) (by omega) ok (by rw [HK.out, HR.out, HI.out]; exact (finC_like (like_four rfl rfl rfl rfl) (like_four rfl rfl rfl rfl)).symm)).mono ?_
    all_goals rintro e2 w2 ⟨rfl, qq, rfl⟩
    all_goals cases ok
    all_goals first
      | (have e : p = 0 := by rw [hp.out]; rfl
         subst e
         go_wp2
         go_ret2
         exact RetU.no (Below.drewN ((Below.drewN HB _).alloc hsz _) _))
      | (have e : p = 4 := by rw [hp.out]; rfl
         subst e
         go_wp2
         go_ret2
         rw [HR.out, HI.out]
         exact ⟨_, _, _, rfl, own_drew (own_four _ (by exact hsz) _ _ _ _ _ _ _ _) _, like_four rfl rfl rfl rfl, like_four rfl rfl rfl rfl, Below.drewN ((Below.drewN HB _).alloc hsz _) _⟩)
end Go.Proofs.Ytmpcalpapkedhaa
