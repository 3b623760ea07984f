/- For all numbers and steps the program tells the light behind the steps just where the model does, and the same: for all arguments. -/
import Derived.Test.YtebelikahpnobaaLst
import Derived.Test.YtebelikahpnobaaFlG
import Derived.Test.YtebelikahpnobaaLaw
import Derived.Test.YtebelikahpnobaaPul
namespace Go.Proofs.Ytebelikahpnobaa
open Go Go.ChangeShapes Go.WideShapes Go.ChangeAt Go.RowKit

theorem finL_at2 (X : Nat → Nat) : finL X 2 = (isFin .f32 (X 0) && isFin .f32 (X 1)) := by simp [finL, List.range_succ]
theorem okLst_eq (up li pu lo ga sp h : Nat) (T : Int) : okLst up li pu lo ga sp h T = ((gL (duo pu sp) 2 && isP lo && isP ga) && (finL (duo up li) 2 && isG h && inB T 0 512)) := by
  rw [finL_two, gL_two]
  unfold okLst
  generalize isFin .f32 up = a
  generalize isFin .f32 li = b
  generalize isG pu = c
  generalize isG sp = d
  generalize isP lo = e
  generalize isP ga = f
  generalize isG h = g
  generalize inB T 0 512 = i
  revert a b c d e f g i
  decide
def LamRet (b : Bool) (w : World) (e : Ending) (w' : World) : Prop := e = .returned (.bool b) ∧ Below w.heap.size w w'
set_option maxRecDepth 100000 in
set_option maxHeartbeats 1600000 in
theorem lampValid_any (p l g s : Nat) (w : World) (b : Bool) (hb : Hid (b = (gL (duo p s) 2 && isP l && isP g))) : Calls Try.prog 56 #[.agg #[.float .f32 p, .float .f32 l, .float .f32 g, .float .f32 s]] w (LamRet b w) := by
  cases c1 : gL (duo p s) 2
  · skip
    have HB := Lib.hid (show b = false by rw [hb.out]; (first | (simp [c1, c2, c3, c4, c5, c6, c7]; done) | (simp [c1, c2, c3, c4, c5, c6]; done) | (simp [c1, c2, c3, c4, c5]; done) | (simp [c1, c2, c3, c4]; done) | (simp [c1, c2, c3]; done) | (simp [c1, c2]; done) | (simp [c1]; done)))
    clear hb
    go_enter Try.func56, Try.ntmps56
    go_wp2_with (first | (go_at_call 46; refine (areAtLeastZero_any _ _ _ (duo _ _) _ (by exact rd_two' _ _ _ _ (by simp)) (by omega)).mono ?_; rintro e w' ⟨rfl, q, rfl⟩) | (go_at_call 52; refine (isPositive_any _ _).mono ?_; rintro e w' ⟨rfl, q, rfl⟩))
    go_ret
    refine ⟨ret_bool HB.out.symm, ?_⟩
    (repeat (first | with_reducible exact Below.refl _ _ | with_reducible refine Below.drewN ?_ _ | with_reducible refine Below.setCell ?_ (by simp; try omega) _ | with_reducible refine Below.alloc ?_ (by simp; try omega) _))
  · skip
    cases c2 : isP l
    · skip
      have HB := Lib.hid (show b = false by rw [hb.out]; (first | (simp [c1, c2, c3, c4, c5, c6, c7]; done) | (simp [c1, c2, c3, c4, c5, c6]; done) | (simp [c1, c2, c3, c4, c5]; done) | (simp [c1, c2, c3, c4]; done) | (simp [c1, c2, c3]; done) | (simp [c1, c2]; done) | (simp [c1]; done)))
      clear hb
      go_enter Try.func56, Try.ntmps56
      go_wp2_with (first | (go_at_call 46; refine (areAtLeastZero_any _ _ _ (duo _ _) _ (by exact rd_two' _ _ _ _ (by simp)) (by omega)).mono ?_; rintro e w' ⟨rfl, q, rfl⟩) | (go_at_call 52; refine (isPositive_any _ _).mono ?_; rintro e w' ⟨rfl, q, rfl⟩))
      go_ret
      refine ⟨ret_bool HB.out.symm, ?_⟩
      (repeat (first | with_reducible exact Below.refl _ _ | with_reducible refine Below.drewN ?_ _ | with_reducible refine Below.setCell ?_ (by simp; try omega) _ | with_reducible refine Below.alloc ?_ (by simp; try omega) _))
    · skip
      have HB := Lib.hid (show b = isP g by rw [hb.out]; simp [c1, c2])
      clear hb
      go_enter Try.func56, Try.ntmps56
      go_wp2_with (first | (go_at_call 46; refine (areAtLeastZero_any _ _ _ (duo _ _) _ (by exact rd_two' _ _ _ _ (by simp)) (by omega)).mono ?_; rintro e w' ⟨rfl, q, rfl⟩) | (go_at_call 52; refine (isPositive_any _ _).mono ?_; rintro e w' ⟨rfl, q, rfl⟩))
      go_ret
      refine ⟨ret_bool HB.out.symm, ?_⟩
      (repeat (first | with_reducible exact Below.refl _ _ | with_reducible refine Below.drewN ?_ _ | with_reducible refine Below.setCell ?_ (by simp; try omega) _ | with_reducible refine Below.alloc ?_ (by simp; try omega) _))
set_option maxRecDepth 100000 in
set_option maxHeartbeats 3200000 in
theorem implLst_any (up li pu lo ga sp h : Nat) (T : Int) (w : World) (A B : Nat) (ok : Bool) (G : Nat → Nat → Nat) (hG : G = stepR (lampG pu lo ga sp) h (duo up li))
    (ho : Hid (ok = (okLst up li pu lo ga sp h T && (isFin .f32 (G T.toNat 0) && isFin .f32 (G T.toNat 1))))) (hA : Hid (A = if ok = true then G T.toNat 0 else 0)) (hB : Hid (B = if ok = true then G T.toNat 1 else 0)) :
    Calls Try.prog 39 #[.float .f32 up, .float .f32 li, .float .f32 pu, .float .f32 lo, .float .f32 ga, .float .f32 sp, .float .f32 h, .int .i64 T] w (TwoN A B ok w) := by
  have hst := run_store_f32
  obtain ⟨b, hb⟩ : ∃ b, b = (gL (duo pu sp) 2 && isP lo && isP ga) := ⟨_, rfl⟩
  have HV := Lib.hid hb
  cases b
  · have HO := Lib.hid (show ok = false by
      have e : okLst up li pu lo ga sp h T = false := by rw [okLst_eq, ← hb, Bool.false_and]
      rw [ho.out, e, Bool.false_and])
    have HA := Lib.hid (show A = 0 by rw [hA.out, HO.out, if_neg (by simp)])
    have HB := Lib.hid (show B = 0 by rw [hB.out, HO.out, if_neg (by simp)])
    clear hb hG ho hA hB
    go_enter Try.func39, Try.ntmps39
    go_wp2_with (first | (go_at_call 56; refine (lampValid_any _ _ _ _ _ _ HV).mono ?_; rintro e0 w1 ⟨rfl, B0⟩))
    go_ret3
    exact TwoN.no HA HB HO (((Below.refl _ w).alloc (Nat.le_refl _) (.cells #[.float .f32 pu, .float .f32 lo, .float .f32 ga, .float .f32 sp] 64)).trans (B0.mono (by simp)))
  · have hv := fun T => okLst_eq up li pu lo ga sp h T
    rw [← hb] at hv
    clear hb
    have HC := box4_alloc w pu lo ga sp 64
    have HD := (Below.refl _ w).alloc (Nat.le_refl _) (.cells #[.float .f32 pu, .float .f32 lo, .float .f32 ga, .float .f32 sp] 64)
    by_cases hk : finL (duo up li) 2 = true ∧ isG h = true ∧ inB T 0 512 = true
    · obtain ⟨k1, k2, k3⟩ := hk
      obtain ⟨t, rfl⟩ : ∃ t : Nat, T = (t : Int) := ⟨T.toNat, by have := inB_rng k3; omega⟩
      have htb : t ≤ 512 := by have := inB_rng k3; omega
      have hok : okLst up li pu lo ga sp h (t : Int) = true := by
        rw [hv, k1, k2, k3]
        rfl
      rw [Int.toNat_natCast] at ho hA hB
      have hfl := finL_at2 (G t)
      cases hf : finL (G t) 2
      · have HO := Lib.hid (show ok = false by rw [ho.out, ← hfl, hf, Bool.and_false])
        have HA := Lib.hid (show A = 0 by rw [hA.out, HO.out, if_neg (by simp)])
        have HB := Lib.hid (show B = 0 by rw [hB.out, HO.out, if_neg (by simp)])
        have HS := Lib.hid (fun (w : World) xa cap hX => lampSteps_yes pu lo ga sp h t xa cap (duo up li) w hX k1 k2 htb)
        rw [← hG] at HS
        unfold LevRet at HS
        rw [hf] at HS
        simp only [if_false, Bool.false_eq_true] at HS
        clear hfl hf hok hv ho hA hB hG k1 k2 k3
        go_enter Try.func39, Try.ntmps39
        go_wp2_with (first | (go_at_call 56; refine (lampValid_any _ _ _ _ _ _ HV).mono ?_; rintro e0 w1 ⟨rfl, B0⟩; have HP := HC.below B0; have p0 := fun o => (HP.below ((Below.refl _ w1).alloc (Nat.le_refl _) o)).1; have p1 := fun o => (HP.below ((Below.refl _ w1).alloc (Nat.le_refl _) o)).2.1; have p2 := fun o => (HP.below ((Below.refl _ w1).alloc (Nat.le_refl _) o)).2.2.1; have p3 := fun o => (HP.below ((Below.refl _ w1).alloc (Nat.le_refl _) o)).2.2.2; clear HP; have HE := HD.trans (B0.mono HD.size)) | (go_at_call 75; refine (HS.out _ _ _ (by exact rd_two' _ _ _ _ (by simp))).mono ?_; rintro e0 w2 ⟨v2, X2, rfl, O2, L2, B2⟩))
        go_ret3
        exact TwoN.no HA HB HO ((HE.alloc (by exact HE.size) _).trans (B2.mono (by have := HE.size; simp; omega)))
      · have HO := Lib.hid (show ok = true by rw [ho.out, ← hfl, hf, hok]; rfl)
        have HA := Lib.hid (show G t 0 = A by rw [hA.out, HO.out, if_pos rfl])
        have HB := Lib.hid (show G t 1 = B by rw [hB.out, HO.out, if_pos rfl])
        have HN := Lib.hid hf
        have HS := Lib.hid (fun (w : World) xa cap hX => lampSteps_yes pu lo ga sp h t xa cap (duo up li) w hX k1 k2 htb)
        rw [← hG] at HS
        unfold LevRet at HS
        rw [hf] at HS
        simp only [if_true] at HS
        clear hfl hf hok hv ho hA hB hG k1 k2 k3
        go_enter Try.func39, Try.ntmps39
        go_wp2_with (first | (go_at_call 56; refine (lampValid_any _ _ _ _ _ _ HV).mono ?_; rintro e0 w1 ⟨rfl, B0⟩; have HP := HC.below B0; have p0 := fun o => (HP.below ((Below.refl _ w1).alloc (Nat.le_refl _) o)).1; have p1 := fun o => (HP.below ((Below.refl _ w1).alloc (Nat.le_refl _) o)).2.1; have p2 := fun o => (HP.below ((Below.refl _ w1).alloc (Nat.le_refl _) o)).2.2.1; have p3 := fun o => (HP.below ((Below.refl _ w1).alloc (Nat.le_refl _) o)).2.2.2; clear HP; have HE := HD.trans (B0.mono HD.size)) | (go_at_call 75; refine (HS.out _ _ _ (by exact rd_two' _ _ _ _ (by simp))).mono ?_; rintro e0 w2 ⟨v2, X2, rfl, O2, L2, B2⟩))
        obtain ⟨g2, c2, rfl⟩ := own_some2 O2 (by omega)
        have q0 := cell_fin O2 L2 (k := 0) (by omega) HN.out
        have q1 := cell_fin O2 L2 (k := 1) (by omega) HN.out
        rw [HA.out] at q0
        rw [HB.out] at q1
        have HF := (HE.alloc (by exact HE.size) _).trans (B2.mono (by have := HE.size; simp; omega))
        clear O2 L2 B2 HE B0 HC HD HS HV HN
        go_wp2_with fail
        go_quiet (fail)
        go_wp2
        go_ret3
        refine TwoN.yes HO ?_
        (repeat (first | with_reducible exact Below.refl _ _ | with_reducible refine Below.drewN ?_ _ | with_reducible refine Below.setCell ?_ (by simp; try omega) _ | with_reducible refine Below.alloc ?_ (by simp; try omega) _))
        exact HF
    · have hk' : finL (duo up li) 2 = false ∨ isG h = false ∨ inB T 0 512 = false := by
        clear hv hst HV HC HD ho hA hB hG
        cases c1 : finL (duo up li) 2
        · exact .inl rfl
        · cases c2 : isG h
          · exact .inr (.inl rfl)
          · cases c3 : inB T 0 512
            · exact .inr (.inr rfl)
            · exact absurd ⟨c1, c2, c3⟩ hk
      have HO := Lib.hid (show ok = false by
        have e : okLst up li pu lo ga sp h T = false := by
          rw [hv]
          rcases hk' with e | e | e
          · rw [e, Bool.false_and, Bool.false_and, Bool.and_false]
          · rw [e, Bool.and_false, Bool.false_and, Bool.and_false]
          · rw [e, Bool.and_false, Bool.and_false]
        rw [ho.out, e, Bool.false_and])
      have HA := Lib.hid (show A = 0 by rw [hA.out, HO.out, if_neg (by simp)])
      have HB := Lib.hid (show B = 0 by rw [hB.out, HO.out, if_neg (by simp)])
      have HS := Lib.hid (fun (w : World) xa cap f hX => steps_no xa 2 cap (duo up li) h T f w hX (by omega) hk')
      clear hk hk' hv ho hA hB hG
      go_enter Try.func39, Try.ntmps39
      go_wp2_with (first | (go_at_call 56; refine (lampValid_any _ _ _ _ _ _ HV).mono ?_; rintro e0 w1 ⟨rfl, B0⟩; have HP := HC.below B0; have p0 := fun o => (HP.below ((Below.refl _ w1).alloc (Nat.le_refl _) o)).1; have p1 := fun o => (HP.below ((Below.refl _ w1).alloc (Nat.le_refl _) o)).2.1; have p2 := fun o => (HP.below ((Below.refl _ w1).alloc (Nat.le_refl _) o)).2.2.1; have p3 := fun o => (HP.below ((Below.refl _ w1).alloc (Nat.le_refl _) o)).2.2.2; clear HP; have HE := HD.trans (B0.mono HD.size)) | (go_at_call 75; refine (HS.out _ _ _ _ (by exact rd_two' _ _ _ _ (by simp))).mono ?_; rintro e0 w2 ⟨rfl, B2⟩))
      go_ret3
      exact TwoN.no HA HB HO ((HE.alloc (by exact HE.size) _).trans (B2.mono (by have := HE.size; simp; omega)))
/-- What is told of LightSteps. -/
def RetLightSteps (r0 : Nat) (r1 : Nat) (r2 : Bool) (w : World) (e : Ending) (w' : World) : Prop := ∃ (s0 : Nat) (s1 : Nat), e = .returned (.tuple #[.float .f32 (pick .f32 r0 s0), .float .f32 (pick .f32 r1 s1), .bool r2]) ∧ Below w.heap.size w w'
theorem bothLightSteps (up : Nat) (_ : (Lit.float .f32 up).wf = true) (li : Nat) (_ : (Lit.float .f32 li).wf = true) (pu : Nat) (_ : (Lit.float .f32 pu).wf = true) (lo : Nat) (_ : (Lit.float .f32 lo).wf = true) (ga : Nat) (_ : (Lit.float .f32 ga).wf = true) (sp : Nat) (_ : (Lit.float .f32 sp).wf = true) (h : Nat) (_ : (Lit.float .f32 h).wf = true) (T : Int) (_ : (Lit.int .i64 T).wf = true) : ∃ (r s : Nat) (ok : Bool),
    (∀ (w : World), Calls Try.prog 38 #[.float .f32 up, .float .f32 li, .float .f32 pu, .float .f32 lo, .float .f32 ga, .float .f32 sp, .float .f32 h, .int .i64 T] w (RetLightSteps r s ok w)) ∧
    ∀ (w : World), Calls Try.prog 39 #[.float .f32 up, .float .f32 li, .float .f32 pu, .float .f32 lo, .float .f32 ga, .float .f32 sp, .float .f32 h, .int .i64 T] w (RetLightSteps r s ok w) := by
  obtain ⟨G, hG⟩ : ∃ G, G = stepR (lampG pu lo ga sp) h (duo up li) := ⟨_, rfl⟩
  obtain ⟨ok, ho⟩ : ∃ ok, ok = (okLst up li pu lo ga sp h T && (isFin .f32 (G T.toNat 0) && isFin .f32 (G T.toNat 1))) := ⟨_, rfl⟩
  obtain ⟨A, hA⟩ : ∃ A, A = if ok = true then G T.toNat 0 else 0 := ⟨_, rfl⟩
  obtain ⟨B, hB⟩ : ∃ B, B = if ok = true then G T.toNat 1 else 0 := ⟨_, rfl⟩
  refine ⟨A, B, ok, fun w => ?_, fun w => implLst_any up li pu lo ga sp h T w A B ok G hG (Lib.hid ho) (Lib.hid hA) (Lib.hid hB)⟩
  cases hk : okLst up li pu lo ga sp h T
  · have e : ok = false := by rw [ho, hk, Bool.false_and]
    exact specLst_no up li pu lo ga sp h T w A B ok (Lib.hid (by rw [hA, e, if_neg (by simp)])) (Lib.hid (by rw [hB, e, if_neg (by simp)])) (Lib.hid e) hk
  · obtain ⟨_, _, _, _, _, _, _, h8⟩ := okLst_at hk
    obtain ⟨t, rfl⟩ : ∃ t : Nat, T = (t : Int) := ⟨T.toNat, by have := inB_rng h8; omega⟩
    rw [Int.toNat_natCast] at ho hA hB
    rw [hk, Bool.true_and] at ho
    exact specLst_yes up li pu lo ga sp h t w A B ok hk G hG (Lib.hid ho) (Lib.hid hA) (Lib.hid hB)
set_option maxRecDepth 100000 in
set_option maxHeartbeats 6400000 in
theorem lawLightSteps_in (W : World) (a0 : Nat) (_wf0 : (Lit.float .f32 a0).wf = true) (a1 : Nat) (_wf1 : (Lit.float .f32 a1).wf = true) (a2 : Nat) (_wf2 : (Lit.float .f32 a2).wf = true) (a3 : Nat) (_wf3 : (Lit.float .f32 a3).wf = true) (a4 : Nat) (_wf4 : (Lit.float .f32 a4).wf = true) (a5 : Nat) (_wf5 : (Lit.float .f32 a5).wf = true) (a6 : Nat) (_wf6 : (Lit.float .f32 a6).wf = true) (a7 : Int) (_wf7 : (Lit.int .i64 a7).wf = true)  (r0 : Nat) (r1 : Nat) (r2 : Bool) (HS : Hid (∀  (w : World),  Calls Try.prog 38 #[.float .f32 a0, .float .f32 a1, .float .f32 a2, .float .f32 a3, .float .f32 a4, .float .f32 a5, .float .f32 a6, .int .i64 a7] w (RetLightSteps r0 r1 r2 w))) (HI : Hid (∀  (w : World),  Calls Try.prog 39 #[.float .f32 a0, .float .f32 a1, .float .f32 a2, .float .f32 a3, .float .f32 a4, .float .f32 a5, .float .f32 a6, .int .i64 a7] w (RetLightSteps r0 r1 r2 w))) :
    Calls Try.prog 12 #[.float .f32 a0, .float .f32 a1, .float .f32 a2, .float .f32 a3, .float .f32 a4, .float .f32 a5, .float .f32 a6, .int .i64 a7] W fun e w' => e = .returned (.bool true) ∧ Below W.heap.size W w' := by
  have hcv := fun (R : Nat) (s t : Nat) => show canon .f64 (pick .f64 (fconv .f32 (pick .f32 R s) .f64) t) = canon .f64 (fconv .f32 R .f64) by rw [canon_pick, fconv_pick]
  have hcw := fun (R : Nat) (s t : Nat) => show canon .f64 (pick .f64 R s) = canon .f64 (pick .f64 R t) by rw [canon_pick, canon_pick]
  have HCV := Lib.hid hcv
  have HCW := Lib.hid hcw
  clear hcv hcw
  have hnb2 : (r2 != r2) = false := by simp
  have HB := Blw.refl W
  go_enter Try.func12, Try.ntmps12
  go_wp2_with fail
  refine (HS.out  _ ).mono ?_
  rintro e0 w1 ⟨sw0, sw1, rfl, B0⟩
  replace HB := Blw.next (by exact HB) B0
  clear B0
  have HL := Blw.refl w1
  have Eg := (Blw.out (by exact HL)).size
  go_wp2_with fail
  refine (HI.out  _ ).mono ?_
  rintro e0 w2 ⟨sg0, sg1, rfl, B0⟩
  replace HL := Blw.next (by exact HL) B0
  clear B0
  go_wp2_with (first | ((with_reducible refine wpL_fconv ?_); refine ⟨_, _, _, rfl, Option.isSome_iff_exists.2 ⟨_, Try.underlying22⟩, Try.underlying34, FloatKind.noConfusion, convOk_widen _, fun s n => ?_⟩) | ((with_reducible refine wpL_fconv_g ?_); refine ⟨rfl, _, _, _, rfl, Option.isSome_iff_exists.2 ⟨_, Try.underlying22⟩, Try.underlying34, FloatKind.noConfusion, convOk_widen _, fun s n => ?_⟩))
  refine (sameFloat_any _ _ _ ((HCV.out _ _ _).trans (HCV.out _ _ _).symm)).mono ?_
  rintro e0 w0 ⟨rfl, q, rfl⟩
  go_wp2_with (first | ((with_reducible refine wpL_fconv ?_); refine ⟨_, _, _, rfl, Option.isSome_iff_exists.2 ⟨_, Try.underlying22⟩, Try.underlying34, FloatKind.noConfusion, convOk_widen _, fun s n => ?_⟩) | ((with_reducible refine wpL_fconv_g ?_); refine ⟨rfl, _, _, _, rfl, Option.isSome_iff_exists.2 ⟨_, Try.underlying22⟩, Try.underlying34, FloatKind.noConfusion, convOk_widen _, fun s n => ?_⟩))
  refine (sameFloat_any _ _ _ ((HCV.out _ _ _).trans (HCV.out _ _ _).symm)).mono ?_
  rintro e0 w0 ⟨rfl, q, rfl⟩
  go_wp2
  go_ret
  exact ⟨rfl, (Blw.out (by exact HB)).trans ((Blw.out (by exact HL)).mono (Blw.out (by exact HB)).size)⟩
set_option maxHeartbeats 1600000 in
theorem lawLightSteps_any (W : World) (a0 : Nat) (_wf0 : (Lit.float .f32 a0).wf = true) (a1 : Nat) (_wf1 : (Lit.float .f32 a1).wf = true) (a2 : Nat) (_wf2 : (Lit.float .f32 a2).wf = true) (a3 : Nat) (_wf3 : (Lit.float .f32 a3).wf = true) (a4 : Nat) (_wf4 : (Lit.float .f32 a4).wf = true) (a5 : Nat) (_wf5 : (Lit.float .f32 a5).wf = true) (a6 : Nat) (_wf6 : (Lit.float .f32 a6).wf = true) (a7 : Int) (_wf7 : (Lit.int .i64 a7).wf = true) :
    Calls Try.prog 12 #[.float .f32 a0, .float .f32 a1, .float .f32 a2, .float .f32 a3, .float .f32 a4, .float .f32 a5, .float .f32 a6, .int .i64 a7] W fun e w' => e = .returned (.bool true) ∧ Below W.heap.size W w' := by
  obtain ⟨r0, r1, r2, hs, hi⟩ := bothLightSteps a0 _wf0 a1 _wf1 a2 _wf2 a3 _wf3 a4 _wf4 a5 _wf5 a6 _wf6 a7 _wf7
  exact lawLightSteps_in W a0 _wf0 a1 _wf1 a2 _wf2 a3 _wf3 a4 _wf4 a5 _wf5 a6 _wf6 a7 _wf7  r0 r1 r2 (Lib.hid hs) (Lib.hid hi)
set_option maxRecDepth 100000 in
theorem FnExactLightSteps_lifted (os : Os) (started : os.Started) (H : Type) (enc : TypeId × Value → H) :
    ReturnsInHanded {} Try.checked os 12 .any (Rows.fnExactLightStepsSpec.pre6 enc Try.prog Try.f12 Rows.fnExactLightStepsRow.domain false) (Rows.fnExactLightStepsSpec.post enc Try.prog Try.f12 false true false false) := by
  refine returnsInHanded_of_change (C := Try.checked) ownKnob_none started (by kernel_rfl) Try.func12
    (ChangeSpec.witness6 (enc := enc) (C := Try.checked) false ⟨#[], #[.float .f32 0, .float .f32 0, .float .f32 0, .float .f32 0, .float .f32 0, .float .f32 0, .float .f32 0, .int .i64 0], []⟩ 8 (by kernel_rfl) (by kernel_rfl) (by kernel_rfl) (by kernel_rfl)) ?_
  intro W base args ds gs before hval0 hW _ _
  have hval : ∀ (j : Nat) t v, Try.f12.params[j]? = some t → args[j]? = some v → Value.okWide Try.prog W .any base t v := hval0
  have hW' := hW
  obtain ⟨p, q, hA0, hV, rfl, _, _⟩ := hW
  have hA : DataW.TrodAll enc Try.prog W 0 (fun _ => true) true Try.f12.params.toList args.toList ds p := hA0
  rw [Try.params12] at hA hval
  obtain ⟨v0, vs0, d0, ds0, p0, q0, e0, rfl, rfl, h0, r0⟩ := trodAll_cons hA
  obtain ⟨v1, vs1, d1, ds1, p1, q1, e1, rfl, rfl, h1, r1⟩ := trodAll_cons r0
  obtain ⟨v2, vs2, d2, ds2, p2, q2, e2, rfl, rfl, h2, r2⟩ := trodAll_cons r1
  obtain ⟨v3, vs3, d3, ds3, p3, q3, e3, rfl, rfl, h3, r3⟩ := trodAll_cons r2
  obtain ⟨v4, vs4, d4, ds4, p4, q4, e4, rfl, rfl, h4, r4⟩ := trodAll_cons r3
  obtain ⟨v5, vs5, d5, ds5, p5, q5, e5, rfl, rfl, h5, r5⟩ := trodAll_cons r4
  obtain ⟨v6, vs6, d6, ds6, p6, q6, e6, rfl, rfl, h6, r6⟩ := trodAll_cons r5
  obtain ⟨v7, vs7, d7, ds7, p7, q7, e7, rfl, rfl, h7, r7⟩ := trodAll_cons r6
  obtain ⟨rfl, rfl, rfl⟩ := trodAll_nil r7
  subst e7
  subst e6
  subst e5
  subst e4
  subst e3
  subst e2
  subst e1
  obtain rfl : args = #[v0, v1, v2, v3, v4, v5, v6, v7] := by cases args; simp_all
  obtain ⟨rfl, rfl⟩ := trodVars_none hV
  obtain ⟨a0, rfl, rfl, rfl, w0⟩ := open_float Try.underlying22 (hval 0 22 v0 rfl rfl) h0
  obtain ⟨a1, rfl, rfl, rfl, w1⟩ := open_float Try.underlying22 (hval 1 22 v1 rfl rfl) h1
  obtain ⟨a2, rfl, rfl, rfl, w2⟩ := open_float Try.underlying22 (hval 2 22 v2 rfl rfl) h2
  obtain ⟨a3, rfl, rfl, rfl, w3⟩ := open_float Try.underlying22 (hval 3 22 v3 rfl rfl) h3
  obtain ⟨a4, rfl, rfl, rfl, w4⟩ := open_float Try.underlying22 (hval 4 22 v4 rfl rfl) h4
  obtain ⟨a5, rfl, rfl, rfl, w5⟩ := open_float Try.underlying22 (hval 5 22 v5 rfl rfl) h5
  obtain ⟨a6, rfl, rfl, rfl, w6⟩ := open_float Try.underlying22 (hval 6 22 v6 rfl rfl) h6
  obtain ⟨a7, rfl, rfl, rfl, w7⟩ := open_int Try.underlying2 (hval 7 2 v7 rfl rfl) h7
  clear hA0 hval0
  refine (lawLightSteps_any W a0 w0 a1 w1 a2 w2 a3 w3 a4 w4 a5 w5 a6 w6 a7 w7).mono fun e W' ⟨he, hb⟩ => ?_
  subst he
  have hA2 := trodAll_cons_mk (enc := enc) (w := W') (base := 0) (spare := fun b => decide (b < W.heap.size)) (held := true) (shut_float Try.underlying22 w0) (trodAll_cons_mk (enc := enc) (w := W') (base := 0) (spare := fun b => decide (b < W.heap.size)) (held := true) (shut_float Try.underlying22 w1) (trodAll_cons_mk (enc := enc) (w := W') (base := 0) (spare := fun b => decide (b < W.heap.size)) (held := true) (shut_float Try.underlying22 w2) (trodAll_cons_mk (enc := enc) (w := W') (base := 0) (spare := fun b => decide (b < W.heap.size)) (held := true) (shut_float Try.underlying22 w3) (trodAll_cons_mk (enc := enc) (w := W') (base := 0) (spare := fun b => decide (b < W.heap.size)) (held := true) (shut_float Try.underlying22 w4) (trodAll_cons_mk (enc := enc) (w := W') (base := 0) (spare := fun b => decide (b < W.heap.size)) (held := true) (shut_float Try.underlying22 w5) (trodAll_cons_mk (enc := enc) (w := W') (base := 0) (spare := fun b => decide (b < W.heap.size)) (held := true) (shut_float Try.underlying22 w6) (trodAll_cons_mk (enc := enc) (w := W') (base := 0) (spare := fun b => decide (b < W.heap.size)) (held := true) (shut_int Try.underlying2 w7) (trodAll_mk0))))))))
  exact ⟨_, rfl, _, _, _, [], _, [], hW', trodAll_cons_mk (shut_bool Try.underlying4 _) trodAll_mk0, hA2, rfl, hb.frame _, fun h => by cases h⟩
theorem FnExactLightSteps_holds : Rows.FnExactLightStepsSaid :=
  OpenClaim.holds_of_wide 12 Try.f12 rfl rfl rfl rfl rfl rfl rfl ⟨rfl, rfl, rfl, rfl, rfl⟩ rfl rfl rfl rfl rfl (by kernel_rfl) Try.func12 (by kernel_rfl)
    (of_decide_eq_true (by kernel_rfl)) (by unfold Func.isWrapper; first | (rw [if_pos (by decide +kernel)]; kernel_rfl) | (rw [if_neg (by decide +kernel)]; exact ⟨rfl, rfl⟩))
    (fun os started H enc _ => FnExactLightSteps_lifted os started H enc)
end Go.Proofs.Ytebelikahpnobaa
