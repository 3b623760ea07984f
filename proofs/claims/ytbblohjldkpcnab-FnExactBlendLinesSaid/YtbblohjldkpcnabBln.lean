
/- The blend of two lines: as the model tells it. -/
import Derived.Test.YtbblohjldkpcnabBlnP
namespace Go.Proofs.Ytbblohjldkpcnab
open Go Go.ChangeShapes Go.WideShapes Go.ChangeAt Go.RowKit

def BlRet (P H W : Nat) (k : Int) (ok : Bool) (w : World) (e : Ending) (w' : World) : Prop := e = .returned (.tuple #[.agg #[.float .f32 P, .float .f32 H, .float .f32 W, .int .i64 k], .bool ok]) ∧ Below w.heap.size w w'
/-- What is told. -/
def blQ (x : Nat) (ok : Bool) : Nat := if ok = true then x else 0
set_option maxRecDepth 100000 in
set_option maxHeartbeats 3200000 in
theorem specBl_any (a b c : Nat) (k : Int) (a' b' c' : Nat) (k' : Int) (hA : a < 4294967296 ∧ b < 4294967296 ∧ c < 4294967296) (hA' : a' < 4294967296 ∧ b' < 4294967296 ∧ c' < 4294967296) (w : World) (ok : Bool) (ho : Hid (ok = (okBl a b c k a' b' c' k' && okLin (blP a b a' b') (blH b b') (blW a c a' c') k)))
    (rP rH rW : Nat) (rk : Int) (hr : Hid (rP = blQ (blP a b a' b') ok ∧ rH = blQ (blH b b') ok ∧ rW = blQ (blW a c a' c') ok ∧ rk = if ok = true then k else 0)) :
    Calls Try.prog 39 #[.agg #[.float .f32 a, .float .f32 b, .float .f32 c, .int .i64 k], .agg #[.float .f32 a', .float .f32 b', .float .f32 c', .int .i64 k']] w (BlRet rP rH rW rk ok w) := by
  have hst := run_store_f32
  have hst2 := run_store_i64
  have HNO := Lib.hid (fun (h : ok = false) w' (hb : Below w.heap.size w w') => show BlRet rP rH rW rk ok w (.returned (.tuple #[.agg #[.float .f32 0, .float .f32 0, .float .f32 0, .int .i64 0], .bool false])) w' by
    obtain ⟨e1, e2, e3, e4⟩ := hr.out
    rw [e1, e2, e3, e4, h]; exact ⟨rfl, hb⟩)
  have LA := ((lnAt_alloc w a b c k 53).below ((Below.refl _ _).alloc (Nat.le_refl _) (.cells #[.float .f32 a', .float .f32 b', .float .f32 c', .int .i64 k'] 53))).below ((Below.refl _ _).alloc (Nat.le_refl _) (.cells #[.float .f32 0, .float .f32 0, .float .f32 0, .int .i64 0] 53))
  have LB0 : LnAt ((w.alloc (.cells #[.float .f32 a, .float .f32 b, .float .f32 c, .int .i64 k] 53)).alloc (.cells #[.float .f32 a', .float .f32 b', .float .f32 c', .int .i64 k'] 53)) (w.heap.size + 1) 0 a' b' c' k' := by
    have h := lnAt_alloc (w.alloc (.cells #[.float .f32 a, .float .f32 b, .float .f32 c, .int .i64 k] 53)) a' b' c' k' 53
    rwa [show (w.alloc (.cells #[.float .f32 a, .float .f32 b, .float .f32 c, .int .i64 k] 53)).heap.size = w.heap.size + 1 by simp] at h
  have LB := LB0.below ((Below.refl _ _).alloc (Nat.le_refl _) (.cells #[.float .f32 0, .float .f32 0, .float .f32 0, .int .i64 0] 53))
  clear LB0
  have H1 := Lib.hid (fun g w h => l05Line_any g 0 a b c k w h)
  have H2 := Lib.hid (fun g w h => l05Line_any g 0 a' b' c' k' w h)
  have hp1 := fbin_pick_l .add .f32
  have ho1 := order_pick_l .f32
  cases c1 : okLin a b c k
  · rw [c1] at H1
    have HN := Lib.hid (HNO.out (by rw [ho.out, okBl, c1]; rfl))
    clear c1
    go_enter Try.func39, Try.ntmps39
    go_wp2_with (first | ((with_reducible refine wpL_fbin ?_); refine ⟨_, _, _, rfl, rfl, rfl, fun s n => ?_⟩) | (go_at_call_of 99 (Value.pointer (some ⟨w.heap.size, 0, none⟩)); refine (H1.out _ _ (by exact LA)).mono ?_; rintro e w' ⟨rfl, q, rfl⟩))
    exact bodyPost_ret (v := .tuple #[.agg #[.float .f32 0, .float .f32 0, .float .f32 0, .int .i64 0], .bool false]) (by simp [results, Try.results39, go_sem]) rfl (HN.out _ (by repeat (first | with_reducible exact Below.refl _ _ | with_reducible refine Below.drewN ?_ _ | with_reducible refine Below.setCell ?_ (by simp; try omega) _ | with_reducible refine Below.alloc ?_ (by simp; try omega) _)))
  · rw [c1] at H1
    cases c2 : okLin a' b' c' k'
    · rw [c2] at H2
      have HN := Lib.hid (HNO.out (by rw [ho.out, okBl, c1, c2]; rfl))
      clear c1 c2
      go_enter Try.func39, Try.ntmps39
      go_wp2_with (first | ((with_reducible refine wpL_fbin ?_); refine ⟨_, _, _, rfl, rfl, rfl, fun s n => ?_⟩) | (go_at_call_of 99 (Value.pointer (some ⟨w.heap.size, 0, none⟩)); refine (H1.out _ _ (by exact LA)).mono ?_; rintro e w' ⟨rfl, q, rfl⟩))
      refine (H2.out _ _ (by exact LB)).mono ?_
      rintro e w' ⟨rfl, q2, rfl⟩
      go_wp2_with ((with_reducible refine wpL_fbin ?_); refine ⟨_, _, _, rfl, rfl, rfl, fun s n => ?_⟩)
      exact bodyPost_ret (v := .tuple #[.agg #[.float .f32 0, .float .f32 0, .float .f32 0, .int .i64 0], .bool false]) (by simp [results, Try.results39, go_sem]) rfl (HN.out _ (by repeat (first | with_reducible exact Below.refl _ _ | with_reducible refine Below.drewN ?_ _ | with_reducible refine Below.setCell ?_ (by simp; try omega) _ | with_reducible refine Below.alloc ?_ (by simp; try omega) _)))
    · rw [c2] at H2
      obtain ⟨HH, hHH⟩ : ∃ H, H = blH b b' := ⟨_, rfl⟩
      have hh1 : fbin .add .f32 b b' = HH := hHH.symm
      cases c3 : (FloatKind.f32.format.order HH 0 == some .eq)
      · have hin : okBl a b c k a' b' c' k' = true := by rw [okBl, c1, c2, ← hHH, c3]; rfl
        obtain ⟨fA, fB, pC, _, _⟩ := okLin_at c1
        obtain ⟨fA', fB', pC', _, _⟩ := okLin_at c2
        have fC : isFin .f32 c = true := by unfold isP at pC; rw [Bool.and_eq_true] at pC; exact pC.1
        have fC' : isFin .f32 c' = true := by unfold isP at pC'; rw [Bool.and_eq_true] at pC'; exact pC'.1
        obtain ⟨nS, nD⟩ := dist_num fA fA'
        obtain ⟨S, hS⟩ : ∃ S, fbin .sub .f32 a a' = S := ⟨_, rfl⟩
        obtain ⟨D, hD⟩ : ∃ D, fbin .mul .f32 1056964608 S = D := ⟨_, rfl⟩
        have hDD : blD a a' = D := by rw [blD, hS, hD]
        rw [hS] at nS
        rw [hDD] at nD
        have pS : ∀ s, pick .f32 S s = S := fun s => pick_num nS s
        have pD : ∀ s, pick .f32 D s = D := fun s => pick_num nD s
        obtain ⟨M, hM⟩ : ∃ M, M = blM c c' := ⟨_, rfl⟩
        have hmax := fun ts t w => run_maxK hA.2.2 hA'.2.2 fC fC' Try.prog ts t w
        rw [show (if lessK c c' = true then c' else c) = M from hM.symm] at hmax
        obtain ⟨U1, hU1⟩ : ∃ U, fbin .mul .f32 a b = U := ⟨_, rfl⟩
        obtain ⟨U2, hU2⟩ : ∃ U, fbin .mul .f32 a' b' = U := ⟨_, rfl⟩
        obtain ⟨T, hT⟩ : ∃ T, fbin .add .f32 U1 U2 = T := ⟨_, rfl⟩
        obtain ⟨P, hP⟩ : ∃ P, fbin .quo .f32 T HH = P := ⟨_, rfl⟩
        have hPP : blP a b a' b' = P := by rw [blP, hU1, hU2, hT, ← hHH, hP]
        have hp2 := fbin_pick_r .add .f32
        have hp3 := fbin_pick_l .quo .f32
        have hp4 := fbin_pick_r .quo .f32
        have HV := Lib.hid hHH
        obtain ⟨E, hE⟩ : ∃ E, E = absT D := ⟨_, rfl⟩
        obtain ⟨Wd, hW⟩ : ∃ Wd, fbin .add .f32 M E = Wd := ⟨_, rfl⟩
        have hWW : blW a c a' c' = Wd := by rw [blW, hDD, ← hM, ← hE, hW]
        have HK := Lib.hid (show ok = okLin P HH Wd k by rw [ho.out, hin, Bool.true_and, hPP, ← hHH, hWW])
        have HY := Lib.hid (fun (h : okLin P HH Wd k = true) w' (hb : Below w.heap.size w w') => show BlRet rP rH rW rk ok w (.returned (.tuple #[.agg #[.float .f32 P, .float .f32 HH, .float .f32 Wd, .int .i64 k], .bool true])) w' by
          obtain ⟨e1, e2, e3, e4⟩ := hr.out
          rw [e1, e2, e3, e4, HK.out, h, hPP, ← hHH, hWW]; exact ⟨rfl, hb⟩)
        have H3 := Lib.hid (fun g w (s t u : Nat) h => show Calls Try.prog 99 #[.pointer (some ⟨g, 0, none⟩)] w fun e w' => e = .returned (.bool (okLin P HH Wd k)) ∧ ∃ m, w' = w.drewN m from by
          rw [← okLin_pick P HH Wd k s t u]; exact l05Line_any g 0 (pick .f32 P s) (pick .f32 HH t) (pick .f32 Wd u) k w h)
        cases cd : (FloatKind.f32.format.order D 0 == some .lt)
        · have hEE : E = D := by rw [hE, absT, cd, if_neg (by simp)]
          have hW2 : fbin .add .f32 M D = Wd := by rw [← hEE]; exact hW
          cases c4 : okLin P HH Wd k
          · rw [c4] at H3
            have HN := Lib.hid (HNO.out (HK.out.trans c4))
            clear c1 c2 c4 hHH hin ho hM hPP hDD hE hW hWW hEE nS nD fA fB pC fA' fB' pC' fC fC' HK HY
            go_enter Try.func39, Try.ntmps39
            go_wp2_with (first | ((with_reducible refine wpL_fbin ?_); refine ⟨_, _, _, rfl, rfl, rfl, fun s n => ?_⟩) | (go_at_call_of 99 (Value.pointer (some ⟨w.heap.size, 0, none⟩)); refine (H1.out _ _ (by exact LA)).mono ?_; rintro e w' ⟨rfl, q, rfl⟩))
            refine (H2.out _ _ (by exact LB)).mono ?_
            rintro e w' ⟨rfl, q2, rfl⟩
            go_wp2_with ((with_reducible refine wpL_fbin ?_); refine ⟨_, _, _, rfl, rfl, rfl, fun s n => ?_⟩)
            rename_i s6 n6 s5 n5 s4 n4 s3 n3 s2 n2 s1 n1 s0 n0 K2 A2 K1 A1 K0 A0
            refine (H3.out (w.heap.size + 1 + 1 + 1) _ s s6 s3 ⟨by simp [go_sem], by simp [go_sem], by simp [go_sem], by simp [go_sem]⟩).mono ?_
            rintro e w' ⟨rfl, q3, rfl⟩
            go_wp2
            exact bodyPost_ret (v := .tuple #[.agg #[.float .f32 0, .float .f32 0, .float .f32 0, .int .i64 0], .bool false]) (by simp [results, Try.results39, go_sem]) rfl (HN.out _ (by repeat (first | with_reducible exact Below.refl _ _ | with_reducible refine Below.drewN ?_ _ | with_reducible refine Below.setCell ?_ (by simp; try omega) _ | with_reducible refine Below.alloc ?_ (by simp; try omega) _)))
          · rw [c4] at H3
            have HN := Lib.hid (HY.out c4)
            have HNM := Lib.hid (fun s t u => okLin_num c4 s t u)
            clear c1 c2 c4 hHH hin ho hM hPP hDD hE hW hWW hEE nS nD fA fB pC fA' fB' pC' fC fC' HK HY
            go_enter Try.func39, Try.ntmps39
            go_wp2_with (first | ((with_reducible refine wpL_fbin ?_); refine ⟨_, _, _, rfl, rfl, rfl, fun s n => ?_⟩) | (go_at_call_of 99 (Value.pointer (some ⟨w.heap.size, 0, none⟩)); refine (H1.out _ _ (by exact LA)).mono ?_; rintro e w' ⟨rfl, q, rfl⟩))
            refine (H2.out _ _ (by exact LB)).mono ?_
            rintro e w' ⟨rfl, q2, rfl⟩
            go_wp2_with ((with_reducible refine wpL_fbin ?_); refine ⟨_, _, _, rfl, rfl, rfl, fun s n => ?_⟩)
            rename_i s6 n6 s5 n5 s4 n4 s3 n3 s2 n2 s1 n1 s0 n0 K2 A2 K1 A1 K0 A0
            refine (H3.out (w.heap.size + 1 + 1 + 1) _ s s6 s3 ⟨by simp [go_sem], by simp [go_sem], by simp [go_sem], by simp [go_sem]⟩).mono ?_
            rintro e w' ⟨rfl, q3, rfl⟩
            go_wp2
            obtain ⟨e1, e2, e3⟩ := HNM.out s s6 s3
            exact bodyPost_ret (v := .tuple #[.agg #[.float .f32 P, .float .f32 HH, .float .f32 Wd, .int .i64 k], .bool true]) (by simp [results, Try.results39, go_sem, e1, e2, e3]) rfl (HN.out _ (by repeat (first | with_reducible exact Below.refl _ _ | with_reducible refine Below.drewN ?_ _ | with_reducible refine Below.setCell ?_ (by simp; try omega) _ | with_reducible refine Below.alloc ?_ (by simp; try omega) _)))
        · obtain ⟨ND, hND⟩ : ∃ ND, Op.negFloat .f32 D = ND := ⟨_, rfl⟩
          have hEE : E = ND := by rw [hE, absT, cd, if_pos rfl, hND]
          have hW2 : fbin .add .f32 M ND = Wd := by rw [← hEE]; exact hW
          cases c4 : okLin P HH Wd k
          · rw [c4] at H3
            have HN := Lib.hid (HNO.out (HK.out.trans c4))
            clear c1 c2 c4 hHH hin ho hM hPP hDD hE hW hWW hEE nS nD fA fB pC fA' fB' pC' fC fC' HK HY
            go_enter Try.func39, Try.ntmps39
            go_wp2_with (first | ((with_reducible refine wpL_fbin ?_); refine ⟨_, _, _, rfl, rfl, rfl, fun s n => ?_⟩) | (go_at_call_of 99 (Value.pointer (some ⟨w.heap.size, 0, none⟩)); refine (H1.out _ _ (by exact LA)).mono ?_; rintro e w' ⟨rfl, q, rfl⟩))
            refine (H2.out _ _ (by exact LB)).mono ?_
            rintro e w' ⟨rfl, q2, rfl⟩
            go_wp2_with (first | ((with_reducible refine wpL_fbin ?_); refine ⟨_, _, _, rfl, rfl, rfl, fun s n => ?_⟩) | ((with_reducible refine wpL_fneg ?_); refine ⟨_, _, rfl, ?_⟩))
            rename_i s6 n6 s5 n5 s4 n4 s3 n3 s2 n2 s1 n1 s0 n0 K2 A2 K1 A1 K0 A0
            refine (H3.out (w.heap.size + 1 + 1 + 1) _ s s6 s3 ⟨by simp [go_sem], by simp [go_sem], by simp [go_sem], by simp [go_sem]⟩).mono ?_
            rintro e w' ⟨rfl, q3, rfl⟩
            go_wp2
            exact bodyPost_ret (v := .tuple #[.agg #[.float .f32 0, .float .f32 0, .float .f32 0, .int .i64 0], .bool false]) (by simp [results, Try.results39, go_sem]) rfl (HN.out _ (by repeat (first | with_reducible exact Below.refl _ _ | with_reducible refine Below.drewN ?_ _ | with_reducible refine Below.setCell ?_ (by simp; try omega) _ | with_reducible refine Below.alloc ?_ (by simp; try omega) _)))
          · rw [c4] at H3
            have HN := Lib.hid (HY.out c4)
            have HNM := Lib.hid (fun s t u => okLin_num c4 s t u)
            clear c1 c2 c4 hHH hin ho hM hPP hDD hE hW hWW hEE nS nD fA fB pC fA' fB' pC' fC fC' HK HY
            go_enter Try.func39, Try.ntmps39
            go_wp2_with (first | ((with_reducible refine wpL_fbin ?_); refine ⟨_, _, _, rfl, rfl, rfl, fun s n => ?_⟩) | (go_at_call_of 99 (Value.pointer (some ⟨w.heap.size, 0, none⟩)); refine (H1.out _ _ (by exact LA)).mono ?_; rintro e w' ⟨rfl, q, rfl⟩))
            refine (H2.out _ _ (by exact LB)).mono ?_
            rintro e w' ⟨rfl, q2, rfl⟩
            go_wp2_with (first | ((with_reducible refine wpL_fbin ?_); refine ⟨_, _, _, rfl, rfl, rfl, fun s n => ?_⟩) | ((with_reducible refine wpL_fneg ?_); refine ⟨_, _, rfl, ?_⟩))
            rename_i s6 n6 s5 n5 s4 n4 s3 n3 s2 n2 s1 n1 s0 n0 K2 A2 K1 A1 K0 A0
            refine (H3.out (w.heap.size + 1 + 1 + 1) _ s s6 s3 ⟨by simp [go_sem], by simp [go_sem], by simp [go_sem], by simp [go_sem]⟩).mono ?_
            rintro e w' ⟨rfl, q3, rfl⟩
            go_wp2
            obtain ⟨e1, e2, e3⟩ := HNM.out s s6 s3
            exact bodyPost_ret (v := .tuple #[.agg #[.float .f32 P, .float .f32 HH, .float .f32 Wd, .int .i64 k], .bool true]) (by simp [results, Try.results39, go_sem, e1, e2, e3]) rfl (HN.out _ (by repeat (first | with_reducible exact Below.refl _ _ | with_reducible refine Below.drewN ?_ _ | with_reducible refine Below.setCell ?_ (by simp; try omega) _ | with_reducible refine Below.alloc ?_ (by simp; try omega) _)))
      · have HN := Lib.hid (HNO.out (by rw [ho.out, okBl, ← hHH, c3]; simp))
        have HV := Lib.hid hHH
        clear c1 c2 hHH
        go_enter Try.func39, Try.ntmps39
        go_wp2_with (first | ((with_reducible refine wpL_fbin ?_); refine ⟨_, _, _, rfl, rfl, rfl, fun s n => ?_⟩) | (go_at_call_of 99 (Value.pointer (some ⟨w.heap.size, 0, none⟩)); refine (H1.out _ _ (by exact LA)).mono ?_; rintro e w' ⟨rfl, q, rfl⟩))
        refine (H2.out _ _ (by exact LB)).mono ?_
        rintro e w' ⟨rfl, q2, rfl⟩
        go_wp2_with ((with_reducible refine wpL_fbin ?_); refine ⟨_, _, _, rfl, rfl, rfl, fun s n => ?_⟩)
        exact bodyPost_ret (v := .tuple #[.agg #[.float .f32 0, .float .f32 0, .float .f32 0, .int .i64 0], .bool false]) (by simp [results, Try.results39, go_sem]) rfl (HN.out _ (by repeat (first | with_reducible exact Below.refl _ _ | with_reducible refine Below.drewN ?_ _ | with_reducible refine Below.setCell ?_ (by simp; try omega) _ | with_reducible refine Below.alloc ?_ (by simp; try omega) _)))
end Go.Proofs.Ytbblohjldkpcnab
