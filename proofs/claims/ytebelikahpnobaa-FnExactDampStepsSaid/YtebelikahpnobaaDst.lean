/- A damped vector behind steps, as the model tells it. -/
import Derived.Test.YtebelikahpnobaaStN
import Derived.Test.YtebelikahpnobaaSto
import Derived.Test.YtebelikahpnobaaPul
namespace Go.Proofs.Ytebelikahpnobaa
open Go Go.ChangeShapes Go.WideShapes Go.ChangeAt Go.RowKit

def okDst (n : Nat) (X : Nat → Nat) (r o p d h : Nat) (T : Int) : Bool := (decide (n = 3) && (isFin .f32 r && isFin .f32 o) && (isG p && isG d)) && (finL X n && isG h && inB T 0 512)
theorem three_no {n : Nat} {X : Nat → Nat} (h : ¬ n = 3) : false = (decide (n = 3) && finL X n) := by rw [decide_eq_false h, Bool.false_and]
theorem three_yes (X : Nat → Nat) : finL X 3 = (decide ((3 : Nat) = 3) && finL X 3) := by rw [decide_eq_true rfl, Bool.true_and]
set_option maxRecDepth 100000 in
set_option maxHeartbeats 1600000 in
theorem three_any (xa : Option Addr) (n cap : Nat) (X : Nat → Nat) (w : World) (hX : Rd w xa n X) (hn : n ≤ 1048576) (b : Bool) (hb : Hid (b = (decide (n = 3) && finL X n))) :
    Calls Try.prog 77 #[.slice xa n cap] w fun e w' => e = .returned (.bool b) ∧ ∃ q, w' = w.drewN q := by
  by_cases h : n = 3
  · subst h
    have H := Lib.hid (show finL X 3 = b by rw [hb.out]; exact three_yes X)
    clear hb
    go_enter Try.func77, Try.ntmps77
    go_wp2_with (go_at_call 94; refine (l02Finite_any _ _ _ X _ hX hn).mono ?_; rintro e w' ⟨rfl, q, rfl⟩)
    go_ret
    exact ⟨ret_bool H.out, _, rfl⟩
  · have H := Lib.hid (show false = b by rw [hb.out]; exact three_no h)
    have d : ((n : Int) == 3) = false := by simpa using (by omega : ¬ (n : Int) = 3)
    clear hb h hX
    go_enter Try.func77, Try.ntmps77
    go_wp2
    go_ret
    exact ⟨ret_bool H.out, 0, rfl⟩
set_option maxRecDepth 100000 in
set_option maxHeartbeats 6400000 in
theorem specDst_no (xa : Option Addr) (n cap : Nat) (X : Nat → Nat) (r o p d h : Nat) (T : Int) (w : World) (hX : Rd w xa n X) (hn : n ≤ 1048576) (R : Nat → Nat) (hk : okDst n X r o p d h T = false) :
    Calls Try.prog 40 #[.slice xa n cap, .float .f32 r, .float .f32 o, .float .f32 p, .float .f32 d, .float .f32 h, .int .i64 T] w (OutRet R 0 false w) := by
  obtain ⟨b, hb⟩ : ∃ b, b = (decide (n = 3) && finL X n) := ⟨_, rfl⟩
  have HB := Lib.hid hb
  have hk2 : (b && isFin .f32 r && isFin .f32 o && isG p && isG d && isG h && inB T 0 512) = false := by
    rw [hb, ← hk]
    unfold okDst
    generalize decide (n = 3) = a1
    generalize finL X n = a2
    generalize isFin .f32 r = a3
    generalize isFin .f32 o = a4
    generalize isG p = a5
    generalize isG d = a6
    generalize isG h = a7
    generalize inB T 0 512 = a8
    revert a1 a2 a3 a4 a5 a6 a7 a8
    decide
  clear hk hb
  cases b
  · clear hk2
    go_enter Try.func40, Try.ntmps40
    go_wp2_with (go_at_call 77; refine (three_any _ _ _ X _ (by exact hX) hn false HB).mono ?_; rintro e w' ⟨rfl, q, rfl⟩)
    go_ret2
    refine OutRet.no ?_
    (repeat (first | with_reducible exact Below.refl _ _ | with_reducible refine Below.drewN ?_ _ | with_reducible refine Below.setCell ?_ (by simp; try omega) _ | with_reducible refine Below.alloc ?_ (by simp; try omega) _))
  · rw [Bool.true_and] at hk2
    cases c1 : isFin .f32 r
    · skip
      clear hk2
      go_enter Try.func40, Try.ntmps40
      go_wp2_with (first | (go_at_call 77; refine (three_any _ _ _ X _ (by exact hX) hn true HB).mono ?_; rintro e w' ⟨rfl, q, rfl⟩) | (first | (go_at_call 58; refine (l01Finite_any _ _).mono ?_; rintro e w' ⟨rfl, q, rfl⟩) | (go_at_call 54; refine (l02Least_any _ _).mono ?_; rintro e w' ⟨rfl, q, rfl⟩) | (go_at_call 59; refine (l00In_any _ _ _ _).mono ?_; rintro e w' ⟨rfl, rfl⟩)) | go_in)
      go_ret2
      refine OutRet.no ?_
      (repeat (first | with_reducible exact Below.refl _ _ | with_reducible refine Below.drewN ?_ _ | with_reducible refine Below.setCell ?_ (by simp; try omega) _ | with_reducible refine Below.alloc ?_ (by simp; try omega) _))
    · skip
      cases c2 : isFin .f32 o
      · skip
        clear hk2
        go_enter Try.func40, Try.ntmps40
        go_wp2_with (first | (go_at_call 77; refine (three_any _ _ _ X _ (by exact hX) hn true HB).mono ?_; rintro e w' ⟨rfl, q, rfl⟩) | (first | (go_at_call 58; refine (l01Finite_any _ _).mono ?_; rintro e w' ⟨rfl, q, rfl⟩) | (go_at_call 54; refine (l02Least_any _ _).mono ?_; rintro e w' ⟨rfl, q, rfl⟩) | (go_at_call 59; refine (l00In_any _ _ _ _).mono ?_; rintro e w' ⟨rfl, rfl⟩)) | go_in)
        go_ret2
        refine OutRet.no ?_
        (repeat (first | with_reducible exact Below.refl _ _ | with_reducible refine Below.drewN ?_ _ | with_reducible refine Below.setCell ?_ (by simp; try omega) _ | with_reducible refine Below.alloc ?_ (by simp; try omega) _))
      · skip
        cases c3 : isG p
        · skip
          clear hk2
          go_enter Try.func40, Try.ntmps40
          go_wp2_with (first | (go_at_call 77; refine (three_any _ _ _ X _ (by exact hX) hn true HB).mono ?_; rintro e w' ⟨rfl, q, rfl⟩) | (first | (go_at_call 58; refine (l01Finite_any _ _).mono ?_; rintro e w' ⟨rfl, q, rfl⟩) | (go_at_call 54; refine (l02Least_any _ _).mono ?_; rintro e w' ⟨rfl, q, rfl⟩) | (go_at_call 59; refine (l00In_any _ _ _ _).mono ?_; rintro e w' ⟨rfl, rfl⟩)) | go_in)
          go_ret2
          refine OutRet.no ?_
          (repeat (first | with_reducible exact Below.refl _ _ | with_reducible refine Below.drewN ?_ _ | with_reducible refine Below.setCell ?_ (by simp; try omega) _ | with_reducible refine Below.alloc ?_ (by simp; try omega) _))
        · skip
          cases c4 : isG d
          · skip
            clear hk2
            go_enter Try.func40, Try.ntmps40
            go_wp2_with (first | (go_at_call 77; refine (three_any _ _ _ X _ (by exact hX) hn true HB).mono ?_; rintro e w' ⟨rfl, q, rfl⟩) | (first | (go_at_call 58; refine (l01Finite_any _ _).mono ?_; rintro e w' ⟨rfl, q, rfl⟩) | (go_at_call 54; refine (l02Least_any _ _).mono ?_; rintro e w' ⟨rfl, q, rfl⟩) | (go_at_call 59; refine (l00In_any _ _ _ _).mono ?_; rintro e w' ⟨rfl, rfl⟩)) | go_in)
            go_ret2
            refine OutRet.no ?_
            (repeat (first | with_reducible exact Below.refl _ _ | with_reducible refine Below.drewN ?_ _ | with_reducible refine Below.setCell ?_ (by simp; try omega) _ | with_reducible refine Below.alloc ?_ (by simp; try omega) _))
          · skip
            cases c5 : isG h
            · skip
              clear hk2
              go_enter Try.func40, Try.ntmps40
              go_wp2_with (first | (go_at_call 77; refine (three_any _ _ _ X _ (by exact hX) hn true HB).mono ?_; rintro e w' ⟨rfl, q, rfl⟩) | (first | (go_at_call 58; refine (l01Finite_any _ _).mono ?_; rintro e w' ⟨rfl, q, rfl⟩) | (go_at_call 54; refine (l02Least_any _ _).mono ?_; rintro e w' ⟨rfl, q, rfl⟩) | (go_at_call 59; refine (l00In_any _ _ _ _).mono ?_; rintro e w' ⟨rfl, rfl⟩)) | go_in)
              go_ret2
              refine OutRet.no ?_
              (repeat (first | with_reducible exact Below.refl _ _ | with_reducible refine Below.drewN ?_ _ | with_reducible refine Below.setCell ?_ (by simp; try omega) _ | with_reducible refine Below.alloc ?_ (by simp; try omega) _))
            · skip
              cases c6 : inB T 0 512
              · skip
                clear hk2
                go_enter Try.func40, Try.ntmps40
                go_wp2_with (first | (go_at_call 77; refine (three_any _ _ _ X _ (by exact hX) hn true HB).mono ?_; rintro e w' ⟨rfl, q, rfl⟩) | (first | (go_at_call 58; refine (l01Finite_any _ _).mono ?_; rintro e w' ⟨rfl, q, rfl⟩) | (go_at_call 54; refine (l02Least_any _ _).mono ?_; rintro e w' ⟨rfl, q, rfl⟩) | (go_at_call 59; refine (l00In_any _ _ _ _).mono ?_; rintro e w' ⟨rfl, rfl⟩)) | go_in)
                go_ret2
                refine OutRet.no ?_
                (repeat (first | with_reducible exact Below.refl _ _ | with_reducible refine Below.drewN ?_ _ | with_reducible refine Below.setCell ?_ (by simp; try omega) _ | with_reducible refine Below.alloc ?_ (by simp; try omega) _))
              · skip
                rw [c1, c2, c3, c4, c5, c6] at hk2
                cases hk2
theorem okDst_at {n : Nat} {X : Nat → Nat} {r o p d h : Nat} {T : Int} (hk : okDst n X r o p d h T = true) : n = 3 ∧ isFin .f32 r = true ∧ isFin .f32 o = true ∧ isG p = true ∧ isG d = true ∧ finL X n = true ∧ isG h = true ∧ inB T 0 512 = true := by
  simp only [okDst, Bool.and_eq_true, decide_eq_true_eq] at hk
  obtain ⟨⟨⟨h1, h2, h3⟩, h4, h5⟩, ⟨h6, h7⟩, h8⟩ := hk
  exact ⟨h1, h2, h3, h4, h5, h6, h7, h8⟩
end Go.Proofs.Ytebelikahpnobaa
