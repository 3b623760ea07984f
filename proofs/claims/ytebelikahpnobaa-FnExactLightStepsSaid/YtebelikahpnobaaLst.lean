/- For all numbers and steps the program tells the light behind the steps just where the model does, and the same: for all arguments. -/
import Derived.Test.YtebelikahpnobaaSame
import Derived.Test.YtebelikahpnobaaStM
import Derived.Test.YtebelikahpnobaaSto
namespace Go.Proofs.Ytebelikahpnobaa
open Go Go.ChangeShapes Go.WideShapes Go.ChangeAt Go.RowKit

/-- Two numbers and a bool, behind what a call has drawn and laid. -/
def TwoN (A B : Nat) (ok : Bool) (w : World) (e : Ending) (w' : World) : Prop := ∃ s t, e = .returned (.tuple #[.float .f32 (pick .f32 A s), .float .f32 (pick .f32 B t), .bool ok]) ∧ Below w.heap.size w w'
theorem TwoN.no {A B : Nat} {ok : Bool} {w w' : World} (hA : Hid (A = 0)) (hB : Hid (B = 0)) (ho : Hid (ok = false)) (hb : Below w.heap.size w w') : TwoN A B ok w (.returned (.tuple #[.float .f32 0, .float .f32 0, .bool false])) w' := by
  rw [hA.out, hB.out, ho.out]
  exact ⟨0, 0, by rw [pick_nul], hb⟩
theorem TwoN.yes {A B s t : Nat} {ok : Bool} {w w' : World} (ho : Hid (ok = true)) (hb : Below w.heap.size w w') : TwoN A B ok w (.returned (.tuple #[.float .f32 (pick .f32 A s), .float .f32 (pick .f32 B t), .bool true])) w' := by
  rw [ho.out]
  exact ⟨s, t, rfl, hb⟩
def okLst (up li pu lo ga sp h : Nat) (T : Int) : Bool := isFin .f32 up && isFin .f32 li && isG pu && isP lo && isP ga && isG sp && isG h && inB T 0 512
theorem okLst_at {up li pu lo ga sp h : Nat} {T : Int} (hk : okLst up li pu lo ga sp h T = true) : isFin .f32 up = true ∧ isFin .f32 li = true ∧ isG pu = true ∧ isP lo = true ∧ isP ga = true ∧ isG sp = true ∧ isG h = true ∧ inB T 0 512 = true := by
  simp only [okLst, Bool.and_eq_true] at hk
  obtain ⟨⟨⟨⟨⟨⟨⟨h1, h2⟩, h3⟩, h4⟩, h5⟩, h6⟩, h7⟩, h8⟩ := hk
  exact ⟨h1, h2, h3, h4, h5, h6, h7, h8⟩
set_option maxRecDepth 100000 in
set_option maxHeartbeats 3200000 in
theorem specLst_no (up li pu lo ga sp h : Nat) (T : Int) (w : World) (A B : Nat) (ok : Bool) (hA : Hid (A = 0)) (hB : Hid (B = 0)) (ho : Hid (ok = false)) (hk : okLst up li pu lo ga sp h T = false) :
    Calls Try.prog 38 #[.float .f32 up, .float .f32 li, .float .f32 pu, .float .f32 lo, .float .f32 ga, .float .f32 sp, .float .f32 h, .int .i64 T] w (TwoN A B ok w) := by
  cases c1 : isFin .f32 up
  · skip
    clear hk
    go_enter Try.func38, Try.ntmps38
    go_wp2_with (first | (first | (go_at_call 58; refine (l01Finite_any _ _).mono ?_; rintro e w' ⟨rfl, q, rfl⟩) | (go_at_call 54; refine (l02Least_any _ _).mono ?_; rintro e w' ⟨rfl, q, rfl⟩) | (go_at_call 50; refine (l02Above_any _ _).mono ?_; rintro e w' ⟨rfl, q, rfl⟩) | (go_at_call 59; refine (l00In_any _ _ _ _).mono ?_; rintro e w' ⟨rfl, rfl⟩)) | go_in)
    go_ret3
    refine TwoN.no hA hB ho ?_
    (repeat (first | with_reducible exact Below.refl _ _ | with_reducible refine Below.drewN ?_ _ | with_reducible refine Below.setCell ?_ (by simp; try omega) _ | with_reducible refine Below.alloc ?_ (by simp; try omega) _))
  · skip
    cases c2 : isFin .f32 li
    · skip
      clear hk
      go_enter Try.func38, Try.ntmps38
      go_wp2_with (first | (first | (go_at_call 58; refine (l01Finite_any _ _).mono ?_; rintro e w' ⟨rfl, q, rfl⟩) | (go_at_call 54; refine (l02Least_any _ _).mono ?_; rintro e w' ⟨rfl, q, rfl⟩) | (go_at_call 50; refine (l02Above_any _ _).mono ?_; rintro e w' ⟨rfl, q, rfl⟩) | (go_at_call 59; refine (l00In_any _ _ _ _).mono ?_; rintro e w' ⟨rfl, rfl⟩)) | go_in)
      go_ret3
      refine TwoN.no hA hB ho ?_
      (repeat (first | with_reducible exact Below.refl _ _ | with_reducible refine Below.drewN ?_ _ | with_reducible refine Below.setCell ?_ (by simp; try omega) _ | with_reducible refine Below.alloc ?_ (by simp; try omega) _))
    · skip
      cases c3 : isG pu
      · skip
        clear hk
        go_enter Try.func38, Try.ntmps38
        go_wp2_with (first | (first | (go_at_call 58; refine (l01Finite_any _ _).mono ?_; rintro e w' ⟨rfl, q, rfl⟩) | (go_at_call 54; refine (l02Least_any _ _).mono ?_; rintro e w' ⟨rfl, q, rfl⟩) | (go_at_call 50; refine (l02Above_any _ _).mono ?_; rintro e w' ⟨rfl, q, rfl⟩) | (go_at_call 59; refine (l00In_any _ _ _ _).mono ?_; rintro e w' ⟨rfl, rfl⟩)) | go_in)
        go_ret3
        refine TwoN.no hA hB ho ?_
        (repeat (first | with_reducible exact Below.refl _ _ | with_reducible refine Below.drewN ?_ _ | with_reducible refine Below.setCell ?_ (by simp; try omega) _ | with_reducible refine Below.alloc ?_ (by simp; try omega) _))
      · skip
        cases c4 : isP lo
        · skip
          clear hk
          go_enter Try.func38, Try.ntmps38
          go_wp2_with (first | (first | (go_at_call 58; refine (l01Finite_any _ _).mono ?_; rintro e w' ⟨rfl, q, rfl⟩) | (go_at_call 54; refine (l02Least_any _ _).mono ?_; rintro e w' ⟨rfl, q, rfl⟩) | (go_at_call 50; refine (l02Above_any _ _).mono ?_; rintro e w' ⟨rfl, q, rfl⟩) | (go_at_call 59; refine (l00In_any _ _ _ _).mono ?_; rintro e w' ⟨rfl, rfl⟩)) | go_in)
          go_ret3
          refine TwoN.no hA hB ho ?_
          (repeat (first | with_reducible exact Below.refl _ _ | with_reducible refine Below.drewN ?_ _ | with_reducible refine Below.setCell ?_ (by simp; try omega) _ | with_reducible refine Below.alloc ?_ (by simp; try omega) _))
        · skip
          cases c5 : isP ga
          · skip
            clear hk
            go_enter Try.func38, Try.ntmps38
            go_wp2_with (first | (first | (go_at_call 58; refine (l01Finite_any _ _).mono ?_; rintro e w' ⟨rfl, q, rfl⟩) | (go_at_call 54; refine (l02Least_any _ _).mono ?_; rintro e w' ⟨rfl, q, rfl⟩) | (go_at_call 50; refine (l02Above_any _ _).mono ?_; rintro e w' ⟨rfl, q, rfl⟩) | (go_at_call 59; refine (l00In_any _ _ _ _).mono ?_; rintro e w' ⟨rfl, rfl⟩)) | go_in)
            go_ret3
            refine TwoN.no hA hB ho ?_
            (repeat (first | with_reducible exact Below.refl _ _ | with_reducible refine Below.drewN ?_ _ | with_reducible refine Below.setCell ?_ (by simp; try omega) _ | with_reducible refine Below.alloc ?_ (by simp; try omega) _))
          · skip
            cases c6 : isG sp
            · skip
              clear hk
              go_enter Try.func38, Try.ntmps38
              go_wp2_with (first | (first | (go_at_call 58; refine (l01Finite_any _ _).mono ?_; rintro e w' ⟨rfl, q, rfl⟩) | (go_at_call 54; refine (l02Least_any _ _).mono ?_; rintro e w' ⟨rfl, q, rfl⟩) | (go_at_call 50; refine (l02Above_any _ _).mono ?_; rintro e w' ⟨rfl, q, rfl⟩) | (go_at_call 59; refine (l00In_any _ _ _ _).mono ?_; rintro e w' ⟨rfl, rfl⟩)) | go_in)
              go_ret3
              refine TwoN.no hA hB ho ?_
              (repeat (first | with_reducible exact Below.refl _ _ | with_reducible refine Below.drewN ?_ _ | with_reducible refine Below.setCell ?_ (by simp; try omega) _ | with_reducible refine Below.alloc ?_ (by simp; try omega) _))
            · skip
              cases c7 : isG h
              · skip
                clear hk
                go_enter Try.func38, Try.ntmps38
                go_wp2_with (first | (first | (go_at_call 58; refine (l01Finite_any _ _).mono ?_; rintro e w' ⟨rfl, q, rfl⟩) | (go_at_call 54; refine (l02Least_any _ _).mono ?_; rintro e w' ⟨rfl, q, rfl⟩) | (go_at_call 50; refine (l02Above_any _ _).mono ?_; rintro e w' ⟨rfl, q, rfl⟩) | (go_at_call 59; refine (l00In_any _ _ _ _).mono ?_; rintro e w' ⟨rfl, rfl⟩)) | go_in)
                go_ret3
                refine TwoN.no hA hB ho ?_
                (repeat (first | with_reducible exact Below.refl _ _ | with_reducible refine Below.drewN ?_ _ | with_reducible refine Below.setCell ?_ (by simp; try omega) _ | with_reducible refine Below.alloc ?_ (by simp; try omega) _))
              · skip
                cases c8 : inB T 0 512
                · skip
                  clear hk
                  go_enter Try.func38, Try.ntmps38
                  go_wp2_with (first | (first | (go_at_call 58; refine (l01Finite_any _ _).mono ?_; rintro e w' ⟨rfl, q, rfl⟩) | (go_at_call 54; refine (l02Least_any _ _).mono ?_; rintro e w' ⟨rfl, q, rfl⟩) | (go_at_call 50; refine (l02Above_any _ _).mono ?_; rintro e w' ⟨rfl, q, rfl⟩) | (go_at_call 59; refine (l00In_any _ _ _ _).mono ?_; rintro e w' ⟨rfl, rfl⟩)) | go_in)
                  go_ret3
                  refine TwoN.no hA hB ho ?_
                  (repeat (first | with_reducible exact Below.refl _ _ | with_reducible refine Below.drewN ?_ _ | with_reducible refine Below.setCell ?_ (by simp; try omega) _ | with_reducible refine Below.alloc ?_ (by simp; try omega) _))
                · skip
                  exfalso
                  simp [okLst, *] at hk
set_option maxRecDepth 100000 in
set_option maxHeartbeats 6400000 in
theorem specLst_yes (up li pu lo ga sp h : Nat) (T : Nat) (w : World) (A B : Nat) (ok : Bool) (hk : okLst up li pu lo ga sp h (T : Int) = true) (G : Nat → Nat → Nat) (hG : G = stepR (lampG pu lo ga sp) h (duo up li))
    (ho : Hid (ok = (isFin .f32 (G T 0) && isFin .f32 (G T 1)))) (hA : Hid (A = if ok = true then G T 0 else 0)) (hB : Hid (B = if ok = true then G T 1 else 0)) :
    Calls Try.prog 38 #[.float .f32 up, .float .f32 li, .float .f32 pu, .float .f32 lo, .float .f32 ga, .float .f32 sp, .float .f32 h, .int .i64 (T : Int)] w (TwoN A B ok w) := by
  obtain ⟨h1, h2, h3, h4, h5, h6, h7, h8⟩ := okLst_at hk
  have hTb : T ≤ 512 := by have := inB_rng h8; omega
  have n1 := num_fin h1
  have n2 := num_fin h2
  have H0 := Lib.hid (show Value.float .f32 up = .float .f32 (pick .f32 (G 0 0) 0) ∧ Value.float .f32 li = .float .f32 (pick .f32 (G 0 1) 0) by
    rw [hG]; exact ⟨by rw [show stepR (lampG pu lo ga sp) h (duo up li) 0 0 = up from rfl, pick_num n1], by rw [show stepR (lampG pu lo ga sp) h (duo up li) 0 1 = li from rfl, pick_num n2]⟩)
  have HG := Lib.hid hG
  clear hk n1 n2 hG
  have hp := fun op => fbin_pick_l op .f32
  have hq := fun op => fbin_pick_r op .f32
  go_enter Try.func38, Try.ntmps38
  go_wp2_with (first | (first | (go_at_call 58; refine (l01Finite_any _ _).mono ?_; rintro e w' ⟨rfl, q, rfl⟩) | (go_at_call 54; refine (l02Least_any _ _).mono ?_; rintro e w' ⟨rfl, q, rfl⟩) | (go_at_call 50; refine (l02Above_any _ _).mono ?_; rintro e w' ⟨rfl, q, rfl⟩) | (go_at_call 59; refine (l00In_any _ _ _ _).mono ?_; rintro e w' ⟨rfl, rfl⟩)) | go_in)
  clear h1 h2 h3 h4 h5 h6 h7 h8
  go_loopw [0, 1, 19] (fun u l i wr => ∃ t m s1 s2 : Nat, t ≤ T ∧ i = .int .i64 (t : Int) ∧ u = .float .f32 (pick .f32 (G t 0) s1) ∧ l = .float .f32 (pick .f32 (G t 1) s2) ∧ wr = w.drewN m) (fun _ _ i _ => T - (intOf i).toNat)
  case atStart => exact ⟨0, _, 0, 0, Nat.zero_le _, rfl, H0.out.1, H0.out.2, rfl⟩
  case round =>
    obtain ⟨t, m, s1, s2, ht, rfl, rfl, rfl, rfl⟩ := hrel
    by_cases hlt : t < T
    · obtain ⟨U, hU⟩ : ∃ U, U = G t 0 := ⟨_, rfl⟩
      obtain ⟨V, hV⟩ : ∃ V, V = G t 1 := ⟨_, rfl⟩
      have e0 : G (t + 1) 0 = fbin .add .f32 U (fbin .mul .f32 h (fbin .sub .f32 (fbin .sub .f32 pu U) (fbin .mul .f32 (fbin .mul .f32 ga U) V))) := by rw [hU, hV, HG.out]; rfl
      have e1 : G (t + 1) 1 = fbin .add .f32 V (fbin .mul .f32 h (fbin .add .f32 (fbin .mul .f32 (fbin .sub .f32 (fbin .mul .f32 ga U) lo) V) (fbin .mul .f32 sp U))) := by rw [hU, hV, HG.out]; rfl
      have E0 := Lib.hid e0
      have E1 := Lib.hid e1
      rw [← hU, ← hV]
      clear e0 e1 hU hV
      go_wp2_with ((with_reducible refine wpL_fbin ?_); refine ⟨_, _, _, rfl, rfl, rfl, fun s n => ?_⟩)
      refine ⟨⟨_, _, _, _, _, _, _, _, _, _, _, _, _, _, _, _, _, _, _, _, _, _, _, _, _, _, _, _, _, _, _, _, _, _, _, _, _, _, _, _, ?rel, rfl⟩, ?measure⟩
      case rel => exact ⟨t + 1, _, _, _, by omega, by go_num, by rw [E0.out], by rw [E1.out], rfl⟩
      case measure => simp [intOf]; omega
    · have htT : t = T := by omega
      subst htT
      cases f1 : isFin .f32 (pick .f32 (G t 0) s1)
      · have g1 : isFin .f32 (G t 0) = false := by rw [← isFin_pick .f32 (G t 0) s1, f1]
        have HO := Lib.hid (show ok = false by rw [ho.out, g1, Bool.false_and])
        have HA := Lib.hid (show A = 0 by rw [hA.out, HO.out, if_neg (by simp)])
        have HB := Lib.hid (show B = 0 by rw [hB.out, HO.out, if_neg (by simp)])
        clear g1
        go_wp2_with (first | (go_at_call 58; refine (l01Finite_any _ _).mono ?_; rintro e w' ⟨rfl, q, rfl⟩))
        go_ret3
        refine TwoN.no HA HB HO ?_
        (repeat (first | with_reducible exact Below.refl _ _ | with_reducible refine Below.drewN ?_ _ | with_reducible refine Below.setCell ?_ (by simp; try omega) _ | with_reducible refine Below.alloc ?_ (by simp; try omega) _))
      · cases f2 : isFin .f32 (pick .f32 (G t 1) s2)
        · have g2 : isFin .f32 (G t 1) = false := by rw [← isFin_pick .f32 (G t 1) s2, f2]
          have HO := Lib.hid (show ok = false by rw [ho.out, g2, Bool.and_false])
          have HA := Lib.hid (show A = 0 by rw [hA.out, HO.out, if_neg (by simp)])
          have HB := Lib.hid (show B = 0 by rw [hB.out, HO.out, if_neg (by simp)])
          clear g2
          go_wp2_with (first | (go_at_call 58; refine (l01Finite_any _ _).mono ?_; rintro e w' ⟨rfl, q, rfl⟩))
          go_ret3
          refine TwoN.no HA HB HO ?_
          (repeat (first | with_reducible exact Below.refl _ _ | with_reducible refine Below.drewN ?_ _ | with_reducible refine Below.setCell ?_ (by simp; try omega) _ | with_reducible refine Below.alloc ?_ (by simp; try omega) _))
        · have g1 : isFin .f32 (G t 0) = true := by rw [← isFin_pick .f32 (G t 0) s1, f1]
          have g2 : isFin .f32 (G t 1) = true := by rw [← isFin_pick .f32 (G t 1) s2, f2]
          have HO := Lib.hid (show ok = true by rw [ho.out, g1, g2]; rfl)
          have HA := Lib.hid (show G t 0 = A by rw [hA.out, HO.out, if_pos rfl])
          have HB := Lib.hid (show G t 1 = B by rw [hB.out, HO.out, if_pos rfl])
          clear g1 g2
          rw [HA.out] at f1 ⊢
          rw [HB.out] at f2 ⊢
          go_wp2_with (first | (go_at_call 58; refine (l01Finite_any _ _).mono ?_; rintro e w' ⟨rfl, q, rfl⟩))
          go_ret3
          refine TwoN.yes HO ?_
          (repeat (first | with_reducible exact Below.refl _ _ | with_reducible refine Below.drewN ?_ _ | with_reducible refine Below.setCell ?_ (by simp; try omega) _ | with_reducible refine Below.alloc ?_ (by simp; try omega) _))
end Go.Proofs.Ytebelikahpnobaa
