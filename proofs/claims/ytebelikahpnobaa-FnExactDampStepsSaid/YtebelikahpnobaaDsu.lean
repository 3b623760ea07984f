/- A damped vector behind steps that are valid, as the model tells it. -/
import Derived.Test.YtebelikahpnobaaDst
namespace Go.Proofs.Ytebelikahpnobaa
open Go Go.ChangeShapes Go.WideShapes Go.ChangeAt Go.RowKit

set_option maxRecDepth 100000 in
set_option maxHeartbeats 12800000 in
theorem specDst_yes (xa : Option Addr) (cap : Nat) (X : Nat → Nat) (r o p d h : Nat) (T : Nat) (w : World) (hX : Rd w xa 3 X) (hk : okDst 3 X r o p d h (T : Int) = true) (G : Nat → Nat → Nat) (hG : G = stepR (dampG r o p d) h X) :
    Calls Try.prog 40 #[.slice xa 3 cap, .float .f32 r, .float .f32 o, .float .f32 p, .float .f32 d, .float .f32 h, .int .i64 (T : Int)] w (LevRet (G T) 3 w) := by
  obtain ⟨_, h2, h3, h4, h5, h6, h7, h8⟩ := okDst_at hk
  have hTb : T ≤ 512 := by have := inB_rng h8; omega
  have n0 := num_fin (finL_at h6 0 (by omega))
  have n1 := num_fin (finL_at h6 1 (by omega))
  have n2 := num_fin (finL_at h6 2 (by omega))
  have HB := Lib.hid (show true = (decide ((3 : Nat) = 3) && finL X 3) by rw [h6]; rfl)
  have HX := hX
  obtain ⟨xb, xo, hxa, hcx⟩ := hX
  have e := hxa (by omega)
  subst e
  have r0 := hcx 0 (by omega)
  have r1 := hcx 1 (by omega)
  have r2 := hcx 2 (by omega)
  rw [Nat.add_zero] at r0
  have e0 : X 0 = pick .f32 (G 0 0) 0 := by rw [hG, show stepR (dampG r o p d) h X 0 0 = X 0 from rfl, pick_num n0]
  have e1 : X 1 = pick .f32 (G 0 1) 0 := by rw [hG, show stepR (dampG r o p d) h X 0 1 = X 1 from rfl, pick_num n1]
  have e2 : X 2 = pick .f32 (G 0 2) 0 := by rw [hG, show stepR (dampG r o p d) h X 0 2 = X 2 from rfl, pick_num n2]
  rw [e0] at r0
  rw [e1] at r1
  rw [e2] at r2
  have HG := Lib.hid hG
  clear hk n0 n1 n2 hG h6 e0 e1 e2 hcx hxa
  have hp := fun op => fbin_pick_l op .f32
  have hq := fun op => fbin_pick_r op .f32
  go_enter Try.func40, Try.ntmps40
  go_wp2_with (first | (go_at_call 77; refine (three_any _ _ _ X _ (by exact HX) (by omega) true HB).mono ?_; rintro e w' ⟨rfl, q, rfl⟩) | (first | (go_at_call 58; refine (l01Finite_any _ _).mono ?_; rintro e w' ⟨rfl, q, rfl⟩) | (go_at_call 54; refine (l02Least_any _ _).mono ?_; rintro e w' ⟨rfl, q, rfl⟩) | (go_at_call 59; refine (l00In_any _ _ _ _).mono ?_; rintro e w' ⟨rfl, rfl⟩)) | go_in)
  clear h2 h3 h4 h5 h7 h8 HX r0 r1 r2
  go_loopw [16, 17, 18, 19] (fun x y z i wr => ∃ t m s0 s1 s2 : Nat, t ≤ T ∧ i = .int .i64 (t : Int) ∧ x = .float .f32 (pick .f32 (G t 0) s0) ∧ y = .float .f32 (pick .f32 (G t 1) s1) ∧ z = .float .f32 (pick .f32 (G t 2) s2) ∧ wr = w.drewN m) (fun _ _ _ i _ => T - (intOf i).toNat)
  case atStart => exact ⟨0, _, 0, 0, 0, Nat.zero_le _, rfl, rfl, rfl, rfl, rfl⟩
  case round =>
    obtain ⟨t, m, s0, s1, s2, ht, rfl, rfl, rfl, rfl, rfl⟩ := hrel
    by_cases hlt : t < T
    · obtain ⟨U, hU⟩ : ∃ U, U = G t 0 := ⟨_, rfl⟩
      obtain ⟨V, hV⟩ : ∃ V, V = G t 1 := ⟨_, rfl⟩
      obtain ⟨Z, hZ⟩ : ∃ Z, Z = G t 2 := ⟨_, rfl⟩
      have e0 : G (t + 1) 0 = fbin .add .f32 U (fbin .mul .f32 h (fbin .sub .f32 (fbin .sub .f32 0 (fbin .mul .f32 d U)) (fbin .mul .f32 o V))) := by rw [hU, hV, HG.out]; rfl
      have e1 : G (t + 1) 1 = fbin .add .f32 V (fbin .mul .f32 h (fbin .sub .f32 (fbin .sub .f32 (fbin .mul .f32 o U) (fbin .mul .f32 d V)) (fbin .mul .f32 r Z))) := by rw [hU, hV, hZ, HG.out]; rfl
      have e2 : G (t + 1) 2 = fbin .add .f32 Z (fbin .mul .f32 h (fbin .add .f32 (fbin .mul .f32 r V) (fbin .mul .f32 p (fbin .sub .f32 1065353216 Z)))) := by rw [hV, hZ, HG.out]; rfl
      have E0 := Lib.hid e0
      have E1 := Lib.hid e1
      have E2 := Lib.hid e2
      rw [← hU, ← hV, ← hZ]
      clear e0 e1 e2 hU hV hZ
      go_wp2_with ((with_reducible refine wpL_fbin ?_); refine ⟨_, _, _, rfl, rfl, rfl, fun s n => ?_⟩)
      refine ⟨⟨_, _, _, _, _, _, _, _, _, _, _, _, _, _, _, _, _, _, _, _, _, _, _, _, _, _, _, _, _, _, _, _, _, _, _, _, _, _, _, _, _, _, _, _, _, _, _, _, _, _, _, _, _, _, ?rel, rfl⟩, ?measure⟩
      case rel => exact ⟨t + 1, _, _, _, _, by omega, by go_num, by rw [E0.out], by rw [E1.out], by rw [E2.out], rfl⟩
      case measure => simp [intOf]; omega
    · have htT : t = T := by omega
      subst htT
      clear hlt ht
      obtain ⟨A, hA⟩ : ∃ A, A = pick .f32 (G t 0) s0 := ⟨_, rfl⟩
      obtain ⟨B, hB⟩ : ∃ B, B = pick .f32 (G t 1) s1 := ⟨_, rfl⟩
      obtain ⟨C, hC⟩ : ∃ C, C = pick .f32 (G t 2) s2 := ⟨_, rfl⟩
      have HL : Like (tri A B C) (G t) 3 := by rw [hA, hB, hC]; exact (like3 rfl rfl rfl).like
      rw [← hA, ← hB, ← hC]
      clear hA hB hC
      cases hf : finL (tri A B C) 3
      · go_wp2_with (go_at_call 60; refine (l02List_any _ w.heap.size 3 (tri A B C) _ (by exact made3 _ (by simp) (by simp) _ _ _) (by omega)).mono ?_; rw [hf]; rintro e w' ⟨rfl, q, rfl⟩)
        go_ret2
        refine levRet_no hf HL ?_
        (repeat (first | with_reducible exact Below.refl _ _ | with_reducible refine Below.drewN ?_ _ | with_reducible refine Below.setCell ?_ (by simp; try omega) _ | with_reducible refine Below.alloc ?_ (by simp; try omega) _))
      · go_wp2_with (go_at_call 60; refine (l02List_any _ w.heap.size 3 (tri A B C) _ (by exact made3 _ (by simp) (by simp) _ _ _) (by omega)).mono ?_; rw [hf]; rintro e w' ⟨rfl, q, rfl⟩)
        go_ret2
        refine levRet_yes hf HL (made3 _ (by simp) (by simp) _ _ _) ?_
        (repeat (first | with_reducible exact Below.refl _ _ | with_reducible refine Below.drewN ?_ _ | with_reducible refine Below.setCell ?_ (by simp; try omega) _ | with_reducible refine Below.alloc ?_ (by simp; try omega) _))
end Go.Proofs.Ytebelikahpnobaa
