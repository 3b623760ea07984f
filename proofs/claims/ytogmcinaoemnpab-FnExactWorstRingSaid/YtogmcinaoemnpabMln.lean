
/- The nearest one of a catalog: as the program tells it and as the model tells it. -/
import Derived.Test.YtogmcinaoemnpabMld
import Derived.Test.YtogmcinaoemnpabFinL
import Derived.Test.YtogmcinaoemnpabPush
import Derived.Test.YtogmcinaoemnpabGeA
namespace Go.Proofs.Ytogmcinaoemnpab
set_option linter.all false
open Go Go.ChangeShapes Go.WideShapes Go.ChangeAt Go.RowKit

set_option maxRecDepth 100000 in
set_option maxHeartbeats 800000 in
theorem distanceOf_any (a b : Nat) (fa : isFin .f32 a = true) (fb : isFin .f32 b = true) (w : World) :
    Calls Try.prog 68 #[.float .f32 a, .float .f32 b] w fun e w' => e = .returned (.float .f32 (dW a b)) ∧ w' = w := by
  have nab := nan_sub_l fa (num_fin fb)
  have nba := nan_sub_l fb (num_fin fa)
  have hmax := dist_max fa fb Try.prog
  obtain ⟨D, hD⟩ : ∃ D, D = dW a b := ⟨_, rfl⟩
  rw [← hD] at hmax ⊢
  obtain ⟨S, hS⟩ : ∃ S, fbin .sub .f32 a b = S := ⟨_, rfl⟩
  obtain ⟨T, hT⟩ : ∃ T, fbin .sub .f32 b a = T := ⟨_, rfl⟩
  rw [hS] at nab hmax
  rw [hT] at nba hmax
  have q1 := fun t => run_numop (op := .sub) rfl t _ _ _ hS nab
  have q2 := fun t => run_numop (op := .sub) rfl t _ _ _ hT nba
  clear hD hS hT nab nba fa fb
  go_enter Try.func68, Try.ntmps68
  go_wp2
  go_ret
  exact ⟨rfl, rfl⟩
def wideM (x : Nat) : Nat := if (FloatKind.f32.format.order x 0 == some .lt) = true then Op.negFloat .f32 x else x
set_option maxRecDepth 100000 in
set_option maxHeartbeats 800000 in
theorem wide_any (x : Nat) (w : World) : Calls Try.prog 63 #[.float .f32 x] w fun e w' => e = .returned (.float .f32 (wideM x)) ∧ w' = w := by
  obtain ⟨b, hb⟩ : ∃ b, b = (FloatKind.f32.format.order x 0 == some .lt) := ⟨_, rfl⟩
  have hb' := hb.symm
  have HW := Lib.hid (show wideM x = if b = true then Op.negFloat .f32 x else x by rw [hb]; rfl)
  clear hb
  cases b
  · go_enter Try.func63, Try.ntmps63
    go_wp2_with ((with_reducible refine wpL_fneg ?_); refine ⟨_, _, rfl, ?_⟩)
    go_ret
    exact ⟨by rw [HW.out]; rfl, rfl⟩
  · go_enter Try.func63, Try.ntmps63
    go_wp2_with ((with_reducible refine wpL_fneg ?_); refine ⟨_, _, rfl, ?_⟩)
    go_ret
    exact ⟨by rw [HW.out]; rfl, rfl⟩
theorem nrS_hit {D : Nat → Nat} {W k : Nat} {b : Int} {l d : Nat} (h : nrS D W k = (b, l)) (hd : D k = d) (h1 : fcmp .leq .f32 d W = true) (h2 : b < 0 ∨ fcmp .lss .f32 d l = true) : nrS D W (k + 1) = ((k : Int), d) := by
  show (if fcmp .leq .f32 (D k) W = true ∧ ((nrS D W k).1 < 0 ∨ fcmp .lss .f32 (D k) (nrS D W k).2 = true) then ((k : Int), D k) else nrS D W k) = _
  rw [h, hd, if_pos ⟨h1, h2⟩]
theorem nrS_miss1 {D : Nat → Nat} {W k : Nat} {b : Int} {l d : Nat} (h : nrS D W k = (b, l)) (hd : D k = d) (h1 : fcmp .leq .f32 d W = false) : nrS D W (k + 1) = (b, l) := by
  show (if fcmp .leq .f32 (D k) W = true ∧ ((nrS D W k).1 < 0 ∨ fcmp .lss .f32 (D k) (nrS D W k).2 = true) then ((k : Int), D k) else nrS D W k) = _
  rw [h, hd, if_neg]
  rintro ⟨h3, _⟩
  rw [h1] at h3; cases h3
theorem nrS_miss2 {D : Nat → Nat} {W k : Nat} {b : Int} {l d : Nat} (h : nrS D W k = (b, l)) (hd : D k = d) (h1 : ¬ b < 0) (h2 : fcmp .lss .f32 d l = false) : nrS D W (k + 1) = (b, l) := by
  show (if fcmp .leq .f32 (D k) W = true ∧ ((nrS D W k).1 < 0 ∨ fcmp .lss .f32 (D k) (nrS D W k).2 = true) then ((k : Int), D k) else nrS D W k) = _
  rw [h, hd, if_neg]
  rintro ⟨_, h3 | h3⟩
  · exact h1 h3
  · rw [h2] at h3; cases h3
set_option maxRecDepth 100000 in
set_option maxHeartbeats 3200000 in
theorem nearestOf_any (xa : Option Addr) (n cap : Nat) (C : Nat → Nat) (x W : Nat) (w : World) (hC : Rd w xa n C) (hn : n ≤ 1048576) (fx : isFin .f32 x = true) (fC : ∀ k, k < n → isFin .f32 (C k) = true) :
    Calls Try.prog 67 #[.slice xa n cap, .float .f32 x, .float .f32 W] w fun e w' => e = .returned (.int .i64 (nrS (fun k => dW x (C k)) W n).1) ∧ w' = w := by
  obtain ⟨xb, xo, hxa, hcx⟩ := hC
  have HX := Lib.hid hcx
  have HA := Lib.hid hxa
  have HF := Lib.hid fC
  have Hx := Lib.hid fx
  clear hcx hxa fC fx
  go_enter Try.func67, Try.ntmps67
  go_wp2
  go_loopw [7, 8, 14] (fun b l i wr => ∃ (k : Nat) (bb : Int) (ll : Nat), k ≤ n ∧ i = .int .i64 (k : Int) ∧ b = .int .i64 bb ∧ l = .float .f32 ll ∧ Hid (nrS (fun k => dW x (C k)) W k = (bb, ll)) ∧ wr = w) (fun _ _ i _ => n - (intOf i).toNat)
  case atStart => exact ⟨0, _, _, Nat.zero_le _, rfl, rfl, rfl, Lib.hid rfl, rfl⟩
  case round =>
    obtain ⟨k, bb, ll, hk, rfl, rfl, rfl, HN, rfl⟩ := hrel
    by_cases hlt : k < n
    · have e := HA.out (by omega)
      subst e
      have c1 := HX.out k hlt
      have hki : (k : Int) < (n : Int) := by omega
      have hb0 : -1 ≤ bb ∧ bb < (k : Int) := by have := nrS_ge (fun k => dW x (C k)) W k; rw [HN.out] at this; exact this
      obtain ⟨d, hd⟩ : ∃ d, d = dW x (C k) := ⟨_, rfl⟩
      have HD := Lib.hid (fun w => distanceOf_any x (C k) Hx.out (HF.out k hlt) w)
      rw [← hd] at HD
      have Hd := Lib.hid hd.symm
      clear hd
      cases h1 : fcmp .leq .f32 d W
      · have h1' : (FloatKind.f32.format.order d W == some .lt || FloatKind.f32.format.order d W == some .eq) = false := h1
        have HS := Lib.hid (nrS_miss1 HN.out Hd.out h1)
        clear h1
        go_wp2_with (go_at_call 68; refine (HD.out _).mono ?_; rintro e w' ⟨rfl, rfl⟩)
        go_roundw
        all_goals first | (simp [intOf]; omega) | exact ⟨k + 1, _, _, by omega, by go_num, rfl, rfl, Lib.hid HS.out, by first | rfl | trivial⟩
      · have h1' : (FloatKind.f32.format.order d W == some .lt || FloatKind.f32.format.order d W == some .eq) = true := h1
        by_cases h2 : bb < 0
        · have HS := Lib.hid (nrS_hit HN.out Hd.out h1 (.inl h2))
          clear h1
          go_wp2_with (go_at_call 68; refine (HD.out _).mono ?_; rintro e w' ⟨rfl, rfl⟩)
          go_roundw
          all_goals first | (simp [intOf]; omega) | exact ⟨k + 1, _, _, by omega, by go_num, rfl, rfl, Lib.hid HS.out, by first | rfl | trivial⟩
        · cases h3 : fcmp .lss .f32 d ll
          · have h3' : (FloatKind.f32.format.order d ll == some .lt) = false := h3
            have HS := Lib.hid (nrS_miss2 HN.out Hd.out h2 h3)
            clear h1 h3
            go_wp2_with (go_at_call 68; refine (HD.out _).mono ?_; rintro e w' ⟨rfl, rfl⟩)
            go_roundw
            all_goals first | (simp [intOf]; omega) | exact ⟨k + 1, _, _, by omega, by go_num, rfl, rfl, Lib.hid HS.out, by first | rfl | trivial⟩
          · have h3' : (FloatKind.f32.format.order d ll == some .lt) = true := h3
            have HS := Lib.hid (nrS_hit HN.out Hd.out h1 (.inr h3))
            clear h1 h3
            go_wp2_with (go_at_call 68; refine (HD.out _).mono ?_; rintro e w' ⟨rfl, rfl⟩)
            go_roundw
            all_goals first | (simp [intOf]; omega) | exact ⟨k + 1, _, _, by omega, by go_num, rfl, rfl, Lib.hid HS.out, by first | rfl | trivial⟩
    · obtain rfl : k = n := by omega
      have HR := Lib.hid (show (nrS (fun k => dW x (C k)) W k).1 = bb by rw [HN.out])
      go_wp2
      go_ret
      exact ⟨by rw [HR.out]; rfl, rfl⟩
set_option maxRecDepth 100000 in
set_option maxHeartbeats 3200000 in
theorem l05Near_any (xa : Option Addr) (n cap : Nat) (C : Nat → Nat) (x W : Nat) (w : World) (hC : Rd w xa n C) (hn : n ≤ 1048576) (fx : isFin .f32 x = true) (fC : ∀ k, k < n → isFin .f32 (C k) = true) :
    Calls Try.prog 65 #[.float .f32 x, .slice xa n cap, .float .f32 W] w fun e w' => e = .returned (.tuple #[.int .i64 (nrS (fun k => mW x (C k)) W n).1, .float .f32 (nrS (fun k => mW x (C k)) W n).2]) ∧ w' = w := by
  obtain ⟨xb, xo, hxa, hcx⟩ := hC
  have HX := Lib.hid hcx
  have HA := Lib.hid hxa
  have HF := Lib.hid fC
  have Hx := Lib.hid fx
  clear hcx hxa fC fx
  go_enter Try.func65, Try.ntmps65
  go_wp2
  go_loopw [8, 9, 14] (fun b l i wr => ∃ (k : Nat) (bb : Int) (ll : Nat), k ≤ n ∧ i = .int .i64 (k : Int) ∧ b = .int .i64 bb ∧ l = .float .f32 ll ∧ Hid (nrS (fun k => mW x (C k)) W k = (bb, ll)) ∧ wr = w) (fun _ _ i _ => n - (intOf i).toNat)
  case atStart => exact ⟨0, _, _, Nat.zero_le _, rfl, rfl, rfl, Lib.hid rfl, rfl⟩
  case round =>
    obtain ⟨k, bb, ll, hk, rfl, rfl, rfl, HN, rfl⟩ := hrel
    by_cases hlt : k < n
    · have e := HA.out (by omega)
      subst e
      have c1 := HX.out k hlt
      have hki : (k : Int) < (n : Int) := by omega
      have hb0 : -1 ≤ bb ∧ bb < (k : Int) := by have := nrS_ge (fun k => mW x (C k)) W k; rw [HN.out] at this; exact this
      obtain ⟨d, hd⟩ : ∃ d, d = mW x (C k) := ⟨_, rfl⟩
      obtain ⟨S, hS⟩ : ∃ S, fbin .sub .f32 x (C k) = S := ⟨_, rfl⟩
      have nS : isNaN .f32 S = false := by rw [← hS]; exact nan_sub_l Hx.out (num_fin (HF.out k hlt))
      have q1 := fun t => run_numop (op := .sub) rfl t _ _ _ hS nS
      have HD := Lib.hid (fun w => wide_any S w)
      rw [show wideM S = d by rw [hd, ← hS]; rfl] at HD
      have Hd := Lib.hid hd.symm
      clear hd hS nS
      cases h1 : fcmp .leq .f32 d W
      · have h1' : (FloatKind.f32.format.order d W == some .lt || FloatKind.f32.format.order d W == some .eq) = false := h1
        have HS := Lib.hid (nrS_miss1 HN.out Hd.out h1)
        clear h1
        go_wp2_with (go_at_call 63; refine (HD.out _).mono ?_; rintro e w' ⟨rfl, rfl⟩)
        go_roundw
        all_goals first | (simp [intOf]; omega) | exact ⟨k + 1, _, _, by omega, by go_num, rfl, rfl, Lib.hid HS.out, by first | rfl | trivial⟩
      · have h1' : (FloatKind.f32.format.order d W == some .lt || FloatKind.f32.format.order d W == some .eq) = true := h1
        by_cases h2 : bb < 0
        · have HS := Lib.hid (nrS_hit HN.out Hd.out h1 (.inl h2))
          clear h1
          go_wp2_with (go_at_call 63; refine (HD.out _).mono ?_; rintro e w' ⟨rfl, rfl⟩)
          go_roundw
          all_goals first | (simp [intOf]; omega) | exact ⟨k + 1, _, _, by omega, by go_num, rfl, rfl, Lib.hid HS.out, by first | rfl | trivial⟩
        · cases h3 : fcmp .lss .f32 d ll
          · have h3' : (FloatKind.f32.format.order d ll == some .lt) = false := h3
            have HS := Lib.hid (nrS_miss2 HN.out Hd.out h2 h3)
            clear h1 h3
            go_wp2_with (go_at_call 63; refine (HD.out _).mono ?_; rintro e w' ⟨rfl, rfl⟩)
            go_roundw
            all_goals first | (simp [intOf]; omega) | exact ⟨k + 1, _, _, by omega, by go_num, rfl, rfl, Lib.hid HS.out, by first | rfl | trivial⟩
          · have h3' : (FloatKind.f32.format.order d ll == some .lt) = true := h3
            have HS := Lib.hid (nrS_hit HN.out Hd.out h1 (.inr h3))
            clear h1 h3
            go_wp2_with (go_at_call 63; refine (HD.out _).mono ?_; rintro e w' ⟨rfl, rfl⟩)
            go_roundw
            all_goals first | (simp [intOf]; omega) | exact ⟨k + 1, _, _, by omega, by go_num, rfl, rfl, Lib.hid HS.out, by first | rfl | trivial⟩
    · obtain rfl : k = n := by omega
      have HR := Lib.hid (show (nrS (fun k => mW x (C k)) W k).1 = bb ∧ (nrS (fun k => mW x (C k)) W k).2 = ll by rw [HN.out]; exact ⟨rfl, rfl⟩)
      go_wp2
      go_ret2
      exact ⟨by rw [HR.out.1, HR.out.2]; rfl, rfl⟩
end Go.Proofs.Ytogmcinaoemnpab
