/- How high one line is at a place: as the model tells it. -/
import Derived.Test.YtchpnjihhncfmaaLpk
namespace Go.Proofs.Ytchpnjihhncfmaa
open Go Go.ChangeShapes Go.WideShapes Go.ChangeAt Go.RowKit

def FltP (R : Nat) (w : World) (e : Ending) (w' : World) : Prop := ∃ s m, e = .returned (.float .f32 (pick .f32 R s)) ∧ w' = w.drewN m
theorem quiet_q {P : Program} {f : FuncId} {args : Array Value} {w : World} {m n : Nat} {v : Value} (h : Calls P f args (w.drewN (m + n)) fun e w' => e = .returned v ∧ ∃ q, w' = (w.drewN (m + n)).drewN q) : Calls P f args (w.drewN (m + n)) fun e w'' => e = .returned v ∧ ∃ k, w'' = w.drewN (m + k) :=
  h.mono fun _ _ ⟨he, q, hq⟩ => ⟨he, n + q, by rw [hq, World.drewN_drewN, Nat.add_assoc]⟩
theorem negX_nan {x : Nat} (h : NegX x) : isNaN .f32 x = false := negX_num h
set_option maxRecDepth 100000 in
set_option maxHeartbeats 3200000 in
theorem l05At_any (g o : Nat) (l : Ln) (x : Nat) (w : World) (h : LnIn w g o l) (hl : okLn l = true) (hx : isFin .f32 x = true) (R : Nat) (hR : Hid (R = lnM l x)) :
    Calls Try.prog 149 #[.pointer (some ⟨g, o, none⟩), .float .f32 x] w (FltP R w) := by
  obtain ⟨n1, n2, n3, n4, n5, n6, n7⟩ := ln_facts hl hx
  obtain ⟨_, _, _, k0, k3⟩ := okLin_at hl
  obtain ⟨p, hh, d, k⟩ := l
  obtain ⟨c0, c1, c2, c3⟩ := h
  dsimp only at c0 c1 c2 c3 k0 k3
  obtain ⟨A, hA⟩ : ∃ A, fbin .sub .f32 x p = A := ⟨_, rfl⟩
  obtain ⟨U, hU⟩ : ∃ U, fbin .quo .f32 A d = U := ⟨_, rfl⟩
  obtain ⟨Q, hQ⟩ : ∃ Q, fbin .mul .f32 U U = Q := ⟨_, rfl⟩
  have eU : lnU ⟨p, hh, d, k⟩ x = U := by unfold lnU; rw [hA, hU]
  have eQ : lnQ ⟨p, hh, d, k⟩ x = Q := by unfold lnQ; rw [eU, hQ]
  rw [eQ] at n3 n4 n6
  rw [eU] at n2
  dsimp only at n1
  rw [hA] at n1
  have q1 := fun t => run_numop (op := .sub) rfl t _ _ _ hA n1
  have q2 := fun t => run_numop (op := .quo) rfl t _ _ _ hU n2
  have pQ := fun s => pick_num (s := s) n3
  have hUlt : U < 4294967296 := by rw [← hU]; exact fbin_lt _ _ _
  obtain ⟨N, hN⟩ : ∃ N, fbin .sub .f32 0 Q = N := ⟨_, rfl⟩
  rw [hN] at n4
  obtain ⟨E, hE⟩ : ∃ E, E = expF N := ⟨_, rfl⟩
  obtain ⟨B, hB⟩ : ∃ B, fbin .mul .f32 hh E = B := ⟨_, rfl⟩
  obtain ⟨J, hJ⟩ : ∃ J, fbin .add .f32 1065353216 Q = J := ⟨_, rfl⟩
  obtain ⟨H, hH⟩ : ∃ H, fbin .quo .f32 hh J = H := ⟨_, rfl⟩
  have eB : lnB ⟨p, hh, d, k⟩ x = B := by unfold lnB; rw [eQ, hN, ← hE, hB]
  have eH : lnH ⟨p, hh, d, k⟩ x = H := by unfold lnH; rw [eQ, hJ, hH]
  rw [eB] at n5
  rw [eH] at n7
  rw [hJ] at n6
  have q3 := fun t => run_numop (op := .sub) rfl t _ _ _ hN (negX_nan n4)
  have q4 := fun t => run_numop (op := .mul) rfl t _ _ _ hB n5
  have pJ := fun s => pick_num (s := s) n6
  have pH := fun s => pick_num (s := s) n7
  have HE := Lib.hid (show ∀ w, Calls Try.prog 188 #[.float .f32 N] w (fun e w' => e = .returned (.float .f32 E) ∧ ∃ n, w' = w.drewN n) from fun w => specExp_any N n4 E (Lib.hid hE) w)
  rcases (by omega : k = 0 ∨ k = 1 ∨ k = 2 ∨ k = 3) with rfl | rfl | rfl | rfl
  · have HR := Lib.hid (show ∀ m, FltP R w (.returned (.float .f32 B)) (w.drewN m) from fun m => ⟨0, m, by rw [hR.out, lnM, if_pos rfl, eB, pick_num n5], rfl⟩)
    clear n1 n2 n3 n4 n5 n6 n7 hA hU hN hE hB hJ hH eU eQ eB eH hR hUlt k0 k3 hl hx
    go_enter Try.func149, Try.ntmps149
    go_wp2_with fail
    go_quiet (fail)
    go_wp2_with ((with_reducible refine wpL_fbin ?_); refine ⟨_, _, _, rfl, rfl, rfl, fun s n => ?_⟩)
    go_quiet ((go_at_call 188; exact quiet_q (HE.out _)))
    go_wp2
    go_ret
    exact HR.out _
  · have HR := Lib.hid (show ∀ m, FltP R w (.returned (.float .f32 H)) (w.drewN m) from fun m => ⟨0, m, by rw [hR.out, lnM, if_neg (by simp), if_pos rfl, eH, pick_num n7], rfl⟩)
    clear n1 n2 n3 n4 n5 n6 n7 hA hU hN hE hB q3 q4 eU eQ eB eH hR hUlt k0 k3 hl hx
    go_enter Try.func149, Try.ntmps149
    go_wp2_with fail
    go_quiet (fail)
    go_wp2_with ((with_reducible refine wpL_fbin ?_); refine ⟨_, _, _, rfl, rfl, rfl, fun s n => ?_⟩)
    go_ret
    exact HR.out _
  · obtain ⟨S, hS⟩ : ∃ S, fbin .add .f32 B H = S := ⟨_, rfl⟩
    obtain ⟨T, hT⟩ : ∃ T, fbin .mul .f32 1056964608 S = T := ⟨_, rfl⟩
    have HR := Lib.hid (show ∀ s m, FltP R w (.returned (.float .f32 (pick .f32 T s))) (w.drewN m) from fun s m => ⟨s, m, by rw [hR.out, lnM, if_neg (by simp), if_neg (by simp), if_pos rfl, eB, eH, hS, hT], rfl⟩)
    have hp := fun op => fbin_pick_r op .f32
    clear n1 n2 n3 n4 n5 n6 n7 hA hU hN hE hB eU eQ eB eH hR hUlt k0 k3 hl hx
    go_enter Try.func149, Try.ntmps149
    go_wp2_with fail
    go_quiet (fail)
    go_wp2_with ((with_reducible refine wpL_fbin ?_); refine ⟨_, _, _, rfl, rfl, rfl, fun s n => ?_⟩)
    go_quiet ((go_at_call 188; exact quiet_q (HE.out _)))
    go_wp2_with ((with_reducible refine wpL_fbin ?_); refine ⟨_, _, _, rfl, rfl, rfl, fun s n => ?_⟩)
    go_ret
    exact HR.out _ _
  · obtain ⟨V, hV⟩ : ∃ V, V = if (FloatKind.f32.format.order U 0 == some .lt) = true then Op.negFloat .f32 U else U := ⟨_, rfl⟩
    have hRV : R = roofW hh V := by
      rw [hR.out, lnM, if_neg (by simp), if_neg (by simp), if_neg (by simp), lnR, eU, ← roof_model hUlt n2, ← hV]
    clear n1 n2 n3 n4 n5 n6 n7 hA hU hN hE hB hJ hH q3 q4 pJ pH HE eU eQ eB eH hR hUlt k0 k3 hl hx
    cases g : gtO V
    · have hg : (FloatKind.f32.format.order V 1065353216 == some .gt) = false := g
      have hp := fun op => fbin_pick_r op .f32
      obtain ⟨S, hS⟩ : ∃ S, fbin .sub .f32 1065353216 V = S := ⟨_, rfl⟩
      obtain ⟨T, hT⟩ : ∃ T, fbin .mul .f32 hh S = T := ⟨_, rfl⟩
      have HR := Lib.hid (show ∀ s m, FltP R w (.returned (.float .f32 (pick .f32 T s))) (w.drewN m) from fun s m => ⟨s, m, by rw [hRV, roofW, g, if_neg (by simp), hS, hT], rfl⟩)
      clear hRV g
      cases c : (FloatKind.f32.format.order U 0 == some .lt)
      · rw [c, if_neg (by simp)] at hV
        subst hV
        go_enter Try.func149, Try.ntmps149
        go_wp2_with fail
        go_quiet (fail)
        go_wp2_with ((with_reducible refine wpL_fbin ?_); refine ⟨_, _, _, rfl, rfl, rfl, fun s n => ?_⟩)
        go_ret
        exact HR.out _ _
      · rw [c, if_pos rfl] at hV
        have hV' := hV.symm
        clear hV
        go_enter Try.func149, Try.ntmps149
        go_wp2_with fail
        go_quiet (fail)
        go_wp2_with (first | ((with_reducible refine wpL_fbin ?_); refine ⟨_, _, _, rfl, rfl, rfl, fun s n => ?_⟩) | ((with_reducible refine wpL_fneg ?_); refine ⟨_, _, rfl, ?_⟩))
        go_ret
        exact HR.out _ _
    · have hg : (FloatKind.f32.format.order V 1065353216 == some .gt) = true := g
      have HR := Lib.hid (show ∀ m, FltP R w (.returned (.float .f32 0)) (w.drewN m) from fun m => ⟨0, m, by rw [hRV, roofW, g, if_pos rfl, pick_num (by decide +kernel)], rfl⟩)
      clear hRV g
      cases c : (FloatKind.f32.format.order U 0 == some .lt)
      · rw [c, if_neg (by simp)] at hV
        subst hV
        go_enter Try.func149, Try.ntmps149
        go_wp2_with fail
        go_quiet (fail)
        go_wp2_with ((with_reducible refine wpL_fbin ?_); refine ⟨_, _, _, rfl, rfl, rfl, fun s n => ?_⟩)
        go_ret
        exact HR.out _
      · rw [c, if_pos rfl] at hV
        have hV' := hV.symm
        clear hV
        go_enter Try.func149, Try.ntmps149
        go_wp2_with fail
        go_quiet (fail)
        go_wp2_with (first | ((with_reducible refine wpL_fbin ?_); refine ⟨_, _, _, rfl, rfl, rfl, fun s n => ?_⟩) | ((with_reducible refine wpL_fneg ?_); refine ⟨_, _, rfl, ?_⟩))
        go_ret
        exact HR.out _
end Go.Proofs.Ytchpnjihhncfmaa
