/- For all numbers the program tells the nearest tooth of a comb just where the model does, and the same: for all arguments. -/
import Derived.Test.YtebelikahpnobaaCmnP
import Derived.Test.YtebelikahpnobaaNum
import Derived.Test.YtebelikahpnobaaPushS
import Derived.Test.YtebelikahpnobaaIn
import Derived.Test.YtebelikahpnobaaLaw
namespace Go.Proofs.Ytebelikahpnobaa
open Go Go.ChangeShapes Go.WideShapes Go.ChangeAt Go.RowKit

theorem run_floor {y : Nat} (hn : isNaN .f64 y = false) (w : World) : (callFunc 97 #[.float .f64 y]).run Try.prog w = .ok (.value (.float .f64 (floorW y))) w := by
  have h2 : (callFunc 97 #[.float .f64 y]).run Try.prog w = (Extern.MathFloor.toIntegral "math.archFloor" .down #[.float .f64 y] >>= fun v => pure (Next.value v)).run Try.prog w := by kernel_rfl
  rw [h2, Sem.run_bind]
  have h3 : (Extern.MathFloor.toIntegral "math.archFloor" .down #[.float .f64 y]).run Try.prog w = .ok (.float .f64 (floorW y)) w := by
    obtain ⟨N, hN⟩ : ∃ N : Bool → Nat → Sem Value, Extern.MathFloor.toIntegral "math.archFloor" .down #[.float .f64 y] = (match FloatKind.decode .f64 y with | .nan s t => N s t | d => pure (.float .f64 (FloatKind.encode .f64 (d.integral .down)))) := ⟨_, rfl⟩
    rw [hN]
    unfold floorW
    unfold isNaN at hn
    cases hd : FloatKind.decode .f64 y with
    | nan => rw [hd] at hn; cases hn
    | infinity => rfl
    | number => rfl
  rw [h3]
  rfl
theorem quiet_nan (s : Bool) (t : Nat) : isNaN .f64 (FloatKind.f64.encode (.nan s (FloatKind.f64.format.quiet t))) = true ∧ FloatKind.f64.encode (.nan s (FloatKind.f64.format.quiet t)) < 18446744073709551616 := by
  have he : FloatKind.f64.encode (.nan s (FloatKind.f64.format.quiet t)) = Ieee.double.word s (9218868437227405312 + (t ||| 2 ^ 51) % 2 ^ 52) := rfl
  obtain ⟨g, hg⟩ : ∃ g, g = (t ||| 2 ^ 51) % 2 ^ 52 := ⟨_, rfl⟩
  have h0 : g ≠ 0 := by
    intro h
    rw [h] at hg
    have h1 : ((t ||| 2 ^ 51) % 2 ^ 52).testBit 51 = true := by
      rw [Nat.testBit_mod_two_pow, Nat.testBit_or, Nat.testBit_two_pow_self]
      simp
    rw [← hg] at h1
    simp at h1
  have h1 : g < 2 ^ 52 := by rw [hg]; exact Nat.mod_lt _ (Nat.two_pow_pos _)
  rw [he, ← hg]
  have hw : Ieee.double.word s (9218868437227405312 + g) = s.toNat * 9223372036854775808 + 9218868437227405313 + (g - 1) := by
    have h2 : Ieee.double.signWeight = 9223372036854775808 := rfl
    unfold Ieee.Format.word
    rw [h2]
    cases s <;> simp <;> omega
  rw [hw]
  refine ⟨nan_at_f64 _ _ (by omega), ?_⟩
  have : s.toNat ≤ 1 := Bool.toNat_le _
  omega
theorem run_floor_nan {y : Nat} (hn : isNaN .f64 y = true) (hy : y < 18446744073709551616) (w : World) : ∃ F n, (callFunc 97 #[.float .f64 y]).run Try.prog w = .ok (.value (.float .f64 F)) (w.drewN n) ∧ isNaN .f64 F = true ∧ F < 18446744073709551616 := by
  have h2 : (callFunc 97 #[.float .f64 y]).run Try.prog w = (Extern.MathFloor.toIntegral "math.archFloor" .down #[.float .f64 y] >>= fun v => pure (Next.value v)).run Try.prog w := by kernel_rfl
  have h3 : ∃ F n, (Extern.MathFloor.toIntegral "math.archFloor" .down #[.float .f64 y]).run Try.prog w = .ok (.float .f64 F) (w.drewN n) ∧ isNaN .f64 F = true ∧ F < 18446744073709551616 := by
    obtain ⟨s, t, hd⟩ := nan_of hn
    have hd' : FloatKind.f64.decode y = .nan s t := hd
    have hT : Extern.MathFloor.toIntegral "math.archFloor" .down #[.float .f64 y] = (match FloatKind.f64.decode y with
      | .nan s t => if FloatKind.f64.format.quiet t = t then pure (.float .f64 y) else choose (.extern "math.Floor,Ceil,Trunc,RoundToEven.signallingNaN kept" 2) >>= fun kept => pure (.float .f64 (if kept == 1 then y else FloatKind.f64.encode (.nan s (FloatKind.f64.format.quiet t))))
      | d => pure (.float .f64 (FloatKind.f64.encode (d.integral .down)))) := rfl
    rw [hT, hd']
    dsimp only
    by_cases hq : FloatKind.f64.format.quiet t = t
    · rw [if_pos hq]
      exact ⟨y, 0, rfl, hn, hy⟩
    · rw [if_neg hq, Sem.run_bind]
      have hr : ∃ k n, (choose (.extern "math.Floor,Ceil,Trunc,RoundToEven.signallingNaN kept" 2)).run Try.prog w = .ok k (w.drewN n) := by
        rw [run_choose_drew]
        split
        · exact ⟨_, 0, rfl⟩
        · exact ⟨_, 1, rfl⟩
      obtain ⟨k, n, hr⟩ := hr
      rw [hr]
      refine ⟨_, n, rfl, ?_⟩
      by_cases hk : k == 1
      · rw [if_pos hk]; exact ⟨hn, hy⟩
      · rw [if_neg hk]
        exact quiet_nan s t
  obtain ⟨F, n, h3, h4, h5⟩ := h3
  exact ⟨F, n, by rw [h2, Sem.run_bind, h3]; rfl, h4, h5⟩
set_option maxRecDepth 100000 in
set_option maxHeartbeats 400000 in
theorem mathFloor_any (y : Nat) (hn : isNaN .f64 y = false) (w : World) :
    Calls Try.prog 63 #[.float .f64 y] w fun e w' => e = .returned (.float .f64 (floorW y)) ∧ w = w' := by
  have h := run_floor hn w
  clear hn
  go_enter Try.func63, Try.ntmps63
  go_wp2
  go_ret
  exact ⟨rfl, rfl⟩
set_option maxRecDepth 100000 in
set_option maxHeartbeats 400000 in
theorem mathFloor_nan (y : Nat) (hn : isNaN .f64 y = true) (hy : y < 18446744073709551616) (w : World) :
    Calls Try.prog 63 #[.float .f64 y] w fun e w' => ∃ F n, e = .returned (.float .f64 F) ∧ w' = w.drewN n ∧ isNaN .f64 F = true ∧ F < 18446744073709551616 := by
  obtain ⟨F, n, h, h1, h2⟩ := run_floor_nan hn hy w
  have HF := Lib.hid (And.intro h1 h2)
  clear hn hy h1 h2
  go_enter Try.func63, Try.ntmps63
  go_wp2
  go_ret
  exact ⟨F, n, rfl, rfl, HF.out⟩
def CmnRet (R : Int) (ok : Bool) (w : World) (e : Ending) (w' : World) : Prop := e = .returned (.tuple #[.int .i64 R, .bool ok]) ∧ Below w.heap.size w w'
def okCmn (f s p : Nat) : Bool := isFin .f32 f && isFin .f32 p && isP s
def cmnQ (f s p : Nat) : Nat := fbin .quo .f32 (fbin .sub .f32 p f) s
set_option maxRecDepth 100000 in
set_option maxHeartbeats 1600000 in
theorem implCmn_bad (f s p : Nat) (w : World) (hk : okCmn f s p = false) : Calls Try.prog 31 #[.float .f32 f, .float .f32 s, .float .f32 p] w (CmnRet 0 false w) := by
  have hg : finL (duo f p) 2 = (isFin .f32 f && isFin .f32 p) := by simp [finL, List.range_succ, duo]
  cases c1 : finL (duo f p) 2
  · skip
    clear hk hg
    go_enter Try.func31, Try.ntmps31
    go_wp2_with (first | (go_at_call 47; refine (allFinite_any _ _ _ (duo _ _) _ (by exact rd_two' _ _ _ _ (by simp)) (by omega)).mono ?_; rintro e w' ⟨rfl, q, rfl⟩) | (go_at_call 52; refine (isPositive_any _ _).mono ?_; rintro e w' ⟨rfl, q, rfl⟩))
    go_ret2
    refine ⟨rfl, ?_⟩
    (repeat (first | with_reducible exact Below.refl _ _ | with_reducible refine Below.drewN ?_ _ | with_reducible refine Below.setCell ?_ (by simp; try omega) _ | with_reducible refine Below.alloc ?_ (by simp; try omega) _))
  · skip
    cases c2 : isP s
    · skip
      clear hk hg
      go_enter Try.func31, Try.ntmps31
      go_wp2_with (first | (go_at_call 47; refine (allFinite_any _ _ _ (duo _ _) _ (by exact rd_two' _ _ _ _ (by simp)) (by omega)).mono ?_; rintro e w' ⟨rfl, q, rfl⟩) | (go_at_call 52; refine (isPositive_any _ _).mono ?_; rintro e w' ⟨rfl, q, rfl⟩))
      go_ret2
      refine ⟨rfl, ?_⟩
      (repeat (first | with_reducible exact Below.refl _ _ | with_reducible refine Below.drewN ?_ _ | with_reducible refine Below.setCell ?_ (by simp; try omega) _ | with_reducible refine Below.alloc ?_ (by simp; try omega) _))
    · skip
      exfalso
      rw [okCmn, ← hg, c1, c2] at hk
      cases hk
set_option maxRecDepth 100000 in
set_option maxHeartbeats 1600000 in
theorem specCmn_bad (f s p : Nat) (w : World) (hk : okCmn f s p = false) : Calls Try.prog 30 #[.float .f32 f, .float .f32 s, .float .f32 p] w (CmnRet 0 false w) := by
  cases c1 : isFin .f32 f
  · skip
    clear hk
    go_enter Try.func30, Try.ntmps30
    go_wp2_with (first | (go_at_call 58; refine (l01Finite_any _ _).mono ?_; rintro e w' ⟨rfl, q, rfl⟩) | (go_at_call 50; refine (l02Above_any _ _).mono ?_; rintro e w' ⟨rfl, q, rfl⟩))
    go_ret2
    refine ⟨rfl, ?_⟩
    (repeat (first | with_reducible exact Below.refl _ _ | with_reducible refine Below.drewN ?_ _ | with_reducible refine Below.setCell ?_ (by simp; try omega) _ | with_reducible refine Below.alloc ?_ (by simp; try omega) _))
  · skip
    cases c2 : isP s
    · skip
      clear hk
      go_enter Try.func30, Try.ntmps30
      go_wp2_with (first | (go_at_call 58; refine (l01Finite_any _ _).mono ?_; rintro e w' ⟨rfl, q, rfl⟩) | (go_at_call 50; refine (l02Above_any _ _).mono ?_; rintro e w' ⟨rfl, q, rfl⟩))
      go_ret2
      refine ⟨rfl, ?_⟩
      (repeat (first | with_reducible exact Below.refl _ _ | with_reducible refine Below.drewN ?_ _ | with_reducible refine Below.setCell ?_ (by simp; try omega) _ | with_reducible refine Below.alloc ?_ (by simp; try omega) _))
    · skip
      cases c3 : isFin .f32 p
      · skip
        clear hk
        go_enter Try.func30, Try.ntmps30
        go_wp2_with (first | (go_at_call 58; refine (l01Finite_any _ _).mono ?_; rintro e w' ⟨rfl, q, rfl⟩) | (go_at_call 50; refine (l02Above_any _ _).mono ?_; rintro e w' ⟨rfl, q, rfl⟩))
        go_ret2
        refine ⟨rfl, ?_⟩
        (repeat (first | with_reducible exact Below.refl _ _ | with_reducible refine Below.drewN ?_ _ | with_reducible refine Below.setCell ?_ (by simp; try omega) _ | with_reducible refine Below.alloc ?_ (by simp; try omega) _))
      · skip
        exfalso
        rw [okCmn, c1, c2, c3] at hk
        cases hk
theorem cmn_parts {f s p : Nat} (hk : okCmn f s p = true) : isFin .f32 f = true ∧ isFin .f32 p = true ∧ isP s = true ∧ finL (duo f p) 2 = true := by
  unfold okCmn at hk
  rw [Bool.and_eq_true, Bool.and_eq_true] at hk
  exact ⟨hk.1.1, hk.1.2, hk.2, by simp [finL, List.range_succ, duo, hk]⟩
set_option maxRecDepth 100000 in
set_option maxHeartbeats 1600000 in
theorem implCmn_nan (f s p : Nat) (w : World) (hk : okCmn f s p = true) (Y : Nat) (hY : Y = cmnY (cmnQ f s p)) (hn : isNaN .f64 Y = true) : Calls Try.prog 31 #[.float .f32 f, .float .f32 s, .float .f32 p] w (CmnRet 0 false w) := by
  obtain ⟨_, _, h3, h4⟩ := cmn_parts hk
  have hp := fbin_pick_l
  have hr := fbin_pick_r
  have hc := fun t => fconv_pick .f32 (fbin .quo .f32 (fbin .sub .f32 p f) s) t .f64
  have eY : fbin .add .f64 (fconv .f32 (fbin .quo .f32 (fbin .sub .f32 p f) s) .f64) 4602678819172646912 = Y := hY.symm
  have HF := Lib.hid (fun (t : Nat) (w : World) => mathFloor_nan (pick .f64 Y t) (by rw [isNaN_pick, hn]) (by
    have := pick_wf (k := .f64) (X := Y) (by rw [hY]; exact fbin_wf _ _ _ _) t
    simpa [Lit.wf] using this) w)
  clear hk hY hn
  go_enter Try.func31, Try.ntmps31
  go_wp2_with (first | (first | ((with_reducible refine wpL_fbin ?_); refine ⟨_, _, _, rfl, rfl, rfl, fun s n => ?_⟩) | (go_at_call 47; refine (allFinite_any _ _ _ (duo _ _) _ (by exact rd_two' _ _ _ _ (by simp)) (by omega)).mono ?_; rintro e w' ⟨rfl, q, rfl⟩) | (go_at_call 52; refine (isPositive_any _ _).mono ?_; rintro e w' ⟨rfl, q, rfl⟩)) | ((with_reducible refine wpL_fconv ?_); refine ⟨_, _, _, rfl, Option.isSome_iff_exists.2 ⟨_, Try.underlying22⟩, Try.underlying34, FloatKind.noConfusion, convOk_widen _, fun s n => ?_⟩) | (go_at_call 63; refine (HF.out _ _).mono ?_; rintro e w' ⟨F, n', rfl, rfl, hF1, hF2⟩; have hF3 : FloatKind.f64.format.order (absw F) 4696837146684686336 = none := order_left (by unfold isNaN FloatKind.decode at hF1 ⊢; have := read_abs F; have hd : FloatKind.f64.format.read F = Ieee.double.read F := rfl; rw [hd] at hF1; have hd2 : FloatKind.f64.format.read (absw F) = Ieee.double.read (absw F) := rfl; rw [hd2, this]; cases hq : Ieee.double.read F <;> rw [hq] at hF1 <;> first | rfl | cases hF1); clear hF1) | (go_at_call 64; refine (mathAbs_any _ _ (by assumption)).mono ?_; rintro e w' ⟨rfl, rfl⟩))
  go_ret2
  refine ⟨rfl, ?_⟩
  (repeat (first | with_reducible exact Below.refl _ _ | with_reducible refine Below.drewN ?_ _ | with_reducible refine Below.setCell ?_ (by simp; try omega) _ | with_reducible refine Below.alloc ?_ (by simp; try omega) _))
set_option maxRecDepth 100000 in
set_option maxHeartbeats 1600000 in
theorem implCmn_no (f s p : Nat) (w : World) (hk : okCmn f s p = true) (Y : Nat) (hY : Y = cmnY (cmnQ f s p)) (hn : isNaN .f64 Y = false) (hl : leq64 (absw (floorW Y)) mio = false) : Calls Try.prog 31 #[.float .f32 f, .float .f32 s, .float .f32 p] w (CmnRet 0 false w) := by
  obtain ⟨_, _, h3, h4⟩ := cmn_parts hk
  have hp := fbin_pick_l
  have hr := fbin_pick_r
  have hc := fun t => fconv_pick .f32 (fbin .quo .f32 (fbin .sub .f32 p f) s) t .f64
  have eY : fbin .add .f64 (fconv .f32 (fbin .quo .f32 (fbin .sub .f32 p f) s) .f64) 4602678819172646912 = Y := hY.symm
  have hpk : ∀ t, pick .f64 Y t = Y := fun t => pick_num hn t
  obtain ⟨F, hF⟩ : ∃ F, F = floorW Y := ⟨_, rfl⟩
  have HF := Lib.hid (fun w => mathFloor_any Y hn w)
  rw [← hF] at HF hl
  have hF2 : F < 18446744073709551616 := by rw [hF]; exact floorW_lt _ hn
  have HA := Lib.hid (fun w => mathAbs_any F w hF2)
  obtain ⟨G, hG⟩ : ∃ G, G = absw F := ⟨_, rfl⟩
  rw [← hG] at hl HA
  have hl2 : (FloatKind.f64.format.order G 4696837146684686336 == some .lt || FloatKind.f64.format.order G 4696837146684686336 == some .eq) = false := hl
  clear hk hY hn hF hF2 hG hl
  go_enter Try.func31, Try.ntmps31
  go_wp2_with (first | (first | ((with_reducible refine wpL_fbin ?_); refine ⟨_, _, _, rfl, rfl, rfl, fun s n => ?_⟩) | (go_at_call 47; refine (allFinite_any _ _ _ (duo _ _) _ (by exact rd_two' _ _ _ _ (by simp)) (by omega)).mono ?_; rintro e w' ⟨rfl, q, rfl⟩) | (go_at_call 52; refine (isPositive_any _ _).mono ?_; rintro e w' ⟨rfl, q, rfl⟩)) | ((with_reducible refine wpL_fconv ?_); refine ⟨_, _, _, rfl, Option.isSome_iff_exists.2 ⟨_, Try.underlying22⟩, Try.underlying34, FloatKind.noConfusion, convOk_widen _, fun s n => ?_⟩) | (go_at_call 63; refine (HF.out _).mono ?_; rintro e w' ⟨rfl, rfl⟩) | (go_at_call 64; refine (HA.out _).mono ?_; rintro e w' ⟨rfl, rfl⟩))
  go_ret2
  refine ⟨rfl, ?_⟩
  (repeat (first | with_reducible exact Below.refl _ _ | with_reducible refine Below.drewN ?_ _ | with_reducible refine Below.setCell ?_ (by simp; try omega) _ | with_reducible refine Below.alloc ?_ (by simp; try omega) _))
set_option maxRecDepth 100000 in
set_option maxHeartbeats 1600000 in
theorem implCmn_yes (f s p : Nat) (w : World) (hk : okCmn f s p = true) (Y : Nat) (hY : Y = cmnY (cmnQ f s p)) (hn : isNaN .f64 Y = false) (hl : leq64 (absw (floorW Y)) mio = true) (n : Int) (hi : floatToIntVal .f64 (floorW Y) .i64 = some n) : Calls Try.prog 31 #[.float .f32 f, .float .f32 s, .float .f32 p] w (CmnRet n true w) := by
  obtain ⟨_, _, h3, h4⟩ := cmn_parts hk
  have hp := fbin_pick_l
  have hr := fbin_pick_r
  have hc := fun t => fconv_pick .f32 (fbin .quo .f32 (fbin .sub .f32 p f) s) t .f64
  have eY : fbin .add .f64 (fconv .f32 (fbin .quo .f32 (fbin .sub .f32 p f) s) .f64) 4602678819172646912 = Y := hY.symm
  have hpk : ∀ t, pick .f64 Y t = Y := fun t => pick_num hn t
  obtain ⟨F, hF⟩ : ∃ F, F = floorW Y := ⟨_, rfl⟩
  have HF := Lib.hid (fun w => mathFloor_any Y hn w)
  rw [← hF] at HF hl hi
  have hF2 : F < 18446744073709551616 := by rw [hF]; exact floorW_lt _ hn
  have HA := Lib.hid (fun w => mathAbs_any F w hF2)
  obtain ⟨G, hG⟩ : ∃ G, G = absw F := ⟨_, rfl⟩
  rw [← hG] at hl HA
  have hl2 : (FloatKind.f64.format.order G 4696837146684686336 == some .lt || FloatKind.f64.format.order G 4696837146684686336 == some .eq) = true := hl
  have HI := Lib.hid hi
  clear hk hY hn hF hF2 hG hl hi
  go_enter Try.func31, Try.ntmps31
  go_wp2_with (first | (first | ((with_reducible refine wpL_fbin ?_); refine ⟨_, _, _, rfl, rfl, rfl, fun s n => ?_⟩) | (go_at_call 47; refine (allFinite_any _ _ _ (duo _ _) _ (by exact rd_two' _ _ _ _ (by simp)) (by omega)).mono ?_; rintro e w' ⟨rfl, q, rfl⟩) | (go_at_call 52; refine (isPositive_any _ _).mono ?_; rintro e w' ⟨rfl, q, rfl⟩)) | ((with_reducible refine wpL_fconv ?_); refine ⟨_, _, _, rfl, Option.isSome_iff_exists.2 ⟨_, Try.underlying22⟩, Try.underlying34, FloatKind.noConfusion, convOk_widen _, fun s n => ?_⟩) | ((with_reducible refine wpL_ftoi ?_); refine ⟨_, _, _, _, rfl, Option.isSome_iff_exists.2 ⟨_, Try.underlying34⟩, Try.underlying2, HI.out, ?_⟩) | (go_at_call 63; refine (HF.out _).mono ?_; rintro e w' ⟨rfl, rfl⟩) | (go_at_call 64; refine (HA.out _).mono ?_; rintro e w' ⟨rfl, rfl⟩))
  go_ret2
  refine ⟨rfl, ?_⟩
  (repeat (first | with_reducible exact Below.refl _ _ | with_reducible refine Below.drewN ?_ _ | with_reducible refine Below.setCell ?_ (by simp; try omega) _ | with_reducible refine Below.alloc ?_ (by simp; try omega) _))
set_option maxRecDepth 100000 in
set_option maxHeartbeats 1600000 in
theorem specCmn_no (f s p : Nat) (w : World) (hk : okCmn f s p = true) (Y : Nat) (hY : Y = cmnY (cmnQ f s p)) (hT : inT Y = false) : Calls Try.prog 30 #[.float .f32 f, .float .f32 s, .float .f32 p] w (CmnRet 0 false w) := by
  obtain ⟨h1, h2, h3, _⟩ := cmn_parts hk
  have hp := fbin_pick_l
  have hr := fbin_pick_r
  have ho := order_pick_l .f64
  have hc := fun t => fconv_pick .f32 (fbin .quo .f32 (fbin .sub .f32 p f) s) t .f64
  have eY : fbin .add .f64 (fconv .f32 (fbin .quo .f32 (fbin .sub .f32 p f) s) .f64) 4602678819172646912 = Y := hY.symm
  unfold inT at hT
  clear hk hY
  cases c1 : FloatKind.f64.format.order Y 13920209192129396736 == some .gt
  · skip
    clear hT
    go_enter Try.func30, Try.ntmps30
    go_wp2_with (first | (first | ((with_reducible refine wpL_fbin ?_); refine ⟨_, _, _, rfl, rfl, rfl, fun s n => ?_⟩) | (go_at_call 58; refine (l01Finite_any _ _).mono ?_; rintro e w' ⟨rfl, q, rfl⟩) | (go_at_call 50; refine (l02Above_any _ _).mono ?_; rintro e w' ⟨rfl, q, rfl⟩)) | ((with_reducible refine wpL_fconv ?_); refine ⟨_, _, _, rfl, Option.isSome_iff_exists.2 ⟨_, Try.underlying22⟩, Try.underlying34, FloatKind.noConfusion, convOk_widen _, fun s n => ?_⟩))
    go_ret2
    refine ⟨rfl, ?_⟩
    (repeat (first | with_reducible exact Below.refl _ _ | with_reducible refine Below.drewN ?_ _ | with_reducible refine Below.setCell ?_ (by simp; try omega) _ | with_reducible refine Below.alloc ?_ (by simp; try omega) _))
  · skip
    cases c2 : FloatKind.f64.format.order Y 4696837155274620928 == some .lt
    · skip
      clear hT
      go_enter Try.func30, Try.ntmps30
      go_wp2_with (first | (first | ((with_reducible refine wpL_fbin ?_); refine ⟨_, _, _, rfl, rfl, rfl, fun s n => ?_⟩) | (go_at_call 58; refine (l01Finite_any _ _).mono ?_; rintro e w' ⟨rfl, q, rfl⟩) | (go_at_call 50; refine (l02Above_any _ _).mono ?_; rintro e w' ⟨rfl, q, rfl⟩)) | ((with_reducible refine wpL_fconv ?_); refine ⟨_, _, _, rfl, Option.isSome_iff_exists.2 ⟨_, Try.underlying22⟩, Try.underlying34, FloatKind.noConfusion, convOk_widen _, fun s n => ?_⟩))
      go_ret2
      refine ⟨rfl, ?_⟩
      (repeat (first | with_reducible exact Below.refl _ _ | with_reducible refine Below.drewN ?_ _ | with_reducible refine Below.setCell ?_ (by simp; try omega) _ | with_reducible refine Below.alloc ?_ (by simp; try omega) _))
    · skip
      exfalso
      rw [c1, c2] at hT
      cases hT
set_option maxRecDepth 100000 in
set_option maxHeartbeats 3200000 in
theorem specCmn_yes (f s p : Nat) (w : World) (hk : okCmn f s p = true) (Y : Nat) (hY : Y = cmnY (cmnQ f s p)) (hn : isNaN .f64 Y = false) (hT : inT Y = true) (t n : Int) (hi : floatToIntVal .f64 Y .i64 = some t) (ht1 : -1000001 ≤ t) (ht2 : t ≤ 1000001)
    (hnt : n = (if gt64 (floatOfInt .f64 t) Y = true then t - 1 else t)) (R : Int) (ok : Bool) (ho : ok = inB n (-1000000) 1000000) (hR : R = if ok = true then n else 0) : Calls Try.prog 30 #[.float .f32 f, .float .f32 s, .float .f32 p] w (CmnRet R ok w) := by
  obtain ⟨h1, h2, h3, _⟩ := cmn_parts hk
  have hp := fbin_pick_l
  have hr := fbin_pick_r
  have hc := fun t => fconv_pick .f32 (fbin .quo .f32 (fbin .sub .f32 p f) s) t .f64
  have eY : fbin .add .f64 (fconv .f32 (fbin .quo .f32 (fbin .sub .f32 p f) s) .f64) 4602678819172646912 = Y := hY.symm
  have hpk : ∀ t, pick .f64 Y t = Y := fun t => pick_num hn t
  unfold inT at hT
  rw [Bool.and_eq_true] at hT
  obtain ⟨t1, t2⟩ := hT
  have HI := Lib.hid hi
  clear hk hY hn hi
  cases hg : gt64 (floatOfInt .f64 t) Y
  · have hg' : (FloatKind.f64.format.order (floatOfInt .f64 t) Y == some .gt) = false := hg
    rw [hg, if_neg (by simp)] at hnt
    subst hnt
    clear hg
    cases hb : inB n (-1000000) 1000000
    · rw [hb] at ho
      subst ho
      rw [if_neg (by simp)] at hR
      subst hR
      go_enter Try.func30, Try.ntmps30
      go_wp2_with (first | (first | ((with_reducible refine wpL_fbin ?_); refine ⟨_, _, _, rfl, rfl, rfl, fun s n => ?_⟩) | (go_at_call 58; refine (l01Finite_any _ _).mono ?_; rintro e w' ⟨rfl, q, rfl⟩) | (go_at_call 50; refine (l02Above_any _ _).mono ?_; rintro e w' ⟨rfl, q, rfl⟩) | (go_at_call 59; refine (l00In_any _ _ _ _).mono ?_; rintro e w' ⟨rfl, rfl⟩)) | ((with_reducible refine wpL_fconv ?_); refine ⟨_, _, _, rfl, Option.isSome_iff_exists.2 ⟨_, Try.underlying22⟩, Try.underlying34, FloatKind.noConfusion, convOk_widen _, fun s n => ?_⟩) | ((with_reducible refine wpL_ftoi ?_); refine ⟨_, _, _, _, rfl, Option.isSome_iff_exists.2 ⟨_, Try.underlying34⟩, Try.underlying2, HI.out, ?_⟩))
      go_ret2
      refine ⟨rfl, ?_⟩
      (repeat (first | with_reducible exact Below.refl _ _ | with_reducible refine Below.drewN ?_ _ | with_reducible refine Below.setCell ?_ (by simp; try omega) _ | with_reducible refine Below.alloc ?_ (by simp; try omega) _))
    · rw [hb] at ho
      subst ho
      rw [if_pos rfl] at hR
      subst hR
      go_enter Try.func30, Try.ntmps30
      go_wp2_with (first | (first | ((with_reducible refine wpL_fbin ?_); refine ⟨_, _, _, rfl, rfl, rfl, fun s n => ?_⟩) | (go_at_call 58; refine (l01Finite_any _ _).mono ?_; rintro e w' ⟨rfl, q, rfl⟩) | (go_at_call 50; refine (l02Above_any _ _).mono ?_; rintro e w' ⟨rfl, q, rfl⟩) | (go_at_call 59; refine (l00In_any _ _ _ _).mono ?_; rintro e w' ⟨rfl, rfl⟩)) | ((with_reducible refine wpL_fconv ?_); refine ⟨_, _, _, rfl, Option.isSome_iff_exists.2 ⟨_, Try.underlying22⟩, Try.underlying34, FloatKind.noConfusion, convOk_widen _, fun s n => ?_⟩) | ((with_reducible refine wpL_ftoi ?_); refine ⟨_, _, _, _, rfl, Option.isSome_iff_exists.2 ⟨_, Try.underlying34⟩, Try.underlying2, HI.out, ?_⟩))
      go_ret2
      refine ⟨rfl, ?_⟩
      (repeat (first | with_reducible exact Below.refl _ _ | with_reducible refine Below.drewN ?_ _ | with_reducible refine Below.setCell ?_ (by simp; try omega) _ | with_reducible refine Below.alloc ?_ (by simp; try omega) _))
  · have hg' : (FloatKind.f64.format.order (floatOfInt .f64 t) Y == some .gt) = true := hg
    rw [hg, if_pos rfl] at hnt
    subst hnt
    clear hg
    cases hb : inB (t - 1) (-1000000) 1000000
    · rw [hb] at ho
      subst ho
      rw [if_neg (by simp)] at hR
      subst hR
      go_enter Try.func30, Try.ntmps30
      go_wp2_with (first | (first | ((with_reducible refine wpL_fbin ?_); refine ⟨_, _, _, rfl, rfl, rfl, fun s n => ?_⟩) | (go_at_call 58; refine (l01Finite_any _ _).mono ?_; rintro e w' ⟨rfl, q, rfl⟩) | (go_at_call 50; refine (l02Above_any _ _).mono ?_; rintro e w' ⟨rfl, q, rfl⟩) | (go_at_call 59; refine (l00In_any _ _ _ _).mono ?_; rintro e w' ⟨rfl, rfl⟩)) | ((with_reducible refine wpL_fconv ?_); refine ⟨_, _, _, rfl, Option.isSome_iff_exists.2 ⟨_, Try.underlying22⟩, Try.underlying34, FloatKind.noConfusion, convOk_widen _, fun s n => ?_⟩) | ((with_reducible refine wpL_ftoi ?_); refine ⟨_, _, _, _, rfl, Option.isSome_iff_exists.2 ⟨_, Try.underlying34⟩, Try.underlying2, HI.out, ?_⟩))
      go_ret2
      refine ⟨rfl, ?_⟩
      (repeat (first | with_reducible exact Below.refl _ _ | with_reducible refine Below.drewN ?_ _ | with_reducible refine Below.setCell ?_ (by simp; try omega) _ | with_reducible refine Below.alloc ?_ (by simp; try omega) _))
    · rw [hb] at ho
      subst ho
      rw [if_pos rfl] at hR
      subst hR
      go_enter Try.func30, Try.ntmps30
      go_wp2_with (first | (first | ((with_reducible refine wpL_fbin ?_); refine ⟨_, _, _, rfl, rfl, rfl, fun s n => ?_⟩) | (go_at_call 58; refine (l01Finite_any _ _).mono ?_; rintro e w' ⟨rfl, q, rfl⟩) | (go_at_call 50; refine (l02Above_any _ _).mono ?_; rintro e w' ⟨rfl, q, rfl⟩) | (go_at_call 59; refine (l00In_any _ _ _ _).mono ?_; rintro e w' ⟨rfl, rfl⟩)) | ((with_reducible refine wpL_fconv ?_); refine ⟨_, _, _, rfl, Option.isSome_iff_exists.2 ⟨_, Try.underlying22⟩, Try.underlying34, FloatKind.noConfusion, convOk_widen _, fun s n => ?_⟩) | ((with_reducible refine wpL_ftoi ?_); refine ⟨_, _, _, _, rfl, Option.isSome_iff_exists.2 ⟨_, Try.underlying34⟩, Try.underlying2, HI.out, ?_⟩))
      go_ret2
      refine ⟨rfl, ?_⟩
      (repeat (first | with_reducible exact Below.refl _ _ | with_reducible refine Below.drewN ?_ _ | with_reducible refine Below.setCell ?_ (by simp; try omega) _ | with_reducible refine Below.alloc ?_ (by simp; try omega) _))
/-- What is told of CombNearest. -/
def RetCombNearest (r0 : Int) (r1 : Bool) (w : World) (e : Ending) (w' : World) : Prop := e = .returned (.tuple #[.int .i64 r0, .bool r1]) ∧ Below w.heap.size w w'
theorem bothCombNearest (f : Nat) (_ : (Lit.float .f32 f).wf = true) (s : Nat) (_ : (Lit.float .f32 s).wf = true) (p : Nat) (_ : (Lit.float .f32 p).wf = true) : ∃ (x : Int) (ok : Bool),
    (∀ (w : World), Calls Try.prog 30 #[.float .f32 f, .float .f32 s, .float .f32 p] w (RetCombNearest x ok w)) ∧ ∀ (w : World), Calls Try.prog 31 #[.float .f32 f, .float .f32 s, .float .f32 p] w (RetCombNearest x ok w) := by
  cases hk : okCmn f s p
  · exact ⟨0, false, fun w => specCmn_bad f s p w hk, fun w => implCmn_bad f s p w hk⟩
  · cases hn : isNaN .f64 (cmnY (cmnQ f s p))
    · cases hT : inT (cmnY (cmnQ f s p))
      · exact ⟨0, false, fun w => specCmn_no f s p w hk _ rfl hT, fun w => implCmn_no f s p w hk _ rfl hn (leq_no hn hT)⟩
      · obtain ⟨n, i1, i2, i3, i4, i5, i6⟩ := cmn_yes hT
        have hb : inB n (-1000000) 1000000 = (decide (-1000000 ≤ n) && decide (n ≤ 1000000)) := by simp [inB]
        cases hok : inB n (-1000000) 1000000
        · refine ⟨0, false, fun w => specCmn_yes f s p w hk _ rfl hn hT _ n i1 i2 i3 i4 0 false hok.symm rfl, fun w => implCmn_no f s p w hk _ rfl hn ?_⟩
          exact (i5.trans hb.symm).trans hok
        · have hr : -1000000 ≤ n ∧ n ≤ 1000000 := by rw [hb] at hok; simpa using hok
          refine ⟨n, true, fun w => specCmn_yes f s p w hk _ rfl hn hT _ n i1 i2 i3 i4 n true hok.symm rfl, fun w => implCmn_yes f s p w hk _ rfl hn ?_ n (i6 hr.1 hr.2)⟩
          exact (i5.trans hb.symm).trans hok
    · exact ⟨0, false, fun w => specCmn_no f s p w hk _ rfl (inT_nan hn), fun w => implCmn_nan f s p w hk _ rfl hn⟩
set_option maxRecDepth 100000 in
set_option maxHeartbeats 6400000 in
theorem lawCombNearest_in (W : World) (a0 : Nat) (_wf0 : (Lit.float .f32 a0).wf = true) (a1 : Nat) (_wf1 : (Lit.float .f32 a1).wf = true) (a2 : Nat) (_wf2 : (Lit.float .f32 a2).wf = true)  (r0 : Int) (r1 : Bool) (HS : Hid (∀  (w : World),  Calls Try.prog 30 #[.float .f32 a0, .float .f32 a1, .float .f32 a2] w (RetCombNearest r0 r1 w))) (HI : Hid (∀  (w : World),  Calls Try.prog 31 #[.float .f32 a0, .float .f32 a1, .float .f32 a2] w (RetCombNearest r0 r1 w))) :
    Calls Try.prog 8 #[.float .f32 a0, .float .f32 a1, .float .f32 a2] W fun e w' => e = .returned (.bool true) ∧ Below W.heap.size W w' := by
  have hcv := fun (R : Nat) (s t : Nat) => show canon .f64 (pick .f64 (fconv .f32 (pick .f32 R s) .f64) t) = canon .f64 (fconv .f32 R .f64) by rw [canon_pick, fconv_pick]
  have hcw := fun (R : Nat) (s t : Nat) => show canon .f64 (pick .f64 R s) = canon .f64 (pick .f64 R t) by rw [canon_pick, canon_pick]
  have HCV := Lib.hid hcv
  have HCW := Lib.hid hcw
  clear hcv hcw
  have hnb1 : (r1 != r1) = false := by simp
  have HB := Blw.refl W
  go_enter Try.func8, Try.ntmps8
  go_wp2_with fail
  refine (HS.out  _ ).mono ?_
  rintro e0 w1 ⟨rfl, B0⟩
  replace HB := Blw.next (by exact HB) B0
  clear B0
  have HL := Blw.refl w1
  have Eg := (Blw.out (by exact HL)).size
  go_wp2_with fail
  refine (HI.out  _ ).mono ?_
  rintro e0 w2 ⟨rfl, B0⟩
  replace HL := Blw.next (by exact HL) B0
  clear B0
  go_wp2
  go_ret
  exact ⟨rfl, (Blw.out (by exact HB)).trans ((Blw.out (by exact HL)).mono (Blw.out (by exact HB)).size)⟩
set_option maxHeartbeats 1600000 in
theorem lawCombNearest_any (W : World) (a0 : Nat) (_wf0 : (Lit.float .f32 a0).wf = true) (a1 : Nat) (_wf1 : (Lit.float .f32 a1).wf = true) (a2 : Nat) (_wf2 : (Lit.float .f32 a2).wf = true) :
    Calls Try.prog 8 #[.float .f32 a0, .float .f32 a1, .float .f32 a2] W fun e w' => e = .returned (.bool true) ∧ Below W.heap.size W w' := by
  obtain ⟨r0, r1, hs, hi⟩ := bothCombNearest a0 _wf0 a1 _wf1 a2 _wf2
  exact lawCombNearest_in W a0 _wf0 a1 _wf1 a2 _wf2  r0 r1 (Lib.hid hs) (Lib.hid hi)
set_option maxRecDepth 100000 in
theorem FnExactCombNearest_lifted (os : Os) (started : os.Started) (H : Type) (enc : TypeId × Value → H) :
    ReturnsInHanded {} Try.checked os 8 .any (Rows.fnExactCombNearestSpec.pre6 enc Try.prog Try.f8 Rows.fnExactCombNearestRow.domain false) (Rows.fnExactCombNearestSpec.post enc Try.prog Try.f8 false true false false) := by
  refine returnsInHanded_of_change (C := Try.checked) ownKnob_none started (by kernel_rfl) Try.func8
    (ChangeSpec.witness6 (enc := enc) (C := Try.checked) false ⟨#[], #[.float .f32 0, .float .f32 0, .float .f32 0], []⟩ 8 (by kernel_rfl) (by kernel_rfl) (by kernel_rfl) (by kernel_rfl)) ?_
  intro W base args ds gs before hval0 hW _ _
  have hval : ∀ (j : Nat) t v, Try.f8.params[j]? = some t → args[j]? = some v → Value.okWide Try.prog W .any base t v := hval0
  have hW' := hW
  obtain ⟨p, q, hA0, hV, rfl, _, _⟩ := hW
  have hA : DataW.TrodAll enc Try.prog W 0 (fun _ => true) true Try.f8.params.toList args.toList ds p := hA0
  rw [Try.params8] at hA hval
  obtain ⟨v0, v1, v2, d0, d1, d2, p0, p1, p2, rfl, rfl, rfl, h0, h1, h2⟩ := trodAll_three hA
  obtain ⟨rfl, rfl⟩ := trodVars_none hV
  obtain ⟨a0, rfl, rfl, rfl, w0⟩ := open_float Try.underlying22 (hval 0 22 v0 rfl rfl) h0
  obtain ⟨a1, rfl, rfl, rfl, w1⟩ := open_float Try.underlying22 (hval 1 22 v1 rfl rfl) h1
  obtain ⟨a2, rfl, rfl, rfl, w2⟩ := open_float Try.underlying22 (hval 2 22 v2 rfl rfl) h2
  clear hA0 hval0
  refine (lawCombNearest_any W a0 w0 a1 w1 a2 w2).mono fun e W' ⟨he, hb⟩ => ?_
  subst he
  have hA2 := trodAll_mk3 (enc := enc) (w := W') (base := 0) (spare := fun b => decide (b < W.heap.size)) (held := true) (shut_float Try.underlying22 w0) (shut_float Try.underlying22 w1) (shut_float Try.underlying22 w2)
  exact ⟨_, rfl, _, _, _, [], _, [], hW', trodAll_cons_mk (shut_bool Try.underlying4 _) trodAll_mk0, hA2, rfl, hb.frame _, fun h => by cases h⟩
theorem FnExactCombNearest_holds : Rows.FnExactCombNearestSaid :=
  OpenClaim.holds_of_wide 8 Try.f8 rfl rfl rfl rfl rfl rfl rfl ⟨rfl, rfl, rfl, rfl, rfl⟩ rfl rfl rfl rfl rfl (by kernel_rfl) Try.func8 (by kernel_rfl)
    (of_decide_eq_true (by kernel_rfl)) (by unfold Func.isWrapper; first | (rw [if_pos (by decide +kernel)]; kernel_rfl) | (rw [if_neg (by decide +kernel)]; exact ⟨rfl, rfl⟩))
    (fun os started H enc _ => FnExactCombNearest_lifted os started H enc)
end Go.Proofs.Ytebelikahpnobaa
