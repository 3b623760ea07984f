/- The angle of any point: the program tells what the model tells, to the last bit. -/
import Derived.Test.YthpdiknpfpejladAngV0
import Derived.Test.YthpdiknpfpejladAngV1
import Derived.Test.YthpdiknpfpejladAngW
import Derived.Test.YthpdiknpfpejladRowKit
namespace Go.Proofs.Ythpdiknpfpejlad
open Go Go.ChangeShapes Go.WideShapes Go.ChangeAt Go.RowKit

theorem fin_decode' {x : Nat} {k : FloatKind} (h : isFin k x = true) : ∃ s m e, k.decode x = .number s m e := by
  unfold isFin at h
  cases hd : k.decode x with
  | nan => simp [hd, Ieee.Datum.isNaN] at h
  | infinity => simp [hd, Ieee.Datum.isInfinity] at h
  | number s m e => exact ⟨s, m, e, rfl⟩
theorem guard_fin {Y : Nat} (h : isFin .f64 Y = true) : (FloatKind.f64.format.order (fbin .sub .f64 Y Y) 0 != some .eq) = false := by
  have := sub_self .f64 Y
  rw [h] at this
  simp only [beq_iff_eq] at this
  rw [this]; rfl
theorem guard_not {Y : Nat} (h : isFin .f64 Y = false) : (FloatKind.f64.format.order (fbin .sub .f64 Y Y) 0 != some .eq) = true := by
  have := sub_self .f64 Y
  rw [h] at this
  simp only [bne, this]; rfl
def angW (Y X : Nat) : Nat := angY (lt64 Y 0) (angX (lt64 X 0) (steepA (absw Y) (absw X)))
theorem bd_angW {Y X : Nat} {s t : Bool} {m n : Nat} {i j : Int} (hY : FloatKind.decode .f64 Y = .number s m i) (hX : FloatKind.decode .f64 X = .number t n j) (h : m ≠ 0 ∨ n ≠ 0) :
    isNaN .f64 (angX (lt64 X 0) (steepA (absw Y) (absw X))) = false ∧ Bd .f64 (angW Y X) 97 := by
  have b1 := bd_angX (bd_steepA (abs_decode hY) (abs_decode hX) h) (lt64 X 0)
  have hw : angX (lt64 X 0) (steepA (absw Y) (absw X)) < 18446744073709551616 := by
    have h2 : ∀ t, flatA t < 18446744073709551616 := fun t => fbin_lt64 ..
    have h3 : steepA (absw Y) (absw X) < 18446744073709551616 := by unfold steepA; split <;> first | exact fbin_lt64 .. | exact h2 _
    unfold angX
    split
    · exact fbin_lt64 ..
    · exact h3
  refine ⟨b1.num, ?_⟩
  unfold angW angY
  split
  · exact bd_neg hw b1
  · exact b1
theorem order_zero {x : Nat} {s : Bool} {m : Nat} {e : Int} (hd : FloatKind.decode .f64 x = .number s m e) : (FloatKind.f64.format.order x 0 == some .eq) = decide (m = 0) := by
  obtain ⟨b1, b2, b3⟩ := order_val hd dec0_64
  have z2 : sval false 0 (-1074) = 0 := by decide +kernel
  rw [z2] at b1 b2 b3
  by_cases hm : m = 0
  · subst hm
    have : sval s 0 e = 0 := by
      unfold sval
      have h0 : ((0 : Nat) : Rat) = 0 := rfl
      cases s
      · simp only [Bool.false_eq_true, if_false]; rw [h0, Rat.zero_mul]
      · simp only [if_true]; rw [h0]; grind
    rw [b2 this]; simp
  · have hp : 0 < (m : Rat) * two e := Rat.mul_pos (by exact_mod_cast (by omega : 0 < m)) (two_pos e)
    cases s
    · have : 0 < sval false m e := by unfold sval; simpa using hp
      rw [b3 this]; simp [hm]
    · have : sval true m e < 0 := by unfold sval; simp only [if_true]; grind
      rw [b1 this]; simp [hm]
theorem angleWide_any (Y X : Nat) (hY : Y < 18446744073709551616) (hX : X < 18446744073709551616) (fY : isFin .f64 Y = true) (fX : isFin .f64 X = true)
    (hz : (FloatKind.f64.format.order X 0 == some .eq) = false ∨ ((FloatKind.f64.format.order X 0 == some .eq) = true ∧ (FloatKind.f64.format.order Y 0 == some .eq) = false)) (w : World) :
    Calls Try.prog 55 #[.float .f64 Y, .float .f64 X] w fun e w' => e = .returned (.float .f64 (angW Y X)) ∧ ∃ n, w' = w.drewN n := by
  obtain ⟨s, m, i, dY⟩ := fin_decode' fY
  obtain ⟨t, n, j, dX⟩ := fin_decode' fX
  have hne : m ≠ 0 ∨ n ≠ 0 := by
    rw [order_zero dX, order_zero dY] at hz
    simp at hz
    omega
  have hn := (bd_angW dY dX hne).1
  have g0 := guard_fin fY
  have g1 := guard_fin fX
  unfold angW
  cases h0 : gt64 (absw Y) (absw X)
  all_goals cases h1 : lt64 X 0
  all_goals cases h2 : lt64 Y 0
  all_goals rw [h1] at hn
  · refine (angWide_000 Y X hY hX h0 h1 h2 g0 g1 hz w).mono ?_
    rintro e w' ⟨s, n, rfl, rfl⟩
    exact ⟨by rw [pick_num hn]; rfl, n, rfl⟩
  · refine (angWide_001 Y X hY hX h0 h1 h2 g0 g1 hz w).mono ?_
    rintro e w' ⟨s, n, rfl, rfl⟩
    exact ⟨by rw [pick_num hn]; unfold angY; rw [if_pos rfl, fneg_num hn], n, rfl⟩
  · refine (angWide_010 Y X hY hX h0 h1 h2 g0 g1 hz w).mono ?_
    rintro e w' ⟨s, n, rfl, rfl⟩
    exact ⟨by rw [pick_num hn]; rfl, n, rfl⟩
  · refine (angWide_011 Y X hY hX h0 h1 h2 g0 g1 hz w).mono ?_
    rintro e w' ⟨s, n, rfl, rfl⟩
    exact ⟨by rw [pick_num hn]; unfold angY; rw [if_pos rfl, fneg_num hn], n, rfl⟩
  · refine (angWide_100 Y X hY hX h0 h1 h2 g0 g1 hz w).mono ?_
    rintro e w' ⟨s, n, rfl, rfl⟩
    exact ⟨by rw [pick_num hn]; rfl, n, rfl⟩
  · refine (angWide_101 Y X hY hX h0 h1 h2 g0 g1 hz w).mono ?_
    rintro e w' ⟨s, n, rfl, rfl⟩
    exact ⟨by rw [pick_num hn]; unfold angY; rw [if_pos rfl, fneg_num hn], n, rfl⟩
  · refine (angWide_110 Y X hY hX h0 h1 h2 g0 g1 hz w).mono ?_
    rintro e w' ⟨s, n, rfl, rfl⟩
    exact ⟨by rw [pick_num hn]; rfl, n, rfl⟩
  · refine (angWide_111 Y X hY hX h0 h1 h2 g0 g1 hz w).mono ?_
    rintro e w' ⟨s, n, rfl, rfl⟩
    exact ⟨by rw [pick_num hn]; unfold angY; rw [if_pos rfl, fneg_num hn], n, rfl⟩
theorem convOk_nan' : convOk .f64 9221120237041090561 .f32 := .inl (by decide +kernel)
theorem convOk_zero' : convOk .f64 0 .f32 := .inr (.inr (by decide +kernel))
theorem run_nan_from' (w : World) : (callFunc 48 #[.int .u64 9221120237041090561]).run Try.prog w = .ok (.value (.float .f64 9221120237041090561)) w := by kernel_rfl
theorem conv_nan' : fconv .f64 9221120237041090561 .f32 = qnan .f32 := by decide +kernel
theorem conv_zero' : fconv .f64 0 .f32 = 0 := by decide +kernel
theorem num_zero32 : isNaN .f32 0 = false := by decide +kernel
def angBad (y x : Nat) : Bool := !(isFin .f32 y && isFin .f32 x)
def angNul (y x : Nat) : Bool := (FloatKind.f32.format.order x 0 == some .eq) && (FloatKind.f32.format.order y 0 == some .eq)
def angT (y x : Nat) : Nat := if angBad y x = true then qnan .f32 else if angNul y x = true then 0 else fconv .f64 (angW (fconv .f32 y .f64) (fconv .f32 x .f64)) .f32
theorem widen_lt (x : Nat) : fconv .f32 x .f64 < 18446744073709551616 := by simpa [Lit.wf] using fconv_wf .f32 x .f64
theorem widen_pick {x : Nat} (h : isFin .f32 x = true) (s : Nat) : pick .f64 (fconv .f32 x .f64) s = fconv .f32 x .f64 := by
  refine pick_num ?_ s
  have h2 : isFin .f64 (fconv .f32 x .f64) = true := by rw [isFin_widen]; exact h
  unfold isFin at h2; simp at h2; exact h2.1
set_option maxHeartbeats 1000000 in
theorem specAngle_any (y x : Nat) (w : World) : Calls Try.prog 15 #[.float .f32 y, .float .f32 x] w (RetA .f32 (angT y x) w) := by
  have hp := order_pick_l .f64
  have hq := order_pick_r .f64
  have hl := fun op => fbin_pick_l op .f64
  have hr := fun op => fbin_pick_r op .f64
  cases hy : isFin .f32 y
  · have hT : angT y x = qnan .f32 := by unfold angT angBad; rw [hy]; rfl
    have g0 := guard_not (Y := fconv .f32 y .f64) (by rw [isFin_widen]; exact hy)
    have hz := run_nan_from'
    have hc := conv_nan'
    rw [hT]
    clear hT hy
    go_enter Try.func15, Try.ntmps15
    go_wp2_with (first | ((with_reducible refine wpL_fconv ?_); refine ⟨_, _, _, rfl, Option.isSome_iff_exists.2 ⟨_, Try.underlying22⟩, Try.underlying25, FloatKind.noConfusion, convOk_widen _, fun s n => ?_⟩) | ((with_reducible refine wpL_fconv ?_); refine ⟨_, _, _, rfl, Option.isSome_iff_exists.2 ⟨_, Try.underlying25⟩, Try.underlying22, FloatKind.noConfusion, convOk_nan', fun s n => ?_⟩) | ((with_reducible refine wpL_fbin ?_); refine ⟨_, _, _, rfl, rfl, rfl, fun s n => ?_⟩) | go_in)
    go_ret
    exact ⟨_, _, rfl, rfl⟩
  · have g0 := guard_fin (Y := fconv .f32 y .f64) (by rw [isFin_widen]; exact hy)
    cases hx : isFin .f32 x
    · have hT : angT y x = qnan .f32 := by unfold angT angBad; rw [hy, hx]; rfl
      have g1 := guard_not (Y := fconv .f32 x .f64) (by rw [isFin_widen]; exact hx)
      have hz := run_nan_from'
      have hc := conv_nan'
      rw [hT]
      clear hT hy hx
      go_enter Try.func15, Try.ntmps15
      go_wp2_with (first | ((with_reducible refine wpL_fconv ?_); refine ⟨_, _, _, rfl, Option.isSome_iff_exists.2 ⟨_, Try.underlying22⟩, Try.underlying25, FloatKind.noConfusion, convOk_widen _, fun s n => ?_⟩) | ((with_reducible refine wpL_fconv ?_); refine ⟨_, _, _, rfl, Option.isSome_iff_exists.2 ⟨_, Try.underlying25⟩, Try.underlying22, FloatKind.noConfusion, convOk_nan', fun s n => ?_⟩) | ((with_reducible refine wpL_fbin ?_); refine ⟨_, _, _, rfl, rfl, rfl, fun s n => ?_⟩) | ((with_reducible refine wpL_fbin_g ?_); refine ⟨rfl, _, _, _, rfl, rfl, rfl, fun s n => ?_⟩) | go_in)
      go_ret
      exact ⟨_, _, rfl, rfl⟩
    · have g1 := guard_fin (Y := fconv .f32 x .f64) (by rw [isFin_widen]; exact hx)
      obtain ⟨s, m, i, dy⟩ := fin_decode' hy
      obtain ⟨t, n, j, dx⟩ := fin_decode' hx
      have oy := order_widen dy
      have ox := order_widen dx
      cases hn : angNul y x
      · have hT : angT y x = fconv .f64 (angW (fconv .f32 y .f64) (fconv .f32 x .f64)) .f32 := by unfold angT angBad; rw [hy, hx, hn]; rfl
        have fY : isFin .f64 (fconv .f32 y .f64) = true := by rw [isFin_widen]; exact hy
        have fX : isFin .f64 (fconv .f32 x .f64) = true := by rw [isFin_widen]; exact hx
        have hz : (FloatKind.f64.format.order (fconv .f32 x .f64) 0 == some .eq) = false ∨ ((FloatKind.f64.format.order (fconv .f32 x .f64) 0 == some .eq) = true ∧ (FloatKind.f64.format.order (fconv .f32 y .f64) 0 == some .eq) = false) := by
          rw [oy, ox]
          unfold angNul at hn
          cases hc : (FloatKind.f32.format.order x 0 == some .eq)
          · exact .inl rfl
          · rw [hc] at hn; exact .inr ⟨rfl, by simpa using hn⟩
        have HW := Lib.hid (fun w => angleWide_any _ _ (widen_lt y) (widen_lt x) fY fX hz w)
        obtain ⟨s', m', i', dY⟩ := fin_decode' fY
        obtain ⟨t', n', j', dX⟩ := fin_decode' fX
        have hne : m' ≠ 0 ∨ n' ≠ 0 := by
          rw [order_zero dX, order_zero dY] at hz
          simp at hz
          omega
        have HO := Lib.hid (convOk_narrow (bd_angW dY dX hne).2 (by decide))
        have py := widen_pick hy
        have px := widen_pick hx
        rw [hT]
        clear hT hz fY fX oy ox hn hy hx g0 g1 dY dX hne dy dx
        go_enter Try.func15, Try.ntmps15
        go_wp2_with (first | ((with_reducible refine wpL_fconv ?_); refine ⟨_, _, _, rfl, Option.isSome_iff_exists.2 ⟨_, Try.underlying22⟩, Try.underlying25, FloatKind.noConfusion, convOk_widen _, fun s n => ?_⟩) | ((with_reducible refine wpL_fconv ?_); refine ⟨_, _, _, rfl, Option.isSome_iff_exists.2 ⟨_, Try.underlying25⟩, Try.underlying22, FloatKind.noConfusion, HO.out, fun s n => ?_⟩) | (go_at_call 55; refine (HW.out _).mono ?_; rintro e w' ⟨rfl, n, rfl⟩) | go_in)
        go_ret
        exact ⟨_, _, rfl, rfl⟩
      · have hT : angT y x = 0 := by unfold angT angBad; rw [hy, hx, hn]; rfl
        have hn' := hn
        unfold angNul at hn'
        rw [Bool.and_eq_true] at hn'
        have z1 : (FloatKind.f64.format.order (fconv .f32 x .f64) 0 == some .eq) = true := by rw [ox]; exact hn'.1
        have z2 : (FloatKind.f64.format.order (fconv .f32 y .f64) 0 == some .eq) = true := by rw [oy]; exact hn'.2
        have hc := conv_zero'
        rw [hT]
        clear hT hn hn' oy ox hy hx dy dx
        go_enter Try.func15, Try.ntmps15
        go_wp2_with (first | ((with_reducible refine wpL_fconv ?_); refine ⟨_, _, _, rfl, Option.isSome_iff_exists.2 ⟨_, Try.underlying22⟩, Try.underlying25, FloatKind.noConfusion, convOk_widen _, fun s n => ?_⟩) | ((with_reducible refine wpL_fconv ?_); refine ⟨_, _, _, rfl, Option.isSome_iff_exists.2 ⟨_, Try.underlying25⟩, Try.underlying22, FloatKind.noConfusion, convOk_zero', fun s n => ?_⟩) | ((with_reducible refine wpL_fbin ?_); refine ⟨_, _, _, rfl, rfl, rfl, fun s n => ?_⟩) | ((with_reducible refine wpL_fbin_g ?_); refine ⟨rfl, _, _, _, rfl, rfl, rfl, fun s n => ?_⟩) | go_in)
        go_ret
        exact ⟨_, _, rfl, rfl⟩
theorem abs_lt' (x : Nat) : absw x < 18446744073709551616 := by unfold absw; have := Nat.mod_lt x (show 0 < 9223372036854775808 by omega); omega

set_option maxHeartbeats 400000 in
theorem implAngle_bad (y x : Nat) (h : angBad y x = true) (w : World) : Calls Try.prog 16 #[.float .f32 y, .float .f32 x] w (RetA .f32 (qnan .f32) w) := by
  have hz := run_nan_from'
  have hc := conv_nan'
  cases hy : isFin .f32 y
  · clear h
    go_enter Try.func16, Try.ntmps16
    go_wp2_with (first | ((with_reducible refine wpL_fconv ?_); refine ⟨_, _, _, rfl, Option.isSome_iff_exists.2 ⟨_, Try.underlying25⟩, Try.underlying22, FloatKind.noConfusion, convOk_nan', fun s n => ?_⟩) | (go_at_call 31; refine (IsFinite_any _ _).mono ?_; rintro e w' ⟨rfl, n, rfl⟩) | go_in)
    go_ret
    exact ⟨_, _, rfl, rfl⟩
  · have hx : isFin .f32 x = false := by unfold angBad at h; rw [hy] at h; simpa using h
    clear h
    go_enter Try.func16, Try.ntmps16
    go_wp2_with (first | ((with_reducible refine wpL_fconv ?_); refine ⟨_, _, _, rfl, Option.isSome_iff_exists.2 ⟨_, Try.underlying25⟩, Try.underlying22, FloatKind.noConfusion, convOk_nan', fun s n => ?_⟩) | (go_at_call 31; refine (IsFinite_any _ _).mono ?_; rintro e w' ⟨rfl, n, rfl⟩) | go_in)
    go_ret
    exact ⟨_, _, rfl, rfl⟩
set_option maxHeartbeats 400000 in
theorem implAngle_nul (y x : Nat) (hy : isFin .f32 y = true) (hx : isFin .f32 x = true) (h : angNul y x = true) (w : World) : Calls Try.prog 16 #[.float .f32 y, .float .f32 x] w (RetA .f32 0 w) := by
  unfold angNul at h
  rw [Bool.and_eq_true] at h
  obtain ⟨h1, h2⟩ := h
  go_enter Try.func16, Try.ntmps16
  go_wp2_with (first | (go_at_call 31; refine (IsFinite_any _ _).mono ?_; rintro e w' ⟨rfl, n, rfl⟩) | go_in)
  go_ret
  exact ⟨0, _, by rw [pick_num num_zero32]; rfl, rfl⟩

set_option maxHeartbeats 800000 in
theorem implAngle_00 (y x : Nat) (hy : isFin .f32 y = true) (hx : isFin .f32 x = true) (hn : angNul y x = false) (h1 : (FloatKind.f32.format.order x 0 == some .lt) = false) (h2 : (FloatKind.f32.format.order y 0 == some .lt) = false)
    (hok : convOk .f64 (angY false (angX false (steepA (absw (fconv .f32 y .f64)) (absw (fconv .f32 x .f64))))) .f32)
    (hnum : isNaN .f64 (angX false (steepA (absw (fconv .f32 y .f64)) (absw (fconv .f32 x .f64)))) = false) (w : World) :
    Calls Try.prog 16 #[.float .f32 y, .float .f32 x] w (RetA .f32 (fconv .f64 (angY false (angX false (steepA (absw (fconv .f32 y .f64)) (absw (fconv .f32 x .f64))))) .f32) w) := by
  have hl := fun op => fbin_pick_l op .f64
  have hr := fun op => fbin_pick_r op .f64
  have py := widen_pick hy
  have px := widen_pick hx
  have ly := widen_lt y
  have lx := widen_lt x
  obtain ⟨S, hS⟩ : ∃ S, S = steepA (absw (fconv .f32 y .f64)) (absw (fconv .f32 x .f64)) := ⟨_, rfl⟩
  have HC := Lib.hid (fun w => steepAngle_any (absw (fconv .f32 y .f64)) (absw (fconv .f32 x .f64)) w)
  rw [← hS] at hok hnum HC ⊢
  obtain ⟨R, hR⟩ : ∃ R, R = angX false S := ⟨_, rfl⟩
  have hR2 : S = R := by rw [hR]; rfl
  rw [← hR] at hok hnum ⊢
  have pR : ∀ s, pick .f64 R s = R := fun s => pick_num hnum s
  skip
  have hF : angY false R = R := by unfold angY; rfl
  rw [hF] at hok ⊢
  subst hR2
  have HO := Lib.hid hok
  have hno : ((FloatKind.f32.format.order y 0 == some .eq) = false) ∨ ((FloatKind.f32.format.order y 0 == some .eq) = true ∧ (FloatKind.f32.format.order x 0 == some .eq) = false) := by
    unfold angNul at hn
    cases hc : (FloatKind.f32.format.order y 0 == some .eq)
    · exact .inl rfl
    · rw [hc] at hn; exact .inr ⟨rfl, by simpa using hn⟩
  clear hok hS hnum hn hF  hR
  rcases hno with z1 | ⟨z1, z2⟩
  all_goals go_enter Try.func16, Try.ntmps16
  all_goals go_wp2_with (first | ((with_reducible refine wpL_fconv ?_); refine ⟨_, _, _, rfl, Option.isSome_iff_exists.2 ⟨_, Try.underlying22⟩, Try.underlying25, FloatKind.noConfusion, convOk_widen _, fun s n => ?_⟩) | ((with_reducible refine wpL_fconv ?_); refine ⟨_, _, _, rfl, Option.isSome_iff_exists.2 ⟨_, Try.underlying25⟩, Try.underlying22, FloatKind.noConfusion, HO.out, fun s n => ?_⟩) | ((with_reducible refine wpL_fbin ?_); refine ⟨_, _, _, rfl, rfl, rfl, fun s n => ?_⟩) | ((with_reducible refine wpL_fneg ?_); refine ⟨_, _, rfl, ?_⟩) | (go_at_call 31; refine (IsFinite_any _ _).mono ?_; rintro e w' ⟨rfl, n, rfl⟩) | (go_at_call 33; refine (mathAbs_any _ _ (by assumption)).mono ?_; rintro e w' ⟨rfl, rfl⟩) | (go_at_call 37; refine (HC.out _).mono ?_; rintro e w' ⟨s, n, rfl, rfl⟩) | go_in)
  all_goals go_ret
  all_goals exact ⟨_, _, rfl, rfl⟩

set_option maxHeartbeats 800000 in
theorem implAngle_01 (y x : Nat) (hy : isFin .f32 y = true) (hx : isFin .f32 x = true) (hn : angNul y x = false) (h1 : (FloatKind.f32.format.order x 0 == some .lt) = false) (h2 : (FloatKind.f32.format.order y 0 == some .lt) = true)
    (hok : convOk .f64 (angY true (angX false (steepA (absw (fconv .f32 y .f64)) (absw (fconv .f32 x .f64))))) .f32)
    (hnum : isNaN .f64 (angX false (steepA (absw (fconv .f32 y .f64)) (absw (fconv .f32 x .f64)))) = false) (w : World) :
    Calls Try.prog 16 #[.float .f32 y, .float .f32 x] w (RetA .f32 (fconv .f64 (angY true (angX false (steepA (absw (fconv .f32 y .f64)) (absw (fconv .f32 x .f64))))) .f32) w) := by
  have hl := fun op => fbin_pick_l op .f64
  have hr := fun op => fbin_pick_r op .f64
  have py := widen_pick hy
  have px := widen_pick hx
  have ly := widen_lt y
  have lx := widen_lt x
  obtain ⟨S, hS⟩ : ∃ S, S = steepA (absw (fconv .f32 y .f64)) (absw (fconv .f32 x .f64)) := ⟨_, rfl⟩
  have HC := Lib.hid (fun w => steepAngle_any (absw (fconv .f32 y .f64)) (absw (fconv .f32 x .f64)) w)
  rw [← hS] at hok hnum HC ⊢
  obtain ⟨R, hR⟩ : ∃ R, R = angX false S := ⟨_, rfl⟩
  have hR2 : S = R := by rw [hR]; rfl
  rw [← hR] at hok hnum ⊢
  have pR : ∀ s, pick .f64 R s = R := fun s => pick_num hnum s
  have hng : fneg .f64 R = Op.negFloat .f64 R := fneg_num hnum
  have hF : angY true R = Op.negFloat .f64 R := by unfold angY; rw [if_pos rfl, hng]
  rw [hF] at hok ⊢
  subst hR2
  have HO := Lib.hid hok
  have hno : ((FloatKind.f32.format.order y 0 == some .eq) = false) ∨ ((FloatKind.f32.format.order y 0 == some .eq) = true ∧ (FloatKind.f32.format.order x 0 == some .eq) = false) := by
    unfold angNul at hn
    cases hc : (FloatKind.f32.format.order y 0 == some .eq)
    · exact .inl rfl
    · rw [hc] at hn; exact .inr ⟨rfl, by simpa using hn⟩
  clear hok hS hnum hn hF hng hR
  rcases hno with z1 | ⟨z1, z2⟩
  all_goals go_enter Try.func16, Try.ntmps16
  all_goals go_wp2_with (first | ((with_reducible refine wpL_fconv ?_); refine ⟨_, _, _, rfl, Option.isSome_iff_exists.2 ⟨_, Try.underlying22⟩, Try.underlying25, FloatKind.noConfusion, convOk_widen _, fun s n => ?_⟩) | ((with_reducible refine wpL_fconv ?_); refine ⟨_, _, _, rfl, Option.isSome_iff_exists.2 ⟨_, Try.underlying25⟩, Try.underlying22, FloatKind.noConfusion, HO.out, fun s n => ?_⟩) | ((with_reducible refine wpL_fbin ?_); refine ⟨_, _, _, rfl, rfl, rfl, fun s n => ?_⟩) | ((with_reducible refine wpL_fneg ?_); refine ⟨_, _, rfl, ?_⟩) | (go_at_call 31; refine (IsFinite_any _ _).mono ?_; rintro e w' ⟨rfl, n, rfl⟩) | (go_at_call 33; refine (mathAbs_any _ _ (by assumption)).mono ?_; rintro e w' ⟨rfl, rfl⟩) | (go_at_call 37; refine (HC.out _).mono ?_; rintro e w' ⟨s, n, rfl, rfl⟩) | go_in)
  all_goals go_ret
  all_goals exact ⟨_, _, rfl, rfl⟩

set_option maxHeartbeats 800000 in
theorem implAngle_10 (y x : Nat) (hy : isFin .f32 y = true) (hx : isFin .f32 x = true) (hn : angNul y x = false) (h1 : (FloatKind.f32.format.order x 0 == some .lt) = true) (h2 : (FloatKind.f32.format.order y 0 == some .lt) = false)
    (hok : convOk .f64 (angY false (angX true (steepA (absw (fconv .f32 y .f64)) (absw (fconv .f32 x .f64))))) .f32)
    (hnum : isNaN .f64 (angX true (steepA (absw (fconv .f32 y .f64)) (absw (fconv .f32 x .f64)))) = false) (w : World) :
    Calls Try.prog 16 #[.float .f32 y, .float .f32 x] w (RetA .f32 (fconv .f64 (angY false (angX true (steepA (absw (fconv .f32 y .f64)) (absw (fconv .f32 x .f64))))) .f32) w) := by
  have hl := fun op => fbin_pick_l op .f64
  have hr := fun op => fbin_pick_r op .f64
  have py := widen_pick hy
  have px := widen_pick hx
  have ly := widen_lt y
  have lx := widen_lt x
  obtain ⟨S, hS⟩ : ∃ S, S = steepA (absw (fconv .f32 y .f64)) (absw (fconv .f32 x .f64)) := ⟨_, rfl⟩
  have HC := Lib.hid (fun w => steepAngle_any (absw (fconv .f32 y .f64)) (absw (fconv .f32 x .f64)) w)
  rw [← hS] at hok hnum HC ⊢
  obtain ⟨R, hR⟩ : ∃ R, R = angX true S := ⟨_, rfl⟩
  have hR2 : fbin .sub .f64 4602678819172646912 S = R := by rw [hR]; rfl
  rw [← hR] at hok hnum ⊢
  have pR : ∀ s, pick .f64 R s = R := fun s => pick_num hnum s
  skip
  have hF : angY false R = R := by unfold angY; rfl
  rw [hF] at hok ⊢
  
  have HO := Lib.hid hok
  have hno : ((FloatKind.f32.format.order y 0 == some .eq) = false) ∨ ((FloatKind.f32.format.order y 0 == some .eq) = true ∧ (FloatKind.f32.format.order x 0 == some .eq) = false) := by
    unfold angNul at hn
    cases hc : (FloatKind.f32.format.order y 0 == some .eq)
    · exact .inl rfl
    · rw [hc] at hn; exact .inr ⟨rfl, by simpa using hn⟩
  clear hok hS hnum hn hF  hR
  rcases hno with z1 | ⟨z1, z2⟩
  all_goals go_enter Try.func16, Try.ntmps16
  all_goals go_wp2_with (first | ((with_reducible refine wpL_fconv ?_); refine ⟨_, _, _, rfl, Option.isSome_iff_exists.2 ⟨_, Try.underlying22⟩, Try.underlying25, FloatKind.noConfusion, convOk_widen _, fun s n => ?_⟩) | ((with_reducible refine wpL_fconv ?_); refine ⟨_, _, _, rfl, Option.isSome_iff_exists.2 ⟨_, Try.underlying25⟩, Try.underlying22, FloatKind.noConfusion, HO.out, fun s n => ?_⟩) | ((with_reducible refine wpL_fbin ?_); refine ⟨_, _, _, rfl, rfl, rfl, fun s n => ?_⟩) | ((with_reducible refine wpL_fneg ?_); refine ⟨_, _, rfl, ?_⟩) | (go_at_call 31; refine (IsFinite_any _ _).mono ?_; rintro e w' ⟨rfl, n, rfl⟩) | (go_at_call 33; refine (mathAbs_any _ _ (by assumption)).mono ?_; rintro e w' ⟨rfl, rfl⟩) | (go_at_call 37; refine (HC.out _).mono ?_; rintro e w' ⟨s, n, rfl, rfl⟩) | go_in)
  all_goals go_ret
  all_goals exact ⟨_, _, rfl, rfl⟩

set_option maxHeartbeats 800000 in
theorem implAngle_11 (y x : Nat) (hy : isFin .f32 y = true) (hx : isFin .f32 x = true) (hn : angNul y x = false) (h1 : (FloatKind.f32.format.order x 0 == some .lt) = true) (h2 : (FloatKind.f32.format.order y 0 == some .lt) = true)
    (hok : convOk .f64 (angY true (angX true (steepA (absw (fconv .f32 y .f64)) (absw (fconv .f32 x .f64))))) .f32)
    (hnum : isNaN .f64 (angX true (steepA (absw (fconv .f32 y .f64)) (absw (fconv .f32 x .f64)))) = false) (w : World) :
    Calls Try.prog 16 #[.float .f32 y, .float .f32 x] w (RetA .f32 (fconv .f64 (angY true (angX true (steepA (absw (fconv .f32 y .f64)) (absw (fconv .f32 x .f64))))) .f32) w) := by
  have hl := fun op => fbin_pick_l op .f64
  have hr := fun op => fbin_pick_r op .f64
  have py := widen_pick hy
  have px := widen_pick hx
  have ly := widen_lt y
  have lx := widen_lt x
  obtain ⟨S, hS⟩ : ∃ S, S = steepA (absw (fconv .f32 y .f64)) (absw (fconv .f32 x .f64)) := ⟨_, rfl⟩
  have HC := Lib.hid (fun w => steepAngle_any (absw (fconv .f32 y .f64)) (absw (fconv .f32 x .f64)) w)
  rw [← hS] at hok hnum HC ⊢
  obtain ⟨R, hR⟩ : ∃ R, R = angX true S := ⟨_, rfl⟩
  have hR2 : fbin .sub .f64 4602678819172646912 S = R := by rw [hR]; rfl
  rw [← hR] at hok hnum ⊢
  have pR : ∀ s, pick .f64 R s = R := fun s => pick_num hnum s
  have hng : fneg .f64 R = Op.negFloat .f64 R := fneg_num hnum
  have hF : angY true R = Op.negFloat .f64 R := by unfold angY; rw [if_pos rfl, hng]
  rw [hF] at hok ⊢
  
  have HO := Lib.hid hok
  have hno : ((FloatKind.f32.format.order y 0 == some .eq) = false) ∨ ((FloatKind.f32.format.order y 0 == some .eq) = true ∧ (FloatKind.f32.format.order x 0 == some .eq) = false) := by
    unfold angNul at hn
    cases hc : (FloatKind.f32.format.order y 0 == some .eq)
    · exact .inl rfl
    · rw [hc] at hn; exact .inr ⟨rfl, by simpa using hn⟩
  clear hok hS hnum hn hF hng hR
  rcases hno with z1 | ⟨z1, z2⟩
  all_goals go_enter Try.func16, Try.ntmps16
  all_goals go_wp2_with (first | ((with_reducible refine wpL_fconv ?_); refine ⟨_, _, _, rfl, Option.isSome_iff_exists.2 ⟨_, Try.underlying22⟩, Try.underlying25, FloatKind.noConfusion, convOk_widen _, fun s n => ?_⟩) | ((with_reducible refine wpL_fconv ?_); refine ⟨_, _, _, rfl, Option.isSome_iff_exists.2 ⟨_, Try.underlying25⟩, Try.underlying22, FloatKind.noConfusion, HO.out, fun s n => ?_⟩) | ((with_reducible refine wpL_fbin ?_); refine ⟨_, _, _, rfl, rfl, rfl, fun s n => ?_⟩) | ((with_reducible refine wpL_fneg ?_); refine ⟨_, _, rfl, ?_⟩) | (go_at_call 31; refine (IsFinite_any _ _).mono ?_; rintro e w' ⟨rfl, n, rfl⟩) | (go_at_call 33; refine (mathAbs_any _ _ (by assumption)).mono ?_; rintro e w' ⟨rfl, rfl⟩) | (go_at_call 37; refine (HC.out _).mono ?_; rintro e w' ⟨s, n, rfl, rfl⟩) | go_in)
  all_goals go_ret
  all_goals exact ⟨_, _, rfl, rfl⟩

theorem implAngle_any (y x : Nat) (w : World) : Calls Try.prog 16 #[.float .f32 y, .float .f32 x] w (RetA .f32 (angT y x) w) := by
  cases hb : angBad y x
  · have hyx : isFin .f32 y = true ∧ isFin .f32 x = true := by unfold angBad at hb; simpa using hb
    obtain ⟨hy, hx⟩ := hyx
    cases hn : angNul y x
    · have hT : angT y x = fconv .f64 (angW (fconv .f32 y .f64) (fconv .f32 x .f64)) .f32 := by unfold angT; rw [hb, hn]; rfl
      obtain ⟨s, m, i, dy⟩ := fin_decode' hy
      obtain ⟨t, n, j, dx⟩ := fin_decode' hx
      have oy := order_widen dy
      have ox := order_widen dx
      obtain ⟨m', i', dY, vY⟩ := widen_val dy
      obtain ⟨n', j', dX, vX⟩ := widen_val dx
      have hne : m' ≠ 0 ∨ n' ≠ 0 := by
        have e1 := order_zero dX
        have e2 := order_zero dY
        rw [ox] at e1
        rw [oy] at e2
        unfold angNul at hn
        rw [e1, e2] at hn
        simp at hn
        omega
      obtain ⟨hnum, hbd⟩ := bd_angW dY dX hne
      have hok := convOk_narrow hbd (by decide)
      rw [hT]
      unfold angW at hok ⊢
      have lx : lt64 (fconv .f32 x .f64) 0 = (FloatKind.f32.format.order x 0 == some .lt) := by unfold lt64; rw [ox]
      have ly : lt64 (fconv .f32 y .f64) 0 = (FloatKind.f32.format.order y 0 == some .lt) := by unfold lt64; rw [oy]
      rw [lx] at hnum hok ⊢
      rw [ly] at hok ⊢
      cases h1 : (FloatKind.f32.format.order x 0 == some .lt) <;> cases h2 : (FloatKind.f32.format.order y 0 == some .lt) <;> rw [h1] at hnum hok <;> rw [h2] at hok
      · exact implAngle_00 y x hy hx hn h1 h2 hok hnum w
      · exact implAngle_01 y x hy hx hn h1 h2 hok hnum w
      · exact implAngle_10 y x hy hx hn h1 h2 hok hnum w
      · exact implAngle_11 y x hy hx hn h1 h2 hok hnum w
    · have hT : angT y x = 0 := by unfold angT; rw [hb, hn]; rfl
      rw [hT]
      exact implAngle_nul y x hy hx hn w
  · have hT : angT y x = qnan .f32 := by unfold angT; rw [hb]; rfl
    rw [hT]
    exact implAngle_bad y x hb w
set_option maxHeartbeats 400000 in
theorem lawAngle_any (y : Nat) (_hy : (Lit.float .f32 y).wf = true) (x : Nat) (_hx : (Lit.float .f32 x).wf = true) (w : World) :
    Calls Try.prog 5 #[.float .f32 y, .float .f32 x] w fun e w' => e = .returned (.bool true) ∧ Grown w w' := by
  have hc : ∀ X s t, canon .f64 (pick .f64 X s) = canon .f64 (pick .f64 X t) := fun X s t => by rw [canon_pick, canon_pick]
  have hp : ∀ X s, fconv .f32 (pick .f32 X s) .f64 = fconv .f32 X .f64 := fun X s => fconv_pick .f32 X s .f64
  generalize hS : angT y x = S
  go_enter Try.func5, Try.ntmps5
  go_wp2_with (first | ((with_reducible refine wpL_fconv ?_); refine ⟨_, _, _, rfl, Option.isSome_iff_exists.2 ⟨_, Try.underlying22⟩, Try.underlying25, FloatKind.noConfusion, convOk_widen _, fun s n => ?_⟩) | (go_at_call 12; refine (sameFloat_any _ _ _ (hc _ _ _)).mono ?_; rintro e w' ⟨rfl, n, rfl⟩) | (go_at_call 15; refine (specAngle_any _ _ _).mono ?_; rw [hS]; rintro e w' ⟨s, n, rfl, rfl⟩) | (go_at_call 16; refine (implAngle_any _ _ _).mono ?_; rw [hS]; rintro e w' ⟨s, n, rfl, rfl⟩))
  all_goals go_ret
  all_goals exact ⟨by simp, grown_drewN _ _⟩
set_option maxRecDepth 100000 in
theorem FnExactAngleTurns_lifted (os : Os) (started : os.Started) (H : Type) (enc : TypeId × Value → H) :
    ReturnsInHanded {} Try.checked os 5 .any (Rows.fnExactAngleTurnsSpec.pre6 enc Try.prog Try.f5 Rows.fnExactAngleTurnsRow.domain false) (Rows.fnExactAngleTurnsSpec.post enc Try.prog Try.f5 false true false false) := by
  refine returnsInHanded_of_change (C := Try.checked) ownKnob_none started (by kernel_rfl) Try.func5
    (ChangeSpec.witness6 (enc := enc) (C := Try.checked) false ⟨#[], #[.float .f32 0, .float .f32 0], []⟩ 8 (by kernel_rfl) (by kernel_rfl) (by kernel_rfl) (by kernel_rfl)) ?_
  intro W base args ds gs before hval0 hW _ _
  have hval : ∀ (j : Nat) t v, Try.f5.params[j]? = some t → args[j]? = some v → Value.okWide Try.prog W .any base t v := hval0
  have hW' := hW
  obtain ⟨p, q, hA0, hV, rfl, hfz, hnd⟩ := hW
  have hA : DataW.TrodAll enc Try.prog W 0 (fun _ => true) true Try.f5.params.toList args.toList ds p := hA0
  rw [Try.params5] at hA hval
  obtain ⟨v0, v1, d0, d1, p0, p1, rfl, rfl, rfl, h0, h1⟩ := trodAll_two hA
  obtain ⟨rfl, rfl⟩ := trodVars_none hV
  obtain ⟨a0, rfl, rfl, rfl, w0⟩ := open_float Try.underlying22 (hval 0 22 v0 rfl rfl) h0
  obtain ⟨a1, rfl, rfl, rfl, w1⟩ := open_float Try.underlying22 (hval 1 22 v1 rfl rfl) h1
  clear hA0 hval0
  simp only [List.append_nil] at hW'
  refine (lawAngle_any a0 w0 a1 w1 W).mono fun e W' ⟨he, hg⟩ => ?_
  subst he
  exact ⟨_, rfl, post_of_same (pa := []) (pv := []) hW' (fun _ _ _ => (trodAll_cons_mk (shut_bool Try.underlying4 _) trodAll_mk0)) (fun sp _ => trodAll_mk2 (shut_float Try.underlying22 w0) (shut_float Try.underlying22 w1)) (fun _ _ => rfl) rfl
    (hg.frame _) hg.2.1 (ok_one (by kernel_rfl) rfl (okWide_bool_mk Try.underlying4 _))⟩
theorem FnExactAngleTurns_holds : Rows.FnExactAngleTurnsSaid :=
  OpenClaim.holds_of_wide 5 Try.f5 rfl rfl rfl rfl rfl rfl rfl ⟨rfl, rfl, rfl, rfl, rfl⟩ rfl rfl rfl rfl rfl (by kernel_rfl) Try.func5 (by kernel_rfl)
    (of_decide_eq_true (by kernel_rfl)) (by unfold Func.isWrapper; first | (rw [if_pos (by decide +kernel)]; kernel_rfl) | (rw [if_neg (by decide +kernel)]; exact ⟨rfl, rfl⟩))
    (fun os started H enc _ => FnExactAngleTurns_lifted os started H enc)
end Go.Proofs.Ythpdiknpfpejlad
