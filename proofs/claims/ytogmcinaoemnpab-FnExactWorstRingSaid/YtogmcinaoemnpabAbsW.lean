
/- The walks of what asks whether a number is finite. -/
import Derived.Test.YtogmcinaoemnpabFin
import Derived.Test.YtogmcinaoemnpabSameA
namespace Go.Proofs.Ytogmcinaoemnpab
open Go Go.RowKit

set_option maxHeartbeats 400000 in
theorem mathIsNaN_any (x : Nat) (w : World) :
    Calls Try.prog 102 #[.float .f64 x] w fun e w' => e = .returned (.bool (isNaN .f64 x)) ∧ w = w' := by
  have h1 := order_neq_self .f64 x
  go_enter Try.func102, Try.ntmps102
  go_wp2
  go_ret
  exact ⟨rfl, rfl⟩
theorem run_f64bits (x : Nat) (w : World) : (callFunc 113 #[.float .f64 x]).run Try.prog w = .ok (.value (.int .u64 x)) w := by kernel_rfl
theorem run_f64from (x : Int) (w : World) : (callFunc 112 #[.int .u64 x]).run Try.prog w = .ok (.value (.float .f64 x.toNat)) w := by kernel_rfl
theorem bits_abs (x : Nat) (hx : x < 18446744073709551616) : (bits .andNot .u64 (x : Int) 9223372036854775808).toNat = absw x := by
  have h := u64_andNot_nat x 9223372036854775808 hx (by omega)
  have e : (18446744073709551615 - 9223372036854775808 : Nat) = 2 ^ 63 - 1 := rfl
  rw [e, Nat.and_two_pow_sub_one_eq_mod] at h
  have h' : bits .andNot .u64 (x : Int) 9223372036854775808 = ((x % 2 ^ 63 : Nat) : Int) := h
  rw [h', Int.toNat_natCast]
  rfl
set_option maxHeartbeats 400000 in
theorem mathAbs_any (x : Nat) (w : World) (hx : x < 18446744073709551616) :
    Calls Try.prog 110 #[.float .f64 x] w fun e w' => e = .returned (.float .f64 (absw x)) ∧ w = w' := by
  have hb := run_f64bits
  have hf := run_f64from
  have ha := bits_abs x hx
  go_enter Try.func110, Try.ntmps110
  go_wp2
  go_ret
  exact ⟨rfl, rfl⟩
set_option maxHeartbeats 400000 in
theorem mathIsInf_any (x : Nat) (w : World) (hx : x < 18446744073709551616) :
    Calls Try.prog 103 #[.float .f64 x, .int .i64 0] w fun e w' => e = .returned (.bool (Ieee.double.read x).isInfinity) ∧ w = w' := by
  have h1 := order_abs_max x
  go_enter Try.func103, Try.ntmps103
  go_wp2_with (go_at_call 110; refine (mathAbs_any _ _ hx).mono ?_; rintro e w' ⟨rfl, rfl⟩)
  go_ret
  exact ⟨rfl, rfl⟩
set_option maxHeartbeats 400000 in
theorem isFiniteWide_any (x : Nat) (w : World) (hx : x < 18446744073709551616) :
    Calls Try.prog 90 #[.float .f64 x] w fun e w' => e = .returned (.bool (isFin .f64 x)) ∧ w = w' := by
  cases hn : isNaN .f64 x
  · cases hi : (Ieee.double.read x).isInfinity
    · have hr : isFin .f64 x = true := by have hn' : (FloatKind.f64.decode x).isNaN = false := hn; have hi' : (FloatKind.f64.decode x).isInfinity = false := hi; simp [isFin, hn', hi']
      rw [hr]
      clear hr
      go_enter Try.func90, Try.ntmps90
      go_wp2_with (first | (go_at_call 102; refine (mathIsNaN_any _ _).mono ?_; rintro e w' ⟨rfl, rfl⟩) | (go_at_call 103; refine (mathIsInf_any _ _ hx).mono ?_; rintro e w' ⟨rfl, rfl⟩))
      go_ret
      exact ⟨rfl, rfl⟩
    · have hr : isFin .f64 x = false := by have hi' : (FloatKind.f64.decode x).isInfinity = true := hi; simp [isFin, hi']
      rw [hr]
      clear hr
      go_enter Try.func90, Try.ntmps90
      go_wp2_with (first | (go_at_call 102; refine (mathIsNaN_any _ _).mono ?_; rintro e w' ⟨rfl, rfl⟩) | (go_at_call 103; refine (mathIsInf_any _ _ hx).mono ?_; rintro e w' ⟨rfl, rfl⟩))
      go_ret
      exact ⟨rfl, rfl⟩
  · have hr : isFin .f64 x = false := by have hn' : (FloatKind.f64.decode x).isNaN = true := hn; simp [isFin, hn']
    rw [hr]
    clear hr
    go_enter Try.func90, Try.ntmps90
    go_wp2_with (first | (go_at_call 102; refine (mathIsNaN_any _ _).mono ?_; rintro e w' ⟨rfl, rfl⟩) | (go_at_call 103; refine (mathIsInf_any _ _ hx).mono ?_; rintro e w' ⟨rfl, rfl⟩))
    go_ret
    exact ⟨rfl, rfl⟩
theorem isFin_pick (k : FloatKind) (X s : Nat) : isFin k (pick k X s) = isFin k X := by
  cases h : isNaN k X
  · rw [pick_num h]
  · have h1 : (k.decode X).isNaN = true := h
    have h2 : (k.decode (pick k X s)).isNaN = true := (isNaN_pick k X s).trans h
    simp [isFin, h1, h2]
theorem isFin_widen (x : Nat) : isFin .f64 (fconv .f32 x .f64) = isFin .f32 x := by
  rcases isFin_cases .f32 x with h | ⟨s, h⟩ | ⟨s, m, e, h⟩
  · have h1 : (FloatKind.decode .f32 x).isNaN = true := h
    have h2 : (FloatKind.decode .f64 (fconv .f32 x .f64)).isNaN = true := (isNaN_fconv .f32 x .f64).trans h
    simp [isFin, h1, h2]
  · have hn : isNaN .f32 x = false := by simp [isNaN, FloatKind.decode, h, Ieee.Datum.isNaN]
    have hd : FloatKind.decode .f32 x = .infinity s := h
    have : fconv .f32 x .f64 = FloatKind.encode .f64 (.infinity s) := by simp [fconv, hn, hd]
    rw [this]
    have hx : FloatKind.decode .f64 (FloatKind.encode .f64 (.infinity s)) = .infinity s := by cases s <;> decide +kernel
    simp [isFin, hx, hd, Ieee.Datum.isInfinity]
  · have hn : isNaN .f32 x = false := by simp [isNaN, FloatKind.decode, h, Ieee.Datum.isNaN]
    have hd : FloatKind.decode .f32 x = .number s m e := h
    have hc : fconv .f32 x .f64 = FloatKind.encode .f64 (.number s m e) := by simp [fconv, hn, hd]
    have hr : isFin .f32 x = true := by simp [isFin, hd, Ieee.Datum.isNaN, Ieee.Datum.isInfinity]
    rw [hc, hr]
    obtain ⟨h1, h2, h3⟩ := read_single x s m e h
    by_cases hm : m = 0
    · subst hm
      have : FloatKind.encode .f64 (.number s 0 e) = Ieee.double.word s 0 := nearest_zero Ieee.double s e
      rw [this]
      cases s <;> decide +kernel
    · have : FloatKind.decode .f64 (FloatKind.encode .f64 (.number s m e)) = .number s (m <<< (52 - m.log2)) (e + m.log2 - 52) := widen_word hm h1 h2 h3
      simp [isFin, this, Ieee.Datum.isNaN, Ieee.Datum.isInfinity]
set_option maxHeartbeats 400000 in
theorem IsFinite_any (x : Nat) (w : World) :
    Calls Try.prog 82 #[.float .f32 x] w fun e w' => e = .returned (.bool (isFin .f32 x)) ∧ ∃ n, w' = w.drewN n := by
  have hw : ∀ s, pick .f64 (fconv .f32 x .f64) s < 18446744073709551616 := fun s => by simpa [Lit.wf] using pick_wf (fconv_wf .f32 x .f64) s
  have hp : ∀ s, isFin .f64 (pick .f64 (fconv .f32 x .f64) s) = isFin .f32 x := fun s => by rw [isFin_pick, isFin_widen]
  go_enter Try.func82, Try.ntmps82
  go_wp2_with (first | ((with_reducible refine wpL_fconv ?_); refine ⟨_, _, _, rfl, Option.isSome_iff_exists.2 ⟨_, Try.underlying36⟩, Try.underlying54, FloatKind.noConfusion, convOk_widen _, fun s n => ?_⟩) | (go_at_call 90; refine (isFiniteWide_any _ _ (hw _)).mono ?_; rintro e w' ⟨rfl, rfl⟩))
  go_ret
  exact ⟨by simp, _, rfl⟩
end Go.Proofs.Ytogmcinaoemnpab
