/- The logarithm of any number, as the model's inner function and the program tell it: one word. -/
import Derived.Test.YtchpnjihhncfmaaLogI
import Derived.Test.YtchpnjihhncfmaaSameA
namespace Go.Proofs.Ytchpnjihhncfmaa
open Go Go.ChangeShapes Go.WideShapes Go.ChangeAt Go.RowKit

set_option maxRecDepth 100000 in
set_option maxHeartbeats 1000000 in
theorem specLog_any (x : Nat) (hx : x < 4294967296) (w : World) : Calls Try.prog 143 #[.float .f32 x] w (RetL x w) := by
  have hp := order_pick_l .f64
  have hq := order_pick_r .f64
  have hf := fun X s => fconv_pick .f64 X s .f32
  rcases log_cases hx with hn | ⟨hn, hl, hl'⟩ | ⟨hn, hl, hl'⟩ | rfl | hpos
  · have h1 : (FloatKind.f64.format.order (fconv .f32 x .f64) (fconv .f32 x .f64) != some .eq) = true := by rw [order_neq_self, isNaN_fconv, hn]
    have hz := run_nan_l
    have hc := cv_nan
    have HA := Lib.hid (show LogAns x (qnan .f32) from .inl ⟨.inl hn, rfl⟩)
    clear hn
    go_enter Try.func143, Try.ntmps143
    go_wp2_with (first | ((with_reducible refine wpL_fconv ?_); refine ⟨_, _, _, rfl, Option.isSome_iff_exists.2 ⟨_, Try.underlying23⟩, Try.underlying44, FloatKind.noConfusion, convOk_widen _, fun s n => ?_⟩) | ((with_reducible refine wpL_fconv ?_); refine ⟨_, _, _, rfl, Option.isSome_iff_exists.2 ⟨_, Try.underlying44⟩, Try.underlying23, FloatKind.noConfusion, ok_nan, fun s n => ?_⟩) | go_in)
    go_ret
    exact ⟨_, _, _, HA.out, rfl, rfl⟩
  · have h1 : (FloatKind.f64.format.order (fconv .f32 x .f64) (fconv .f32 x .f64) != some .eq) = false := by rw [order_neq_self, isNaN_fconv, hn]
    have h2 : (FloatKind.f64.format.order (fconv .f32 x .f64) 0 == some .lt) = true := by rw [hl']; rfl
    have hz := run_nan_l
    have hc := cv_nan
    have HA := Lib.hid (show LogAns x (qnan .f32) from .inl ⟨.inr (by rw [hl]; rfl), rfl⟩)
    clear hn hl hl'
    go_enter Try.func143, Try.ntmps143
    go_wp2_with (first | ((with_reducible refine wpL_fconv ?_); refine ⟨_, _, _, rfl, Option.isSome_iff_exists.2 ⟨_, Try.underlying23⟩, Try.underlying44, FloatKind.noConfusion, convOk_widen _, fun s n => ?_⟩) | ((with_reducible refine wpL_fconv ?_); refine ⟨_, _, _, rfl, Option.isSome_iff_exists.2 ⟨_, Try.underlying44⟩, Try.underlying23, FloatKind.noConfusion, ok_nan, fun s n => ?_⟩) | go_in)
    go_ret
    exact ⟨_, _, _, HA.out, rfl, rfl⟩
  · have h1 : (FloatKind.f64.format.order (fconv .f32 x .f64) (fconv .f32 x .f64) != some .eq) = false := by rw [order_neq_self, isNaN_fconv, hn]
    have h2 : (FloatKind.f64.format.order (fconv .f32 x .f64) 0 == some .lt) = false := by rw [hl']; rfl
    have h3 : (FloatKind.f64.format.order (fconv .f32 x .f64) 0 == some .eq) = true := by rw [hl']; rfl
    have hz := run_minf_l
    have hc := cv_minf
    have HA := Lib.hid (show LogAns x 4286578688 from .inr (.inl ⟨by rw [hl]; rfl, rfl⟩))
    clear hn hl hl'
    go_enter Try.func143, Try.ntmps143
    go_wp2_with (first | ((with_reducible refine wpL_fconv ?_); refine ⟨_, _, _, rfl, Option.isSome_iff_exists.2 ⟨_, Try.underlying23⟩, Try.underlying44, FloatKind.noConfusion, convOk_widen _, fun s n => ?_⟩) | ((with_reducible refine wpL_fconv ?_); refine ⟨_, _, _, rfl, Option.isSome_iff_exists.2 ⟨_, Try.underlying44⟩, Try.underlying23, FloatKind.noConfusion, ok_minf, fun s n => ?_⟩) | go_in)
    go_ret
    exact ⟨_, _, _, HA.out, rfl, rfl⟩
  · obtain ⟨k1, k2, k3, k4, k5, k6, k7, k8⟩ := inf_more
    have pk : ∀ s, pick .f64 9218868437227405312 s = 9218868437227405312 := fun s => pick_num k2 s
    have HA := Lib.hid (show LogAns 2139095040 2139095040 from .inr (.inr (.inl ⟨rfl, rfl⟩)))
    clear k2
    go_enter Try.func143, Try.ntmps143
    go_wp2_with (first | ((with_reducible refine wpL_fconv ?_); refine ⟨_, _, _, rfl, Option.isSome_iff_exists.2 ⟨_, Try.underlying23⟩, Try.underlying44, FloatKind.noConfusion, convOk_widen _, fun s n => ?_⟩) | ((with_reducible refine wpL_fconv ?_); refine ⟨_, _, _, rfl, Option.isSome_iff_exists.2 ⟨_, Try.underlying44⟩, Try.underlying23, FloatKind.noConfusion, ok_inf, fun s n => ?_⟩) | (go_at_call 181; refine (mathIsInf1_any _ _).mono ?_; rintro e w' ⟨rfl, rfl⟩) | go_in)
    go_ret
    exact ⟨_, _, _, HA.out, rfl, rfl⟩
  · have hpl := posFin_pl hpos
    obtain ⟨g1, g2, g3, g4⟩ := pl_guards hpl
    have pk : ∀ s, pick .f64 (fconv .f32 x .f64) s = fconv .f32 x .f64 := fun s => pick_num hpl.pb.bd.num s
    have HW := Lib.hid (fun w => logWide_any _ hpl g1 g2 g3 g4 w)
    have HP := Lib.hid hpos
    clear hpos hpl g1 g2 g3 g4
    go_enter Try.func143, Try.ntmps143
    go_wp2_with (first | ((with_reducible refine wpL_fconv ?_); refine ⟨_, _, _, rfl, Option.isSome_iff_exists.2 ⟨_, Try.underlying23⟩, Try.underlying44, FloatKind.noConfusion, convOk_widen _, fun s n => ?_⟩) | (go_at_call 187; refine (HW.out _).mono ?_; rintro e w' ⟨j, i, s, n, f1, f2, rfl, rfl, hj, hi, hb⟩; have F1 := Lib.hid f1; have F2 := Lib.hid f2; have HO := Lib.hid (convOk_narrow (bd_logQ hb (e := (j : Int) - i) (by omega)) (by decide)); clear f1 f2 hb) | ((with_reducible refine wpL_fconv ?_); refine ⟨_, _, _, rfl, Option.isSome_iff_exists.2 ⟨_, Try.underlying44⟩, Try.underlying23, FloatKind.noConfusion, convOk_pick HO.out, fun s n => ?_⟩) | go_in)
    go_ret
    exact ⟨_, _, _, ans_logQ HP.out F1.out F2.out, rfl, rfl⟩
/-- The answer, as a word. -/
noncomputable def logT (x : Nat) : Nat := Classical.epsilon (LogAns x)
theorem logT_of {x X : Nat} (h : LogAns x X) : X = logT x := h.uniq (Classical.epsilon_spec ⟨X, h⟩)
def RetG (k : FloatKind) (X : Nat) (w : World) (e : Ending) (w' : World) : Prop := ∃ s n, e = .returned (.float k (pick k X s)) ∧ w' = w.drewN n
theorem specLogT_any (x : Nat) (hx : x < 4294967296) (w : World) : Calls Try.prog 143 #[.float .f32 x] w (RetG .f32 (logT x) w) := by
  refine (specLog_any x hx w).mono ?_
  rintro e w' ⟨X, s, n, hA, rfl, rfl⟩
  exact ⟨s, n, by rw [logT_of hA], rfl⟩
theorem implLogT_any (x : Nat) (hx : x < 4294967296) (w : World) : Calls Try.prog 88 #[.float .f32 x] w (RetG .f32 (logT x) w) := by
  refine (implLog_any x hx w).mono ?_
  rintro e w' ⟨X, s, n, hA, rfl, rfl⟩
  exact ⟨s, n, by rw [logT_of hA], rfl⟩
end Go.Proofs.Ytchpnjihhncfmaa
