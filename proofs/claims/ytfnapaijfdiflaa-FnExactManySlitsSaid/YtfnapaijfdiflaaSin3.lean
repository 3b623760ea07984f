/- The sine of any number of turns: as the program and the model tell it (of XSineL, for seats with the model's inner function). -/
import Derived.Test.YtfnapaijfdiflaaSameA
import Derived.Test.YtfnapaijfdiflaaSinW
import Derived.Test.YtfnapaijfdiflaaSinU
import Derived.Test.YtfnapaijfdiflaaAbsW
import Derived.Test.YtfnapaijfdiflaaRowKit
namespace Go.Proofs.Ytfnapaijfdiflaa
open Go Go.ChangeShapes Go.WideShapes Go.ChangeAt Go.RowKit

/-- It hands back X, or, where X is a not-a-number, any. -/
def RetF (k : FloatKind) (X : Nat) (w : World) (e : Ending) (w' : World) : Prop := ∃ s n, e = .returned (.float k (pick k X s)) ∧ w' = w.drewN n
theorem convOk_nan : convOk .f64 9221120237041090561 .f32 := .inl (by decide +kernel)
theorem convOk_zero : convOk .f64 0 .f32 := .inr (.inr (by decide +kernel))
/-- The canonical answer for x. -/
def sineT (x : Nat) : Nat :=
  if isFin .f32 x = true then (if ge64 (absw (fconv .f32 x .f64)) 4841369599423283200 = true then 0 else fconv .f64 (sineF (fr (fconv .f32 x .f64))) .f32) else qnan .f32
theorem run_nan_from (w : World) : (callFunc 116 #[.int .u64 9221120237041090561]).run Try.prog w = .ok (.value (.float .f64 9221120237041090561)) w := by kernel_rfl
theorem conv_nan : fconv .f64 9221120237041090561 .f32 = qnan .f32 := by decide +kernel
theorem conv_zero : fconv .f64 0 .f32 = 0 := by decide +kernel
theorem isNaN_zero32 : isNaN .f32 0 = false := by decide +kernel
theorem fin_decode {x : Nat} (h : isFin .f64 x = true) : ∃ s m e, FloatKind.decode .f64 x = .number s m e := by
  unfold isFin at h
  cases hd : FloatKind.decode .f64 x with
  | nan => simp [hd, Ieee.Datum.isNaN] at h
  | infinity => simp [hd, Ieee.Datum.isInfinity] at h
  | number s m e => exact ⟨s, m, e, rfl⟩
theorem fin_guard {Y : Nat} (h : isFin .f64 Y = true) : (FloatKind.f64.format.order (fbin .sub .f64 Y Y) 0 != some .eq) = false := by
  have := sub_self .f64 Y
  rw [h] at this
  simp only [beq_iff_eq] at this
  rw [this]; rfl
set_option maxRecDepth 100000 in
set_option maxHeartbeats 1600000 in
theorem specSine_any (x : Nat) (w : World) :
    Calls Try.prog 53 #[.float .f32 x] w (RetF .f32 (sineT x) w) := by
  have hp := order_pick_l .f64
  have hq := order_pick_r .f64
  have hl := fun op => fbin_pick_l op .f64
  have hr := fun op => fbin_pick_r op .f64
  cases hf : isFin .f32 x
  · have hT : sineT x = qnan .f32 := by unfold sineT; rw [hf]; rfl
    have g0 : (FloatKind.f64.format.order (fbin .sub .f64 (fconv .f32 x .f64) (fconv .f32 x .f64)) 0 != some .eq) = true := by
      have := sub_self .f64 (fconv .f32 x .f64)
      rw [isFin_widen, hf] at this
      simp only [bne, this]; rfl
    have hz := run_nan_from
    have hc := conv_nan
    rw [hT]
    clear hT hf
    go_enter Try.func53, Try.ntmps53
    go_wp2_with (first | ((with_reducible refine wpL_fconv ?_); refine ⟨_, _, _, rfl, Option.isSome_iff_exists.2 ⟨_, Try.underlying22⟩, Try.underlying26, FloatKind.noConfusion, convOk_widen _, fun s n => ?_⟩) | ((with_reducible refine wpL_fconv ?_); refine ⟨_, _, _, rfl, Option.isSome_iff_exists.2 ⟨_, Try.underlying26⟩, Try.underlying22, FloatKind.noConfusion, convOk_nan, fun s n => ?_⟩) | ((with_reducible refine wpL_fbin ?_); refine ⟨_, _, _, rfl, rfl, rfl, fun s n => ?_⟩) | go_in)
    go_ret
    exact ⟨_, _, rfl, rfl⟩
  · have hY : isFin .f64 (fconv .f32 x .f64) = true := by rw [isFin_widen]; exact hf
    have hn : isNaN .f64 (fconv .f32 x .f64) = false := by unfold isFin at hY; simp at hY; exact hY.1
    have hk : ∀ s, pick .f64 (fconv .f32 x .f64) s = fconv .f32 x .f64 := fun s => pick_num hn s
    have hT : sineT x = if ge64 (absw (fconv .f32 x .f64)) 4841369599423283200 = true then 0 else fconv .f64 (sineF (fr (fconv .f32 x .f64))) .f32 := by unfold sineT; rw [hf]; rfl
    rw [hT]
    obtain ⟨Y, hYd⟩ : ∃ Y, Y = fconv .f32 x .f64 := ⟨_, rfl⟩
    have hW : ∀ s, pick .f64 (fconv .f32 x .f64) s = Y := fun s => by rw [hk, hYd]
    rw [← hYd] at hY hn ⊢
    clear hT hf hk hYd
    obtain ⟨s, m, e, hd⟩ := fin_decode hY
    have g0 := fin_guard hY
    rcases small_or_big hd with ⟨hlt, g1, g2, g3⟩ | ⟨hge, g12, g3⟩
    · obtain ⟨hi, _⟩ := ipart_val hd hlt
      have hb := bd_fr hd hlt
      rw [g3]
      have HS := Lib.hid (fun w => specSineWide_any Y hi hb g0 g1 g2 w)
      have HO := Lib.hid (convOk_narrow (bd_sineF hb) (by decide))
      clear g0 g1 g2 g3 hi hb hlt hd hY hn
      go_enter Try.func53, Try.ntmps53
      go_wp2_with (first | ((with_reducible refine wpL_fconv ?_); refine ⟨_, _, _, rfl, Option.isSome_iff_exists.2 ⟨_, Try.underlying22⟩, Try.underlying26, FloatKind.noConfusion, convOk_widen _, fun s n => ?_⟩) | ((with_reducible refine wpL_fconv ?_); refine ⟨_, _, _, rfl, Option.isSome_iff_exists.2 ⟨_, Try.underlying26⟩, Try.underlying22, FloatKind.noConfusion, HO.out, fun s n => ?_⟩) | (go_at_call 94; refine (HS.out _).mono ?_; rintro e w' ⟨rfl, n, rfl⟩) | go_in)
      go_ret
      exact ⟨_, _, rfl, rfl⟩
    · rw [g3]
      have hc := conv_zero
      clear hge hd g3 hY hn
      rcases g12 with g1 | ⟨g1, g2⟩
      · have g1' : (FloatKind.f64.format.order Y 4841369599423283200 == some .gt || FloatKind.f64.format.order Y 4841369599423283200 == some .eq) = true := g1
        clear g1
        go_enter Try.func53, Try.ntmps53
        go_wp2_with (first | ((with_reducible refine wpL_fconv ?_); refine ⟨_, _, _, rfl, Option.isSome_iff_exists.2 ⟨_, Try.underlying22⟩, Try.underlying26, FloatKind.noConfusion, convOk_widen _, fun s n => ?_⟩) | ((with_reducible refine wpL_fconv ?_); refine ⟨_, _, _, rfl, Option.isSome_iff_exists.2 ⟨_, Try.underlying26⟩, Try.underlying22, FloatKind.noConfusion, convOk_zero, fun s n => ?_⟩) | ((with_reducible refine wpL_fbin ?_); refine ⟨_, _, _, rfl, rfl, rfl, fun s n => ?_⟩) | go_in)
        go_ret
        exact ⟨_, _, rfl, rfl⟩
      · have g1' : (FloatKind.f64.format.order Y 4841369599423283200 == some .gt || FloatKind.f64.format.order Y 4841369599423283200 == some .eq) = false := g1
        clear g1
        go_enter Try.func53, Try.ntmps53
        go_wp2_with (first | ((with_reducible refine wpL_fconv ?_); refine ⟨_, _, _, rfl, Option.isSome_iff_exists.2 ⟨_, Try.underlying22⟩, Try.underlying26, FloatKind.noConfusion, convOk_widen _, fun s n => ?_⟩) | ((with_reducible refine wpL_fconv ?_); refine ⟨_, _, _, rfl, Option.isSome_iff_exists.2 ⟨_, Try.underlying26⟩, Try.underlying22, FloatKind.noConfusion, convOk_zero, fun s n => ?_⟩) | ((with_reducible refine wpL_fbin ?_); refine ⟨_, _, _, rfl, rfl, rfl, fun s n => ?_⟩) | go_in)
        go_ret
        exact ⟨_, _, rfl, rfl⟩
set_option maxRecDepth 100000 in
set_option maxHeartbeats 1600000 in
theorem implSine_any (x : Nat) (w : World) :
    Calls Try.prog 55 #[.float .f32 x] w (RetF .f32 (sineT x) w) := by
  cases hf : isFin .f32 x
  · have hT : sineT x = qnan .f32 := by unfold sineT; rw [hf]; rfl
    have hz := run_nan_from
    have hc := conv_nan
    rw [hT]
    go_enter Try.func55, Try.ntmps55
    go_wp2_with (first | ((with_reducible refine wpL_fconv ?_); refine ⟨_, _, _, rfl, Option.isSome_iff_exists.2 ⟨_, Try.underlying22⟩, Try.underlying26, FloatKind.noConfusion, convOk_widen _, fun s n => ?_⟩) | ((with_reducible refine wpL_fconv ?_); refine ⟨_, _, _, rfl, Option.isSome_iff_exists.2 ⟨_, Try.underlying26⟩, Try.underlying22, FloatKind.noConfusion, convOk_nan, fun s n => ?_⟩) | (go_at_call 52; refine (IsFinite_any _ _).mono ?_; rintro e w' ⟨rfl, n, rfl⟩) | go_in)
    go_ret
    exact ⟨_, _, rfl, rfl⟩
  · have hY : isFin .f64 (fconv .f32 x .f64) = true := by rw [isFin_widen]; exact hf
    have hn : isNaN .f64 (fconv .f32 x .f64) = false := by unfold isFin at hY; simp at hY; exact hY.1
    have hk : ∀ s, pick .f64 (fconv .f32 x .f64) s = fconv .f32 x .f64 := fun s => pick_num hn s
    have hT : sineT x = if ge64 (absw (fconv .f32 x .f64)) 4841369599423283200 = true then 0 else fconv .f64 (sineF (fr (fconv .f32 x .f64))) .f32 := by unfold sineT; rw [hf]; rfl
    have hlt : fconv .f32 x .f64 < 18446744073709551616 := by simpa [Lit.wf] using fconv_wf .f32 x .f64
    rw [hT]
    obtain ⟨Y, hYd⟩ : ∃ Y, Y = fconv .f32 x .f64 := ⟨_, rfl⟩
    have hW : ∀ s, pick .f64 (fconv .f32 x .f64) s = Y := fun s => by rw [hk, hYd]
    rw [← hYd] at hY hn hlt ⊢
    clear hT hk hYd
    obtain ⟨s, m, e, hd⟩ := fin_decode hY
    rcases small_or_big hd with ⟨hlt', g1, g2, g3⟩ | ⟨hge, g12, g3⟩
    · obtain ⟨hi, _⟩ := ipart_val hd hlt'
      have hb := bd_fr hd hlt'
      rw [g3]
      have HS := Lib.hid (fun w => wideSine_any Y hi hb w)
      have HO := Lib.hid (convOk_narrow (bd_sineF hb) (by decide))
      have g3' : (FloatKind.f64.format.order (absw Y) 4841369599423283200 == some .gt || FloatKind.f64.format.order (absw Y) 4841369599423283200 == some .eq) = false := g3
      clear g1 g2 g3 hi hb hlt' hd hY hn
      go_enter Try.func55, Try.ntmps55
      go_wp2_with (first | ((with_reducible refine wpL_fconv ?_); refine ⟨_, _, _, rfl, Option.isSome_iff_exists.2 ⟨_, Try.underlying22⟩, Try.underlying26, FloatKind.noConfusion, convOk_widen _, fun s n => ?_⟩) | ((with_reducible refine wpL_fconv ?_); refine ⟨_, _, _, rfl, Option.isSome_iff_exists.2 ⟨_, Try.underlying26⟩, Try.underlying22, FloatKind.noConfusion, HO.out, fun s n => ?_⟩) | (go_at_call 52; refine (IsFinite_any _ _).mono ?_; rintro e w' ⟨rfl, n, rfl⟩) | (go_at_call 96; refine (mathAbs_any _ _ hlt).mono ?_; rintro e w' ⟨rfl, rfl⟩) | (go_at_call 98; refine (HS.out _).mono ?_; rintro e w' ⟨rfl, n, rfl⟩) | go_in)
      go_ret
      exact ⟨_, _, rfl, rfl⟩
    · rw [g3]
      have g3' : (FloatKind.f64.format.order (absw Y) 4841369599423283200 == some .gt || FloatKind.f64.format.order (absw Y) 4841369599423283200 == some .eq) = true := g3
      clear hge hd g3 hY hn g12
      go_enter Try.func55, Try.ntmps55
      go_wp2_with (first | ((with_reducible refine wpL_fconv ?_); refine ⟨_, _, _, rfl, Option.isSome_iff_exists.2 ⟨_, Try.underlying22⟩, Try.underlying26, FloatKind.noConfusion, convOk_widen _, fun s n => ?_⟩) | (go_at_call 52; refine (IsFinite_any _ _).mono ?_; rintro e w' ⟨rfl, n, rfl⟩) | (go_at_call 96; refine (mathAbs_any _ _ hlt).mono ?_; rintro e w' ⟨rfl, rfl⟩) | go_in)
      go_ret
      exact ⟨0, _, rfl, rfl⟩
theorem isFin_of_canon {k : FloatKind} {a b : Nat} (h : canon k a = canon k b) : isFin k a = isFin k b := by
  cases ha : isNaN k a
  · have hb : isNaN k b = false := by rw [← isNaN_of_canon h]; exact ha
    rw [canon_num ha, canon_num hb] at h; rw [h]
  · have hb : isNaN k b = true := by rw [← isNaN_of_canon h]; exact ha
    have h1 : (k.decode a).isNaN = true := ha
    have h2 : (k.decode b).isNaN = true := hb
    unfold isFin; rw [h1, h2]; rfl
theorem sineT_pick (x s : Nat) : sineT (pick .f32 x s) = sineT x := by
  cases hn : isNaN .f32 x
  · rw [pick_num hn]
  · have h := isFin_of_canon (canon_pick .f32 x s)
    have h0 : isFin .f32 x = false := by
      have h1 : (FloatKind.f32.decode x).isNaN = true := hn
      unfold isFin; rw [h1]; rfl
    unfold sineT
    rw [h, h0, if_neg (by simp), if_neg (by simp)]
end Go.Proofs.Ytfnapaijfdiflaa
