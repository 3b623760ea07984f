/- The sine of any number of turns: the program tells what the model tells, to the last bit. -/
import Derived.Test.YthpdiknpfpejladSinW
import Derived.Test.YthpdiknpfpejladSinV
import Derived.Test.YthpdiknpfpejladAbsW
import Derived.Test.YthpdiknpfpejladRowKit
namespace Go.Proofs.Ythpdiknpfpejlad
open Go Go.ChangeShapes Go.WideShapes Go.ChangeAt Go.RowKit

/-- It hands back X, or, where X is a not-a-number, any. -/
def RetF (k : FloatKind) (X : Nat) (w : World) (e : Ending) (w' : World) : Prop := ∃ s n, e = .returned (.float k (pick k X s)) ∧ w' = w.drewN n
theorem specSineWide_any (Y : Nat) (hi : floatToIntVal .f64 Y .i64 = some (ipart Y)) (hb : Bd .f64 (fr Y) 1)
    (g0 : (FloatKind.f64.format.order (fbin .sub .f64 Y Y) 0 != some .eq) = false) (g1 : (FloatKind.f64.format.order Y 4841369599423283200 == some .gt || FloatKind.f64.format.order Y 4841369599423283200 == some .eq) = false)
    (g2 : (FloatKind.f64.format.order Y 14064741636278059008 == some .lt || FloatKind.f64.format.order Y 14064741636278059008 == some .eq) = false) (w : World) :
    Calls Try.prog 51 #[.float .f64 Y] w fun e w' => e = .returned (.float .f64 (sineF (fr Y))) ∧ ∃ n, w' = w.drewN n := by
  have hn := (bd_sineM hb rfl).num
  cases h0 : lt64 (fr0 Y) 0
  all_goals cases h1 : ge64 (fr Y) halfW
  all_goals cases h2 : gt64 (sineG (fr Y)) quarW
  · refine (sineWide_000 Y hi h0 h1 h2 g0 g1 g2 w).mono ?_
    rintro e w' ⟨s, n, rfl, rfl⟩
    exact ⟨by rw [pick_num hn]; unfold sineF; rw [h1]; rfl, n, rfl⟩
  · refine (sineWide_001 Y hi h0 h1 h2 g0 g1 g2 w).mono ?_
    rintro e w' ⟨s, n, rfl, rfl⟩
    exact ⟨by rw [pick_num hn]; unfold sineF; rw [h1]; rfl, n, rfl⟩
  · refine (sineWide_010 Y hi h0 h1 h2 g0 g1 g2 w).mono ?_
    rintro e w' ⟨s, n, rfl, rfl⟩
    exact ⟨by rw [pick_num hn]; unfold sineF; rw [h1, if_pos rfl, fneg_num hn], n, rfl⟩
  · refine (sineWide_011 Y hi h0 h1 h2 g0 g1 g2 w).mono ?_
    rintro e w' ⟨s, n, rfl, rfl⟩
    exact ⟨by rw [pick_num hn]; unfold sineF; rw [h1, if_pos rfl, fneg_num hn], n, rfl⟩
  · refine (sineWide_100 Y hi h0 h1 h2 g0 g1 g2 w).mono ?_
    rintro e w' ⟨s, n, rfl, rfl⟩
    exact ⟨by rw [pick_num hn]; unfold sineF; rw [h1]; rfl, n, rfl⟩
  · refine (sineWide_101 Y hi h0 h1 h2 g0 g1 g2 w).mono ?_
    rintro e w' ⟨s, n, rfl, rfl⟩
    exact ⟨by rw [pick_num hn]; unfold sineF; rw [h1]; rfl, n, rfl⟩
  · refine (sineWide_110 Y hi h0 h1 h2 g0 g1 g2 w).mono ?_
    rintro e w' ⟨s, n, rfl, rfl⟩
    exact ⟨by rw [pick_num hn]; unfold sineF; rw [h1, if_pos rfl, fneg_num hn], n, rfl⟩
  · refine (sineWide_111 Y hi h0 h1 h2 g0 g1 g2 w).mono ?_
    rintro e w' ⟨s, n, rfl, rfl⟩
    exact ⟨by rw [pick_num hn]; unfold sineF; rw [h1, if_pos rfl, fneg_num hn], n, rfl⟩
theorem convOk_nan : convOk .f64 9221120237041090561 .f32 := .inl (by decide +kernel)
theorem convOk_zero : convOk .f64 0 .f32 := .inr (.inr (by decide +kernel))
/-- The canonical answer for x. -/
def sineT (x : Nat) : Nat :=
  if isFin .f32 x = true then (if ge64 (absw (fconv .f32 x .f64)) 4841369599423283200 = true then 0 else fconv .f64 (sineF (fr (fconv .f32 x .f64))) .f32) else qnan .f32
theorem run_nan_from (w : World) : (callFunc 48 #[.int .u64 9221120237041090561]).run Try.prog w = .ok (.value (.float .f64 9221120237041090561)) w := by kernel_rfl
theorem conv_nan : fconv .f64 9221120237041090561 .f32 = qnan .f32 := by decide +kernel
theorem conv_zero : fconv .f64 0 .f32 = 0 := by decide +kernel
theorem isNaN_zero32 : isNaN .f32 0 = false := by decide +kernel
theorem fin_decode {x : Nat} (h : isFin .f64 x = true) : ∃ s m e, FloatKind.decode .f64 x = .number s m e := by
  unfold isFin at h
  cases hd : FloatKind.decode .f64 x with
  | nan => simp [hd, Ieee.Datum.isNaN] at h
  | infinity => simp [hd, Ieee.Datum.isInfinity] at h
  | number s m e => exact ⟨s, m, e, rfl⟩
theorem fin_guard {Y : Nat} (h : isFin .f64 Y = true) : (FloatKind.f64.format.order (fbin .sub .f64 Y Y) 0 != some .eq) = false := by
  have := sub_self .f64 Y
  rw [h] at this
  simp only [beq_iff_eq] at this
  rw [this]; rfl
set_option maxHeartbeats 800000 in
theorem specSine_any (x : Nat) (w : World) :
    Calls Try.prog 13 #[.float .f32 x] w (RetF .f32 (sineT x) w) := by
  have hp := order_pick_l .f64
  have hq := order_pick_r .f64
  have hl := fun op => fbin_pick_l op .f64
  have hr := fun op => fbin_pick_r op .f64
  cases hf : isFin .f32 x
  · have hT : sineT x = qnan .f32 := by unfold sineT; rw [hf]; rfl
    have g0 : (FloatKind.f64.format.order (fbin .sub .f64 (fconv .f32 x .f64) (fconv .f32 x .f64)) 0 != some .eq) = true := by
      have := sub_self .f64 (fconv .f32 x .f64)
      rw [isFin_widen, hf] at this
      simp only [bne, this]; rfl
    have hz := run_nan_from
    have hc := conv_nan
    rw [hT]
    clear hT hf
    go_enter Try.func13, Try.ntmps13
    go_wp2_with (first | ((with_reducible refine wpL_fconv ?_); refine ⟨_, _, _, rfl, Option.isSome_iff_exists.2 ⟨_, Try.underlying22⟩, Try.underlying25, FloatKind.noConfusion, convOk_widen _, fun s n => ?_⟩) | ((with_reducible refine wpL_fconv ?_); refine ⟨_, _, _, rfl, Option.isSome_iff_exists.2 ⟨_, Try.underlying25⟩, Try.underlying22, FloatKind.noConfusion, convOk_nan, fun s n => ?_⟩) | ((with_reducible refine wpL_fbin ?_); refine ⟨_, _, _, rfl, rfl, rfl, fun s n => ?_⟩) | go_in)
    go_ret
    exact ⟨_, _, rfl, rfl⟩
  · have hY : isFin .f64 (fconv .f32 x .f64) = true := by rw [isFin_widen]; exact hf
    have hn : isNaN .f64 (fconv .f32 x .f64) = false := by unfold isFin at hY; simp at hY; exact hY.1
    have hk : ∀ s, pick .f64 (fconv .f32 x .f64) s = fconv .f32 x .f64 := fun s => pick_num hn s
    have hT : sineT x = if ge64 (absw (fconv .f32 x .f64)) 4841369599423283200 = true then 0 else fconv .f64 (sineF (fr (fconv .f32 x .f64))) .f32 := by unfold sineT; rw [hf]; rfl
    rw [hT]
    obtain ⟨Y, hYd⟩ : ∃ Y, Y = fconv .f32 x .f64 := ⟨_, rfl⟩
    have hW : ∀ s, pick .f64 (fconv .f32 x .f64) s = Y := fun s => by rw [hk, hYd]
    rw [← hYd] at hY hn ⊢
    clear hT hf hk hYd
    obtain ⟨s, m, e, hd⟩ := fin_decode hY
    have g0 := fin_guard hY
    rcases small_or_big hd with ⟨hlt, g1, g2, g3⟩ | ⟨hge, g12, g3⟩
    · obtain ⟨hi, _⟩ := ipart_val hd hlt
      have hb := bd_fr hd hlt
      rw [g3]
      have HS := Lib.hid (fun w => specSineWide_any Y hi hb g0 g1 g2 w)
      have HO := Lib.hid (convOk_narrow (bd_sineF hb) (by decide))
      clear g0 g1 g2 g3 hi hb hlt hd hY hn
      go_enter Try.func13, Try.ntmps13
      go_wp2_with (first | ((with_reducible refine wpL_fconv ?_); refine ⟨_, _, _, rfl, Option.isSome_iff_exists.2 ⟨_, Try.underlying22⟩, Try.underlying25, FloatKind.noConfusion, convOk_widen _, fun s n => ?_⟩) | ((with_reducible refine wpL_fconv ?_); refine ⟨_, _, _, rfl, Option.isSome_iff_exists.2 ⟨_, Try.underlying25⟩, Try.underlying22, FloatKind.noConfusion, HO.out, fun s n => ?_⟩) | (go_at_call 51; refine (HS.out _).mono ?_; rintro e w' ⟨rfl, n, rfl⟩) | go_in)
      go_ret
      exact ⟨_, _, rfl, rfl⟩
    · rw [g3]
      have hc := conv_zero
      clear hge hd g3 hY hn
      rcases g12 with g1 | ⟨g1, g2⟩
      · have g1' : (FloatKind.f64.format.order Y 4841369599423283200 == some .gt || FloatKind.f64.format.order Y 4841369599423283200 == some .eq) = true := g1
        clear g1
        go_enter Try.func13, Try.ntmps13
        go_wp2_with (first | ((with_reducible refine wpL_fconv ?_); refine ⟨_, _, _, rfl, Option.isSome_iff_exists.2 ⟨_, Try.underlying22⟩, Try.underlying25, FloatKind.noConfusion, convOk_widen _, fun s n => ?_⟩) | ((with_reducible refine wpL_fconv ?_); refine ⟨_, _, _, rfl, Option.isSome_iff_exists.2 ⟨_, Try.underlying25⟩, Try.underlying22, FloatKind.noConfusion, convOk_zero, fun s n => ?_⟩) | ((with_reducible refine wpL_fbin ?_); refine ⟨_, _, _, rfl, rfl, rfl, fun s n => ?_⟩) | go_in)
        go_ret
        exact ⟨_, _, rfl, rfl⟩
      · have g1' : (FloatKind.f64.format.order Y 4841369599423283200 == some .gt || FloatKind.f64.format.order Y 4841369599423283200 == some .eq) = false := g1
        clear g1
        go_enter Try.func13, Try.ntmps13
        go_wp2_with (first | ((with_reducible refine wpL_fconv ?_); refine ⟨_, _, _, rfl, Option.isSome_iff_exists.2 ⟨_, Try.underlying22⟩, Try.underlying25, FloatKind.noConfusion, convOk_widen _, fun s n => ?_⟩) | ((with_reducible refine wpL_fconv ?_); refine ⟨_, _, _, rfl, Option.isSome_iff_exists.2 ⟨_, Try.underlying25⟩, Try.underlying22, FloatKind.noConfusion, convOk_zero, fun s n => ?_⟩) | ((with_reducible refine wpL_fbin ?_); refine ⟨_, _, _, rfl, rfl, rfl, fun s n => ?_⟩) | go_in)
        go_ret
        exact ⟨_, _, rfl, rfl⟩
set_option maxHeartbeats 800000 in
theorem implSine_any (x : Nat) (w : World) :
    Calls Try.prog 14 #[.float .f32 x] w (RetF .f32 (sineT x) w) := by
  cases hf : isFin .f32 x
  · have hT : sineT x = qnan .f32 := by unfold sineT; rw [hf]; rfl
    have hz := run_nan_from
    have hc := conv_nan
    rw [hT]
    go_enter Try.func14, Try.ntmps14
    go_wp2_with (first | ((with_reducible refine wpL_fconv ?_); refine ⟨_, _, _, rfl, Option.isSome_iff_exists.2 ⟨_, Try.underlying22⟩, Try.underlying25, FloatKind.noConfusion, convOk_widen _, fun s n => ?_⟩) | ((with_reducible refine wpL_fconv ?_); refine ⟨_, _, _, rfl, Option.isSome_iff_exists.2 ⟨_, Try.underlying25⟩, Try.underlying22, FloatKind.noConfusion, convOk_nan, fun s n => ?_⟩) | (go_at_call 31; refine (IsFinite_any _ _).mono ?_; rintro e w' ⟨rfl, n, rfl⟩) | go_in)
    go_ret
    exact ⟨_, _, rfl, rfl⟩
  · have hY : isFin .f64 (fconv .f32 x .f64) = true := by rw [isFin_widen]; exact hf
    have hn : isNaN .f64 (fconv .f32 x .f64) = false := by unfold isFin at hY; simp at hY; exact hY.1
    have hk : ∀ s, pick .f64 (fconv .f32 x .f64) s = fconv .f32 x .f64 := fun s => pick_num hn s
    have hT : sineT x = if ge64 (absw (fconv .f32 x .f64)) 4841369599423283200 = true then 0 else fconv .f64 (sineF (fr (fconv .f32 x .f64))) .f32 := by unfold sineT; rw [hf]; rfl
    have hlt : fconv .f32 x .f64 < 18446744073709551616 := by simpa [Lit.wf] using fconv_wf .f32 x .f64
    rw [hT]
    obtain ⟨Y, hYd⟩ : ∃ Y, Y = fconv .f32 x .f64 := ⟨_, rfl⟩
    have hW : ∀ s, pick .f64 (fconv .f32 x .f64) s = Y := fun s => by rw [hk, hYd]
    rw [← hYd] at hY hn hlt ⊢
    clear hT hk hYd
    obtain ⟨s, m, e, hd⟩ := fin_decode hY
    rcases small_or_big hd with ⟨hlt', g1, g2, g3⟩ | ⟨hge, g12, g3⟩
    · obtain ⟨hi, _⟩ := ipart_val hd hlt'
      have hb := bd_fr hd hlt'
      rw [g3]
      have HS := Lib.hid (fun w => wideSine_any Y hi hb w)
      have HO := Lib.hid (convOk_narrow (bd_sineF hb) (by decide))
      have g3' : (FloatKind.f64.format.order (absw Y) 4841369599423283200 == some .gt || FloatKind.f64.format.order (absw Y) 4841369599423283200 == some .eq) = false := g3
      clear g1 g2 g3 hi hb hlt' hd hY hn
      go_enter Try.func14, Try.ntmps14
      go_wp2_with (first | ((with_reducible refine wpL_fconv ?_); refine ⟨_, _, _, rfl, Option.isSome_iff_exists.2 ⟨_, Try.underlying22⟩, Try.underlying25, FloatKind.noConfusion, convOk_widen _, fun s n => ?_⟩) | ((with_reducible refine wpL_fconv ?_); refine ⟨_, _, _, rfl, Option.isSome_iff_exists.2 ⟨_, Try.underlying25⟩, Try.underlying22, FloatKind.noConfusion, HO.out, fun s n => ?_⟩) | (go_at_call 31; refine (IsFinite_any _ _).mono ?_; rintro e w' ⟨rfl, n, rfl⟩) | (go_at_call 33; refine (mathAbs_any _ _ hlt).mono ?_; rintro e w' ⟨rfl, rfl⟩) | (go_at_call 35; refine (HS.out _).mono ?_; rintro e w' ⟨rfl, n, rfl⟩) | go_in)
      go_ret
      exact ⟨_, _, rfl, rfl⟩
    · rw [g3]
      have g3' : (FloatKind.f64.format.order (absw Y) 4841369599423283200 == some .gt || FloatKind.f64.format.order (absw Y) 4841369599423283200 == some .eq) = true := g3
      clear hge hd g3 hY hn g12
      go_enter Try.func14, Try.ntmps14
      go_wp2_with (first | ((with_reducible refine wpL_fconv ?_); refine ⟨_, _, _, rfl, Option.isSome_iff_exists.2 ⟨_, Try.underlying22⟩, Try.underlying25, FloatKind.noConfusion, convOk_widen _, fun s n => ?_⟩) | (go_at_call 31; refine (IsFinite_any _ _).mono ?_; rintro e w' ⟨rfl, n, rfl⟩) | (go_at_call 33; refine (mathAbs_any _ _ hlt).mono ?_; rintro e w' ⟨rfl, rfl⟩) | go_in)
      go_ret
      exact ⟨0, _, rfl, rfl⟩
set_option maxHeartbeats 400000 in
theorem lawSine_any (x : Nat) (_hx : (Lit.float .f32 x).wf = true) (w : World) :
    Calls Try.prog 4 #[.float .f32 x] w fun e w' => e = .returned (.bool true) ∧ Grown w w' := by
  have hc : ∀ X s t, canon .f64 (pick .f64 X s) = canon .f64 (pick .f64 X t) := fun X s t => by rw [canon_pick, canon_pick]
  have hp : ∀ X s, fconv .f32 (pick .f32 X s) .f64 = fconv .f32 X .f64 := fun X s => fconv_pick .f32 X s .f64
  generalize hS : sineT x = S
  go_enter Try.func4, Try.ntmps4
  go_wp2_with (first | ((with_reducible refine wpL_fconv ?_); refine ⟨_, _, _, rfl, Option.isSome_iff_exists.2 ⟨_, Try.underlying22⟩, Try.underlying25, FloatKind.noConfusion, convOk_widen _, fun s n => ?_⟩) | (go_at_call 12; refine (sameFloat_any _ _ _ (hc _ _ _)).mono ?_; rintro e w' ⟨rfl, n, rfl⟩) | (go_at_call 13; refine (specSine_any _ _).mono ?_; rw [hS]; rintro e w' ⟨s, n, rfl, rfl⟩) | (go_at_call 14; refine (implSine_any _ _).mono ?_; rw [hS]; rintro e w' ⟨s, n, rfl, rfl⟩))
  all_goals go_ret
  all_goals exact ⟨by simp, grown_drewN _ _⟩
set_option maxRecDepth 100000 in
theorem FnExactSineTurns_lifted (os : Os) (started : os.Started) (H : Type) (enc : TypeId × Value → H) :
    ReturnsInHanded {} Try.checked os 4 .any (Rows.fnExactSineTurnsSpec.pre6 enc Try.prog Try.f4 Rows.fnExactSineTurnsRow.domain false) (Rows.fnExactSineTurnsSpec.post enc Try.prog Try.f4 false true false false) := by
  refine returnsInHanded_of_change (C := Try.checked) ownKnob_none started (by kernel_rfl) Try.func4
    (ChangeSpec.witness6 (enc := enc) (C := Try.checked) false ⟨#[], #[.float .f32 0], []⟩ 8 (by kernel_rfl) (by kernel_rfl) (by kernel_rfl) (by kernel_rfl)) ?_
  intro W base args ds gs before hval0 hW _ _
  have hval : ∀ (j : Nat) t v, Try.f4.params[j]? = some t → args[j]? = some v → Value.okWide Try.prog W .any base t v := hval0
  have hW' := hW
  obtain ⟨p, q, hA0, hV, rfl, hfz, hnd⟩ := hW
  have hA : DataW.TrodAll enc Try.prog W 0 (fun _ => true) true Try.f4.params.toList args.toList ds p := hA0
  rw [Try.params4] at hA hval
  obtain ⟨v0, vs0, d0, ds0, p0, q0, hargs, rfl, rfl, h0, r0⟩ := trodAll_cons hA
  obtain ⟨rfl, rfl, rfl⟩ := trodAll_nil r0
  obtain rfl : args = #[v0] := by cases args; simp_all
  obtain ⟨rfl, rfl⟩ := trodVars_none hV
  obtain ⟨a0, rfl, rfl, rfl, w0⟩ := open_float Try.underlying22 (hval 0 22 v0 rfl rfl) h0
  clear hA0 hval0
  simp only [List.append_nil] at hW'
  refine (lawSine_any a0 w0 W).mono fun e W' ⟨he, hg⟩ => ?_
  subst he
  exact ⟨_, rfl, post_of_same (pa := []) (pv := []) hW' (fun _ _ _ => (trodAll_cons_mk (shut_bool Try.underlying4 _) trodAll_mk0)) (fun sp _ => (trodAll_cons_mk (shut_float Try.underlying22 w0) trodAll_mk0)) (fun _ _ => rfl) rfl
    (hg.frame _) hg.2.1 (ok_one (by kernel_rfl) rfl (okWide_bool_mk Try.underlying4 _))⟩
theorem FnExactSineTurns_holds : Rows.FnExactSineTurnsSaid :=
  OpenClaim.holds_of_wide 4 Try.f4 rfl rfl rfl rfl rfl rfl rfl ⟨rfl, rfl, rfl, rfl, rfl⟩ rfl rfl rfl rfl rfl (by kernel_rfl) Try.func4 (by kernel_rfl)
    (of_decide_eq_true (by kernel_rfl)) (by unfold Func.isWrapper; first | (rw [if_pos (by decide +kernel)]; kernel_rfl) | (rw [if_neg (by decide +kernel)]; exact ⟨rfl, rfl⟩))
    (fun os started H enc _ => FnExactSineTurns_lifted os started H enc)
end Go.Proofs.Ythpdiknpfpejlad
