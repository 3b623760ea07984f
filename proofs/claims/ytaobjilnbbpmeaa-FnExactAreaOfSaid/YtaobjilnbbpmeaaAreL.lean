/- Of any line the program tells the area just where the model does, and the same: for all arguments. -/
import Derived.Test.YtaobjilnbbpmeaaAre
namespace Go.Proofs.Ytaobjilnbbpmeaa
open Go Go.ChangeShapes Go.WideShapes Go.ChangeAt Go.RowKit

set_option maxRecDepth 100000 in
set_option maxHeartbeats 3200000 in
theorem lawAreaOf_any (W : World) (a b c : Nat) (d : Int) (_ : a < 4294967296 ∧ b < 4294967296 ∧ c < 4294967296 ∧ (Lit.int .i64 d).wf = true) :
    Calls Try.prog 4 #[.agg #[.float .f32 a, .float .f32 b, .float .f32 c, .int .i64 d]] W fun e w' => e = .returned (.bool true) ∧ Below W.heap.size W w' := by
  obtain ⟨v, hv⟩ : ∃ v, v = okLin a b c d := ⟨_, rfl⟩
  obtain ⟨R, hR⟩ : ∃ R, R = if v = true then numQ (areD b c d) else 0 := ⟨_, rfl⟩
  obtain ⟨ok, ho⟩ : ∃ ok, ok = (v && isFin .f32 (areD b c d)) := ⟨_, rfl⟩
  have HS := Lib.hid (fun w => specAr_any a b c d w R ok v hv (Lib.hid hR) (Lib.hid ho))
  have HI := Lib.hid (fun w => implAr_any a b c d w R ok v hv (Lib.hid hR) (Lib.hid ho))
  clear hv hR ho
  have hne : (ok != ok) = false := by simp
  have hcv := fun (R : Nat) (s t : Nat) => show canon .f64 (pick .f64 (fconv .f32 (pick .f32 R s) .f64) t) = canon .f64 (fconv .f32 R .f64) by rw [canon_pick, fconv_pick]
  have HCV := Lib.hid hcv
  clear hcv
  have HB := Blw.next (Blw.refl W) ((Below.refl _ W).alloc (Nat.le_refl _) (.cells #[.float .f32 a, .float .f32 b, .float .f32 c, .int .i64 d] 24))
  have HQ := lnBox_alloc W a b c d 24
  obtain ⟨q0, q1, q2, q3⟩ := HQ
  go_enter Try.func4, Try.ntmps4
  go_wp2_with fail
  refine (toLine_any _ _ _ _ _).mono ?_
  rintro e0 w0 ⟨rfl, B0⟩
  have HQ := LnBox.below ⟨q0, q1, q2, q3⟩ B0
  clear q0 q1 q2 q3
  obtain ⟨q0, q1, q2, q3⟩ := HQ
  replace HB := Blw.next (by exact HB) B0
  clear B0
  go_wp2_with fail
  refine (HS.out _).mono ?_
  rintro e0 w0 ⟨s0, rfl, B0⟩
  have HQ := LnBox.below ⟨q0, q1, q2, q3⟩ B0
  clear q0 q1 q2 q3
  obtain ⟨q0, q1, q2, q3⟩ := HQ
  replace HB := Blw.next (by exact HB) B0
  clear B0
  go_wp2_with fail
  refine (toLine_any _ _ _ _ _).mono ?_
  rintro e0 w0 ⟨rfl, B0⟩
  replace HB := Blw.next (by exact HB) B0
  clear B0 q0 q1 q2 q3
  go_wp2_with fail
  refine (HI.out _).mono ?_
  rintro e0 w0 ⟨s1, rfl, B0⟩
  replace HB := Blw.next (by exact HB) B0
  clear B0
  go_wp2_with (first | ((with_reducible refine wpL_fconv ?_); refine ⟨_, _, _, rfl, Option.isSome_iff_exists.2 ⟨_, Try.underlying22⟩, Try.underlying32, FloatKind.noConfusion, convOk_widen _, fun s n => ?_⟩) | ((with_reducible refine wpL_fconv_g ?_); refine ⟨rfl, _, _, _, rfl, Option.isSome_iff_exists.2 ⟨_, Try.underlying22⟩, Try.underlying32, FloatKind.noConfusion, convOk_widen _, fun s n => ?_⟩))
  refine (sameFloat_any _ _ _ ((HCV.out _ _ _).trans (HCV.out _ _ _).symm)).mono ?_
  rintro e0 w0 ⟨rfl, q, rfl⟩
  go_wp2
  go_ret
  exact ⟨rfl, Below.drewN (Blw.out (by exact HB)) _⟩
set_option maxRecDepth 100000 in
theorem FnExactAreaOf_lifted (os : Os) (started : os.Started) (H : Type) (enc : TypeId × Value → H) :
    ReturnsInHanded {} Try.checked os 4 .any (Rows.fnExactAreaOfSpec.pre6 enc Try.prog Try.f4 Rows.fnExactAreaOfRow.domain false) (Rows.fnExactAreaOfSpec.post enc Try.prog Try.f4 false true false false) := by
  refine returnsInHanded_of_change (C := Try.checked) ownKnob_none started (by kernel_rfl) Try.func4
    (ChangeSpec.witness6 (enc := enc) (C := Try.checked) false ⟨#[], #[.agg #[.float .f32 0, .float .f32 0, .float .f32 0, .int .i64 0]], []⟩ 8 (by kernel_rfl) (by kernel_rfl) (by kernel_rfl) (by kernel_rfl)) ?_
  intro W base args ds gs before hval0 hW _ _
  have hval : ∀ (j : Nat) t v, Try.f4.params[j]? = some t → args[j]? = some v → Value.okWide Try.prog W .any base t v := hval0
  have hW' := hW
  obtain ⟨p, q, hA0, hV, rfl, _, _⟩ := hW
  have hA : DataW.TrodAll enc Try.prog W 0 (fun _ => true) true Try.f4.params.toList args.toList ds p := hA0
  rw [Try.params4] at hA hval
  obtain ⟨v0, vs0, d0, ds0, p0, q0, hargs, rfl, rfl, h0, r0⟩ := trodAll_cons hA
  obtain ⟨rfl, rfl, rfl⟩ := trodAll_nil r0
  obtain rfl : args = #[v0] := by cases args; simp_all
  obtain ⟨rfl, rfl⟩ := trodVars_none hV
  have k0 := h0
  obtain ⟨x0, y0, m0, e0, rfl, w0⟩ := open_lin (hval 0 24 v0 rfl rfl) h0
  have b0 : ∀ x ∈ p0, x.block < W.heap.size := fun x hx => by have := hW'.lt x (by simp [hx]); simpa using this
  clear hA0 hval0
  refine (lawAreaOf_any W x0 y0 m0 e0 w0).mono fun e W' ⟨he, hb⟩ => ?_
  subst he
  have hA2 := trodAll_cons_mk (enc := enc) (w := W') (base := 0) (spare := fun b => decide (b < W.heap.size)) (held := true) (Below.trod laidOut (by kernel_rfl) (of_decide_eq_true (by kernel_rfl)) k0 hb b0) trodAll_mk0
  exact ⟨_, rfl, _, _, _, [], _, [], hW', trodAll_cons_mk (shut_bool Try.underlying4 _) trodAll_mk0, hA2, rfl, hb.frame _, fun h => by cases h⟩
theorem FnExactAreaOf_holds : Rows.FnExactAreaOfSaid :=
  OpenClaim.holds_of_wide 4 Try.f4 rfl rfl rfl rfl rfl rfl rfl ⟨rfl, rfl, rfl, rfl, rfl⟩ rfl rfl rfl rfl rfl (by kernel_rfl) Try.func4 (by kernel_rfl)
    (of_decide_eq_true (by kernel_rfl)) (by unfold Func.isWrapper; first | (rw [if_pos (by decide +kernel)]; kernel_rfl) | (rw [if_neg (by decide +kernel)]; exact ⟨rfl, rfl⟩))
    (fun os started H enc _ => FnExactAreaOf_lifted os started H enc)
end Go.Proofs.Ytaobjilnbbpmeaa
