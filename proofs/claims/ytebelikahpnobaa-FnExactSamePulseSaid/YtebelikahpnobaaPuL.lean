/- Of any two pulses the program says that they are the same just where the model does: for all arguments. -/
import Derived.Test.YtebelikahpnobaaPuS
namespace Go.Proofs.Ytebelikahpnobaa
open Go Go.ChangeShapes Go.WideShapes Go.ChangeAt Go.RowKit

set_option maxRecDepth 100000 in
set_option maxHeartbeats 3200000 in
theorem lawSamePulse_any (W : World) (a b c d : Nat) (h : a < 4294967296 ∧ b < 4294967296 ∧ c < 4294967296 ∧ d < 4294967296) (a' b' c' d' : Nat) (h' : a' < 4294967296 ∧ b' < 4294967296 ∧ c' < 4294967296 ∧ d' < 4294967296) :
    Calls Try.prog 4 #[.agg #[.float .f32 a, .float .f32 b, .float .f32 c, .float .f32 d], .agg #[.float .f32 a', .float .f32 b', .float .f32 c', .float .f32 d']] W fun e w' => e = .returned (.bool true) ∧ Below W.heap.size W w' := by
  have HS := Lib.hid (fun w => specSP_any a b c d a' b' c' d' h h' w)
  have HI := Lib.hid (fun w => implSP_any a b c d a' b' c' d' h h' w)
  have hne : ∀ z : Bool, (z != z) = false := by simp
  clear h h'
  have HP := (box4_alloc W a b c d 24).below ((Below.refl _ _).alloc (Nat.le_refl _) (.cells #[.float .f32 a', .float .f32 b', .float .f32 c', .float .f32 d'] 24))
  have HQ := box4_alloc (W.alloc (.cells #[.float .f32 a, .float .f32 b, .float .f32 c, .float .f32 d] 24)) a' b' c' d' 24
  obtain ⟨w0, hw⟩ : ∃ w0, w0 = (W.alloc (.cells #[.float .f32 a, .float .f32 b, .float .f32 c, .float .f32 d] 24)).alloc (.cells #[.float .f32 a', .float .f32 b', .float .f32 c', .float .f32 d'] 24) := ⟨_, rfl⟩
  have HB : Below W.heap.size W w0 := by rw [hw]; exact ((Below.refl _ _).alloc (Nat.le_refl _) _).alloc (by simp) _
  have e1 : (W.alloc (.cells #[.float .f32 a, .float .f32 b, .float .f32 c, .float .f32 d] 24)).heap.size = W.heap.size + 1 := by simp
  obtain ⟨R, hR⟩ : ∃ R, R = samePul a b c d a' b' c' d' := ⟨_, rfl⟩
  rw [← hR] at HS HI
  clear hR
  go_enter Try.func4, Try.ntmps4
  go_wp2_with fail
  rw [← hw] at HP HQ ⊢
  clear hw
  rw [e1] at HQ
  have HBd : Below W.heap.size W w0.drew := Below.drewN HB 1
  have hPd : Box4 w0.drew W.heap.size a b c d := HP
  have hQd : Box4 w0.drew (W.heap.size + 1) a' b' c' d' := HQ
  have hsd := HBd.size
  obtain ⟨p0, p1, p2, p3⟩ := HP
  obtain ⟨q0, q1, q2, q3⟩ := HQ
  go_region_with (first
    | (go_at_call_of 16 (Value.agg #[.float .f32 a, .float .f32 b, .float .f32 c, .float .f32 d]); (with_reducible refine (toPulse_any a b c d _).mono ?_); rintro e0 w5 ⟨rfl, B0⟩; have hP1 := Box4.below hPd B0; have hQ1 := Box4.below hQd B0; obtain ⟨s0, s1, s2, s3⟩ := id hQ1; have HC := HBd.trans (B0.mono hsd); clear B0)
    | (go_at_call_of 16 (Value.agg #[.float .f32 a', .float .f32 b', .float .f32 c', .float .f32 d']); (with_reducible refine (toPulse_any a' b' c' d' _).mono ?_); rintro e0 w6 ⟨rfl, B0⟩; have hP2 := Box4.below hP1 B0; have hQ2 := Box4.below hQ1 B0; have HD := HC.trans (B0.mono (by exact HC.size)); clear B0)
    | (go_at_call 18; (with_reducible refine (HS.out _).mono ?_); rintro e0 w7 ⟨rfl, B0⟩; have hP3 := Box4.below hP2 B0; have hQ3 := Box4.below hQ2 B0; have HE := HD.trans (B0.mono (by exact HD.size)); clear B0))
  all_goals go_wp2_with fail
  all_goals clear p0 p1 p2 p3 q0 q1 q2 q3 s0 s1 s2 s3
  all_goals obtain ⟨p0, p1, p2, p3⟩ := id hP3
  all_goals obtain ⟨q0, q1, q2, q3⟩ := id hQ3
  all_goals have KBd : Below W.heap.size W w7.drew := Below.drewN HE 1
  all_goals have kPd : Box4 w7.drew W.heap.size a b c d := hP3
  all_goals have kQd : Box4 w7.drew (W.heap.size + 1) a' b' c' d' := hQ3
  all_goals have ksd := KBd.size
  all_goals go_region_with (first
    | (go_at_call_of 16 (Value.agg #[.float .f32 a, .float .f32 b, .float .f32 c, .float .f32 d]); (with_reducible refine (toPulse_any a b c d _).mono ?_); rintro e0 w8 ⟨rfl, B0⟩; have jQ1 := Box4.below kQd B0; obtain ⟨s0, s1, s2, s3⟩ := id jQ1; have JC := KBd.trans (B0.mono ksd); clear B0)
    | (go_at_call_of 16 (Value.agg #[.float .f32 a', .float .f32 b', .float .f32 c', .float .f32 d']); (with_reducible refine (toPulse_any a' b' c' d' _).mono ?_); rintro e0 w9 ⟨rfl, B0⟩; have JD := JC.trans (B0.mono (by exact JC.size)); clear B0)
    | (go_at_call 19; (with_reducible refine (HI.out _).mono ?_); rintro e0 w10 ⟨rfl, B0⟩; have JE := JD.trans (B0.mono (by exact JD.size)); clear B0))
  all_goals go_wp2
  all_goals go_ret
  all_goals exact ⟨rfl, JE⟩
set_option maxRecDepth 100000 in
theorem FnExactSamePulse_lifted (os : Os) (started : os.Started) (H : Type) (enc : TypeId × Value → H) :
    ReturnsInHanded {} Try.checked os 4 .any (Rows.fnExactSamePulseSpec.pre6 enc Try.prog Try.f4 Rows.fnExactSamePulseRow.domain false) (Rows.fnExactSamePulseSpec.post enc Try.prog Try.f4 false true false false) := by
  refine returnsInHanded_of_change (C := Try.checked) ownKnob_none started (by kernel_rfl) Try.func4
    (ChangeSpec.witness6 (enc := enc) (C := Try.checked) false ⟨#[], #[.agg #[.float .f32 0, .float .f32 0, .float .f32 0, .float .f32 0], .agg #[.float .f32 0, .float .f32 0, .float .f32 0, .float .f32 0]], []⟩ 8 (by kernel_rfl) (by kernel_rfl) (by kernel_rfl) (by kernel_rfl)) ?_
  intro W base args ds gs before hval0 hW _ _
  have hval : ∀ (j : Nat) t v, Try.f4.params[j]? = some t → args[j]? = some v → Value.okWide Try.prog W .any base t v := hval0
  have hW' := hW
  obtain ⟨p, q, hA0, hV, rfl, _, _⟩ := hW
  have hA : DataW.TrodAll enc Try.prog W 0 (fun _ => true) true Try.f4.params.toList args.toList ds p := hA0
  rw [Try.params4] at hA hval
  obtain ⟨v0, v1, d0, d1, p0, p1, rfl, rfl, rfl, h0, h1⟩ := trodAll_two hA
  obtain ⟨rfl, rfl⟩ := trodVars_none hV
  have k0 := h0
  obtain ⟨x0, y0, m0, e0, rfl, w0⟩ := open_pul (hval 0 24 v0 rfl rfl) h0
  have b0 : ∀ x ∈ p0, x.block < W.heap.size := fun x hx => by have := hW'.lt x (by simp [hx]); simpa using this
  have k1 := h1
  obtain ⟨x1, y1, m1, e1, rfl, w1⟩ := open_pul (hval 1 24 v1 rfl rfl) h1
  have b1 : ∀ x ∈ p1, x.block < W.heap.size := fun x hx => by have := hW'.lt x (by simp [hx]); simpa using this
  clear hA0 hval0
  refine (lawSamePulse_any W x0 y0 m0 e0 w0 x1 y1 m1 e1 w1).mono fun e W' ⟨he, hb⟩ => ?_
  subst he
  have hA2 := trodAll_mk2 (enc := enc) (w := W') (base := 0) (spare := fun b => decide (b < W.heap.size)) (held := true) (Below.trod laidOut (by kernel_rfl) (of_decide_eq_true (by kernel_rfl)) k0 hb b0) (Below.trod laidOut (by kernel_rfl) (of_decide_eq_true (by kernel_rfl)) k1 hb b1)
  exact ⟨_, rfl, _, _, _, [], _, [], hW', trodAll_cons_mk (shut_bool Try.underlying4 _) trodAll_mk0, hA2, rfl, hb.frame _, fun h => by cases h⟩
theorem FnExactSamePulse_holds : Rows.FnExactSamePulseSaid :=
  OpenClaim.holds_of_wide 4 Try.f4 rfl rfl rfl rfl rfl rfl rfl ⟨rfl, rfl, rfl, rfl, rfl⟩ rfl rfl rfl rfl rfl (by kernel_rfl) Try.func4 (by kernel_rfl)
    (of_decide_eq_true (by kernel_rfl)) (by unfold Func.isWrapper; first | (rw [if_pos (by decide +kernel)]; kernel_rfl) | (rw [if_neg (by decide +kernel)]; exact ⟨rfl, rfl⟩))
    (fun os started H enc _ => FnExactSamePulse_lifted os started H enc)
end Go.Proofs.Ytebelikahpnobaa
