/- Of any line the program says that it is valid just where the model does: for all arguments. -/
import Derived.Test.YtaobjilnbbpmeaaLin
namespace Go.Proofs.Ytaobjilnbbpmeaa
open Go Go.ChangeShapes Go.WideShapes Go.ChangeAt Go.RowKit

set_option maxRecDepth 100000 in
set_option maxHeartbeats 1600000 in
theorem lawValidLine_any (W : World) (a b c : Nat) (d : Int) (_ : a < 4294967296 ∧ b < 4294967296 ∧ c < 4294967296 ∧ (Lit.int .i64 d).wf = true) :
    Calls Try.prog 3 #[.agg #[.float .f32 a, .float .f32 b, .float .f32 c, .int .i64 d]] W fun e w' => e = .returned (.bool true) ∧ Below W.heap.size W w' := by
  have hne : ∀ z : Bool, (z != z) = false := by simp
  have HB := Blw.next (Blw.refl W) ((Below.refl _ W).alloc (Nat.le_refl _) (.cells #[.float .f32 a, .float .f32 b, .float .f32 c, .int .i64 d] 24))
  have HQ := lnBox_alloc W a b c d 24
  obtain ⟨q0, q1, q2, q3⟩ := HQ
  go_enter Try.func3, Try.ntmps3
  go_wp2_with fail
  refine (toLine_any _ _ _ _ _).mono ?_
  rintro e0 w0 ⟨rfl, B0⟩
  have HQ := LnBox.below ⟨q0, q1, q2, q3⟩ B0
  clear q0 q1 q2 q3
  obtain ⟨q0, q1, q2, q3⟩ := HQ
  replace HB := Blw.next (by exact HB) B0
  clear B0
  go_wp2_with fail
  refine (specVL_any _ _ _ _ _).mono ?_
  rintro e0 w0 ⟨rfl, B0⟩
  have HQ := LnBox.below ⟨q0, q1, q2, q3⟩ B0
  clear q0 q1 q2 q3
  obtain ⟨q0, q1, q2, q3⟩ := HQ
  replace HB := Blw.next (by exact HB) B0
  clear B0
  go_wp2_with fail
  refine (toLine_any _ _ _ _ _).mono ?_
  rintro e0 w0 ⟨rfl, B0⟩
  have HQ := LnBox.below ⟨q0, q1, q2, q3⟩ B0
  clear q0 q1 q2 q3
  obtain ⟨q0, q1, q2, q3⟩ := HQ
  replace HB := Blw.next (by exact HB) B0
  clear B0
  go_wp2_with fail
  refine (implVL_any _ _ _ _ _).mono ?_
  rintro e0 w0 ⟨rfl, B0⟩
  replace HB := Blw.next (by exact HB) B0
  clear B0
  go_wp2
  go_ret
  exact ⟨rfl, Blw.out (by exact HB)⟩
set_option maxRecDepth 100000 in
theorem FnExactValidLine_lifted (os : Os) (started : os.Started) (H : Type) (enc : TypeId × Value → H) :
    ReturnsInHanded {} Try.checked os 3 .any (Rows.fnExactValidLineSpec.pre6 enc Try.prog Try.f3 Rows.fnExactValidLineRow.domain false) (Rows.fnExactValidLineSpec.post enc Try.prog Try.f3 false true false false) := by
  refine returnsInHanded_of_change (C := Try.checked) ownKnob_none started (by kernel_rfl) Try.func3
    (ChangeSpec.witness6 (enc := enc) (C := Try.checked) false ⟨#[], #[.agg #[.float .f32 0, .float .f32 0, .float .f32 0, .int .i64 0]], []⟩ 8 (by kernel_rfl) (by kernel_rfl) (by kernel_rfl) (by kernel_rfl)) ?_
  intro W base args ds gs before hval0 hW _ _
  have hval : ∀ (j : Nat) t v, Try.f3.params[j]? = some t → args[j]? = some v → Value.okWide Try.prog W .any base t v := hval0
  have hW' := hW
  obtain ⟨p, q, hA0, hV, rfl, _, _⟩ := hW
  have hA : DataW.TrodAll enc Try.prog W 0 (fun _ => true) true Try.f3.params.toList args.toList ds p := hA0
  rw [Try.params3] at hA hval
  obtain ⟨v0, vs0, d0, ds0, p0, q0, hargs, rfl, rfl, h0, r0⟩ := trodAll_cons hA
  obtain ⟨rfl, rfl, rfl⟩ := trodAll_nil r0
  obtain rfl : args = #[v0] := by cases args; simp_all
  obtain ⟨rfl, rfl⟩ := trodVars_none hV
  have k0 := h0
  obtain ⟨x0, y0, m0, e0, rfl, w0⟩ := open_lin (hval 0 24 v0 rfl rfl) h0
  have b0 : ∀ x ∈ p0, x.block < W.heap.size := fun x hx => by have := hW'.lt x (by simp [hx]); simpa using this
  clear hA0 hval0
  refine (lawValidLine_any W x0 y0 m0 e0 w0).mono fun e W' ⟨he, hb⟩ => ?_
  subst he
  have hA2 := trodAll_cons_mk (enc := enc) (w := W') (base := 0) (spare := fun b => decide (b < W.heap.size)) (held := true) (Below.trod laidOut (by kernel_rfl) (of_decide_eq_true (by kernel_rfl)) k0 hb b0) trodAll_mk0
  exact ⟨_, rfl, _, _, _, [], _, [], hW', trodAll_cons_mk (shut_bool Try.underlying4 _) trodAll_mk0, hA2, rfl, hb.frame _, fun h => by cases h⟩
theorem FnExactValidLine_holds : Rows.FnExactValidLineSaid :=
  OpenClaim.holds_of_wide 3 Try.f3 rfl rfl rfl rfl rfl rfl rfl ⟨rfl, rfl, rfl, rfl, rfl⟩ rfl rfl rfl rfl rfl (by kernel_rfl) Try.func3 (by kernel_rfl)
    (of_decide_eq_true (by kernel_rfl)) (by unfold Func.isWrapper; first | (rw [if_pos (by decide +kernel)]; kernel_rfl) | (rw [if_neg (by decide +kernel)]; exact ⟨rfl, rfl⟩))
    (fun os started H enc _ => FnExactValidLine_lifted os started H enc)
end Go.Proofs.Ytaobjilnbbpmeaa
