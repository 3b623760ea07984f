/- The program says of every number whether it is subnormal, as the model does. -/
import Derived.Test.YthpdiknpfpejlacIsSubn
import Derived.Test.YthpdiknpfpejlacRowKit
namespace Go.Proofs.Ythpdiknpfpejlac
open Go Go.ChangeShapes Go.WideShapes Go.ChangeAt Go.RowKit
theorem run_f32bits (x : Nat) (w : World) : (callFunc 20 #[.float .f32 x]).run Try.prog w = .ok (.value (.int .u32 x)) w := by kernel_rfl
theorem specIsSubnormal_any (x : Nat) (hx : x < 4294967296) (w : World) :
    Calls Try.prog 14 #[.float .f32 x] w fun e w' => e = .returned (.bool (subn x)) ∧ w = w' := by
  have hb := run_f32bits
  have hm := i64_mask x hx
  by_cases h0 : x % 2147483648 = 0
  · have hr : subn x = false := by simp [subn, h0]
    have h1 : (FloatKind.f32.format.order x 0 != some .eq) = false := by rw [order_zero_small x h0]; rfl
    rw [hr]
    clear h0 hr
    go_enter Try.func14, Try.ntmps14
    go_wp2
    go_ret
    exact ⟨rfl, rfl⟩
  · by_cases h1 : x % 2147483648 < 8388608
    · have hr : subn x = true := by simp [subn, h1]; omega
      obtain ⟨k1, k2, k3⟩ := order_small x (by omega) h1
      have hz : x / 8388608 % 256 * 8388608 = 0 := by omega
      rw [hz] at hm
      have hn : (FloatKind.f32.format.order x x != some .eq) = false := by rw [order_neq_self, isNaN32]; simp; omega
      rw [hr]
      clear h0 hr h1 hz
      go_enter Try.func14, Try.ntmps14
      go_wp2
      go_ret
      exact ⟨rfl, rfl⟩
    · have hr : subn x = false := by simp [subn, h1]
      obtain ⟨k1, _⟩ := order_big x h1
      have hz : x / 8388608 % 256 * 8388608 ≠ 0 := by omega
      have hz' : (((x / 8388608 % 256 * 8388608 : Nat) : Int) == 0) = false := by simp; omega
      rw [hr]
      cases hn : isNaN .f32 x
      · have hn' : (FloatKind.f32.format.order x x != some .eq) = false := by rw [order_neq_self, hn]
        clear h0 hr h1 hz hn
        generalize ((x / 8388608 % 256 * 8388608 : Nat) : Int) = K at *
        go_enter Try.func14, Try.ntmps14
        go_wp2
        go_ret
        exact ⟨rfl, rfl⟩
      · have hn' : (FloatKind.f32.format.order x x != some .eq) = true := by rw [order_neq_self, hn]
        have hc : (bits .and .i64 2143289344 2139095040 == 0) = false := by decide +kernel
        clear h0 hr h1 hz hn hm hz'
        go_enter Try.func14, Try.ntmps14
        go_wp2
        go_ret
        exact ⟨rfl, rfl⟩
theorem lawIsSubnormal_any (x : Nat) (hx : (Lit.float .f32 x).wf = true) (w : World) :
    Calls Try.prog 6 #[.float .f32 x] w fun e w' => e = .returned (.bool true) ∧ Grown w w' := by
  have hx' := f32_lt hx
  go_enter Try.func6, Try.ntmps6
  go_wp2_with (first | (go_at_call 14; refine (specIsSubnormal_any _ hx' _).mono ?_; rintro e w' ⟨rfl, rfl⟩) | (go_at_call 15; refine (implIsSubnormal_any _ _).mono ?_; rintro e w' ⟨rfl, rfl⟩) | go_in)
  all_goals go_ret
  all_goals exact ⟨by simp, Grown.refl _⟩
set_option maxRecDepth 100000 in
theorem FnExactIsSubnormal_lifted (os : Os) (started : os.Started) (H : Type) (enc : TypeId × Value → H) :
    ReturnsInHanded {} Try.checked os 6 .any (Rows.fnExactIsSubnormalSpec.pre6 enc Try.prog Try.f6 Rows.fnExactIsSubnormalRow.domain false) (Rows.fnExactIsSubnormalSpec.post enc Try.prog Try.f6 false true false false) := by
  refine returnsInHanded_of_change (C := Try.checked) ownKnob_none started (by kernel_rfl) Try.func6
    (ChangeSpec.witness6 (enc := enc) (C := Try.checked) false ⟨#[], #[.float .f32 0], []⟩ 8 (by kernel_rfl) (by kernel_rfl) (by kernel_rfl) (by kernel_rfl)) ?_
  intro W base args ds gs before hval0 hW _ _
  have hval : ∀ (j : Nat) t v, Try.f6.params[j]? = some t → args[j]? = some v → Value.okWide Try.prog W .any base t v := hval0
  have hW' := hW
  obtain ⟨p, q, hA0, hV, rfl, hfz, hnd⟩ := hW
  have hA : DataW.TrodAll enc Try.prog W 0 (fun _ => true) true Try.f6.params.toList args.toList ds p := hA0
  rw [Try.params6] at hA hval
  obtain ⟨v0, vs0, d0, ds0, p0, q0, hargs, rfl, rfl, h0, r0⟩ := trodAll_cons hA
  obtain ⟨rfl, rfl, rfl⟩ := trodAll_nil r0
  obtain rfl : args = #[v0] := by cases args; simp_all
  obtain ⟨rfl, rfl⟩ := trodVars_none hV
  obtain ⟨a0, rfl, rfl, rfl, w0⟩ := open_float Try.underlying27 (hval 0 27 v0 rfl rfl) h0
  clear hA0 hval0
  simp only [List.append_nil] at hW'
  refine (lawIsSubnormal_any a0 w0 W).mono fun e W' ⟨he, hg⟩ => ?_
  subst he
  exact ⟨_, rfl, post_of_same (pa := []) (pv := []) hW' (fun _ _ _ => (trodAll_cons_mk (shut_bool Try.underlying4 _) trodAll_mk0)) (fun sp _ => (trodAll_cons_mk (shut_float Try.underlying27 w0) trodAll_mk0)) (fun _ _ => rfl) rfl
    (hg.frame _) hg.2.1 (ok_one (by kernel_rfl) rfl (okWide_bool_mk Try.underlying4 _))⟩
theorem FnExactIsSubnormal_holds : Rows.FnExactIsSubnormalSaid :=
  OpenClaim.holds_of_wide 6 Try.f6 rfl rfl rfl rfl rfl rfl rfl ⟨rfl, rfl, rfl, rfl, rfl⟩ rfl rfl rfl rfl rfl (by kernel_rfl) Try.func6 (by kernel_rfl)
    (of_decide_eq_true (by kernel_rfl)) (by unfold Func.isWrapper; first | (rw [if_pos (by decide +kernel)]; kernel_rfl) | (rw [if_neg (by decide +kernel)]; exact ⟨rfl, rfl⟩))
    (fun os started H enc _ => FnExactIsSubnormal_lifted os started H enc)
end Go.Proofs.Ythpdiknpfpejlac
