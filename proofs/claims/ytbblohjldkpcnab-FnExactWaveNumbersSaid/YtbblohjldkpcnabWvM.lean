
/- Of any steps and any energy the program tells the same wave numbers as the model does; its answer owns its memory and the steps are not changed: for all arguments. -/
import Derived.Test.YtbblohjldkpcnabWvL
import Derived.Test.YtbblohjldkpcnabArr
namespace Go.Proofs.Ytbblohjldkpcnab
open Go Go.ChangeShapes Go.WideShapes Go.ChangeAt Go.RowKit
set_option linter.all false

set_option maxHeartbeats 1600000 in
theorem lawWaveNumbers_any (W : World) (xa : Option Addr) (n cx : Nat) (ya : Option Addr) (m cy : Nat) (X Y : Nat → Nat) (h : Rd W xa n X ∧ Rd W ya m Y ∧ n ≤ maxLen ∧ m ≤ maxLen ∧ (∀ i, i < n → X i < 4294967296) ∧ ∀ i, i < m → Y i < 4294967296) (E : Nat) (hwf : (Lit.float .f32 E).wf = true) :
    Calls Try.prog 12 #[.agg #[.slice xa n cx, .slice ya m cy], .float .f32 E] W fun e w' => e = .returned (.bool true) ∧ Below W.heap.size W w' := by
  obtain ⟨hX, hY, hn, hm, _, hw⟩ := h
  have hE := f32_lt hwf
  by_cases hs : (n : Int) + m ≤ 1048576
  · have h1 : n ≤ 1048576 := by omega
    have h2 : m ≤ 1048576 := by omega
    have hp : (if (stepsOk X n Y m && isFin .f32 E && wvAll E Y m) = true then m else 0) ≤ 1048576 := by split <;> omega
    exact lawWave_in W xa ya n cx m cy E X Y hX hY hs _ _ _ _ hp
      (Lib.hid fun xa ya cx cy w hX hY => (specWn_any xa ya n m cx cy E X Y w hX hY h1 h2 hE hw _ rfl).mono fun e w' h => h.u)
      (Lib.hid fun xa ya cx cy w hX hY => (implWaves_any xa ya n m cx cy E X Y w hX hY h1 h2 hE hw _ rfl).mono fun e w' h => h.u)
  · have hs' : (1048576 : Int) < (n : Int) + m := by omega
    have HA : Below W.heap.size W (W.alloc (.cells #[.slice xa n cx, .slice ya m cy] 60)) := (Below.refl _ _).alloc (Nat.le_refl _) _
    have HP : Box2 (W.alloc (.cells #[.slice xa n cx, .slice ya m cy] 60)) W.heap.size (.slice xa n cx) (.slice ya m cy) := box2_alloc ..
    clear hE hw
    go_enter Try.func12, Try.ntmps12
    go_wp2_with fail
    generalize W.alloc (.cells #[.slice xa n cx, .slice ya m cy] 60) = A1 at *
    have HB := Blw.refl A1
    have HPa := HP.1
    have HPb := HP.2
    go_wp2_with fail
    refine (szSteps_no _ _ n m cx cy _ _ hs' (by omega) (by omega) hn hm).mono ?_
    rintro e0 w0 ⟨rfl, B0⟩
    clear HPa HPb
    replace HP := Box2.below (by exact HP) B0
    have HPa := HP.1
    have HPb := HP.2
    replace HB := Blw.next (by exact HB) B0
    clear B0
    go_wp2
    go_ret
    exact ⟨rfl, HA.trans ((Blw.out (by exact HB)).mono HA.size)⟩
set_option maxRecDepth 100000 in
theorem FnExactWaveNumbers_lifted (os : Os) (started : os.Started) (H : Type) (enc : TypeId × Value → H) :
    ReturnsInHanded {} Try.checked os 12 .any (Rows.fnExactWaveNumbersSpec.pre6 enc Try.prog Try.f12 Rows.fnExactWaveNumbersRow.domain false) (Rows.fnExactWaveNumbersSpec.post enc Try.prog Try.f12 false true false false) := by
  refine returnsInHanded_of_change (C := Try.checked) ownKnob_none started (by kernel_rfl) Try.func12
    (ChangeSpec.witness6 (enc := enc) (C := Try.checked) false ⟨#[], #[.agg #[.slice none 0 0, .slice none 0 0], .float .f32 0], []⟩ 8 (by kernel_rfl) (by kernel_rfl) (by kernel_rfl) (by kernel_rfl)) ?_
  intro W base args ds gs before hval0 hW _ _
  have hval : ∀ (j : Nat) t v, Try.f12.params[j]? = some t → args[j]? = some v → Value.okWide Try.prog W .any base t v := hval0
  have hW' := hW
  obtain ⟨p, q, hA0, hV, rfl, _, _⟩ := hW
  have hA : DataW.TrodAll enc Try.prog W 0 (fun _ => true) true Try.f12.params.toList args.toList ds p := hA0
  rw [Try.params12] at hA hval
  obtain ⟨v0, v1, d0, d1, p0, p1, rfl, rfl, rfl, h0, h1⟩ := trodAll_two hA
  obtain ⟨rfl, rfl⟩ := trodVars_none hV
  have k0 := h0
  obtain ⟨x0, n0, c0, y0, m0, e0, X0, Y0, rfl, w0⟩ := open_stw (hval 0 60 v0 rfl rfl) h0
  have b0 : ∀ x ∈ p0, x.block < W.heap.size := fun x hx => by have := hW'.lt x (by simp [hx]); simpa using this
  obtain ⟨a1, rfl, rfl, rfl, w1⟩ := open_float Try.underlying43 (hval 1 43 v1 rfl rfl) h1
  clear hA0 hval0
  refine (lawWaveNumbers_any W x0 n0 c0 y0 m0 e0 X0 Y0 w0 a1 w1).mono fun e W' ⟨he, hb⟩ => ?_
  subst he
  have hA2 := trodAll_mk2 (enc := enc) (w := W') (base := 0) (spare := fun b => decide (b < W.heap.size)) (held := true) (Below.trod laidOut (by kernel_rfl) (of_decide_eq_true (by kernel_rfl)) k0 hb b0) (shut_float Try.underlying43 w1)
  exact ⟨_, rfl, _, _, _, [], _, [], hW', trodAll_cons_mk (shut_bool Try.underlying4 _) trodAll_mk0, hA2, rfl, hb.frame _, fun h => by cases h⟩
theorem FnExactWaveNumbers_holds : Rows.FnExactWaveNumbersSaid :=
  OpenClaim.holds_of_wide 12 Try.f12 rfl rfl rfl rfl rfl rfl rfl ⟨rfl, rfl, rfl, rfl, rfl⟩ rfl rfl rfl rfl rfl (by kernel_rfl) Try.func12 (by kernel_rfl)
    (of_decide_eq_true (by kernel_rfl)) (by unfold Func.isWrapper; first | (rw [if_pos (by decide +kernel)]; kernel_rfl) | (rw [if_neg (by decide +kernel)]; exact ⟨rfl, rfl⟩))
    (fun os started H enc _ => FnExactWaveNumbers_lifted os started H enc)
end Go.Proofs.Ytbblohjldkpcnab
