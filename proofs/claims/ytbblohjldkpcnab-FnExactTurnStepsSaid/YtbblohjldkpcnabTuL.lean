
/- Of any steps the program tells the same steps turned as the model does; its answer owns its memory and the steps are not changed: for all arguments. -/
import Derived.Test.YtbblohjldkpcnabStw
import Derived.Test.YtbblohjldkpcnabTrn
import Derived.Test.YtbblohjldkpcnabTrs
import Derived.Test.YtbblohjldkpcnabJnP
namespace Go.Proofs.Ytbblohjldkpcnab
open Go Go.ChangeShapes Go.WideShapes Go.ChangeAt Go.RowKit
set_option linter.all false

theorem rd_nil (w : World) (a : Option Addr) (X : Nat → Nat) : Rd w a 0 X := ⟨0, 0, fun h => absurd h (by omega), fun i hi => absurd hi (by omega)⟩
set_option maxHeartbeats 1600000 in
theorem lawTurnSteps_any (W : World) (xa : Option Addr) (n cx : Nat) (ya : Option Addr) (m cy : Nat) (X Y : Nat → Nat) (h : Rd W xa n X ∧ Rd W ya m Y ∧ n ≤ maxLen ∧ m ≤ maxLen ∧ (∀ i, i < n → X i < 4294967296) ∧ ∀ i, i < m → Y i < 4294967296) :
    Calls Try.prog 10 #[.agg #[.slice xa n cx, .slice ya m cy]] W fun e w' => e = .returned (.bool true) ∧ Below W.heap.size W w' := by
  obtain ⟨hX, hY, hn, hm, _, _⟩ := h
  by_cases hs : (n : Int) + m ≤ 1048576
  · have h1 : n ≤ 1048576 := by omega
    have h2 : m ≤ 1048576 := by omega
    cases hok : stepsOk X n Y m
    · refine lawTurn_in W xa ya n cx m cy X Y hX hY hs 0 0 X Y false (by omega) (by omega) (Lib.hid fun xa ya cx cy w hX hY => ?_) (Lib.hid fun xa ya cx cy w hX hY => ?_)
      · refine (specTurn_no xa ya n m cx cy X Y w hX hY h1 h2 hok).mono ?_
        rintro e w' ⟨rfl, hb⟩
        exact ⟨none, 0, none, 0, rfl, rd_nil _ _ _, rd_nil _ _ _, hb⟩
      · refine (implTurn_no xa ya n m cx cy X Y w hX hY h1 h2 hok).mono ?_
        rintro e w' ⟨rfl, hb⟩
        exact ⟨none, 0, none, 0, rfl, .inl rfl, .inl rfl, .inl rfl, hb⟩
    · obtain ⟨fx, fy, hmn, hn12⟩ := ok_fin hok
      refine lawTurn_in W xa ya n cx m cy X Y hX hY hs n m (fun i => (fun j => fbin .sub .f32 0 (X j)) (n - 1 - i)) (fun i => Y (m - 1 - i)) true h1 h2 (Lib.hid fun xa ya cx cy w hX hY => ?_) (Lib.hid fun xa ya cx cy w hX hY => ?_)
      · refine (specTurn_yes xa ya n m cx cy X Y _ w hX hY h1 h2 hok (neg_num fx)).mono ?_
        rintro e w' ⟨v, u, rfl, O1, O2, hb⟩
        obtain ⟨a, c, rfl, _, _, R1⟩ := rd_of_own O1
        obtain ⟨b, d, rfl, _, _, R2⟩ := rd_of_own O2
        exact ⟨a, c, b, d, rfl, R1, R2, hb⟩
      · by_cases h0 : n = 0
        · subst h0
          refine (implTurn_nil xa ya m cx cy X Y w hX hY h2 (by omega) hok).mono ?_
          rintro e w' ⟨a, c, h, d, rfl, O, hb⟩
          exact ⟨a, c, _, d, rfl, .inl rfl, .inr ⟨h, rfl, O⟩, .inl rfl, hb⟩
        · refine (implTurn_pos xa ya n m cx cy X Y _ w hX hY h1 h2 (by omega) (by omega) hok (neg_num fx)).mono ?_
          rintro e w' ⟨g, c, h, d, rfl, O1, O2, hgh, hb⟩
          exact ⟨_, c, _, d, rfl, .inr ⟨g, rfl, O1⟩, .inr ⟨h, rfl, O2⟩, .inr (.inr ⟨g, h, rfl, rfl, hgh⟩), hb⟩
  · have hs' : (1048576 : Int) < (n : Int) + m := by omega
    have HA : Below W.heap.size W (W.alloc (.cells #[.slice xa n cx, .slice ya m cy] 60)) := (Below.refl _ _).alloc (Nat.le_refl _) _
    have HP : Box2 (W.alloc (.cells #[.slice xa n cx, .slice ya m cy] 60)) W.heap.size (.slice xa n cx) (.slice ya m cy) := box2_alloc ..
    go_enter Try.func10, Try.ntmps10
    go_wp2_with fail
    generalize W.alloc (.cells #[.slice xa n cx, .slice ya m cy] 60) = A1 at *
    have HB := Blw.refl A1
    have HPa := HP.1
    have HPb := HP.2
    go_wp2_with fail
    refine (szSteps_no _ _ n m cx cy _ _ hs' (by omega) (by omega) hn hm).mono ?_
    rintro e0 w0 ⟨rfl, B0⟩
    clear HPa HPb
    replace HP := Box2.below (by exact HP) B0
    have HPa := HP.1
    have HPb := HP.2
    replace HB := Blw.next (by exact HB) B0
    clear B0
    go_wp2
    go_ret
    exact ⟨rfl, HA.trans ((Blw.out (by exact HB)).mono HA.size)⟩
set_option maxRecDepth 100000 in
theorem FnExactTurnSteps_lifted (os : Os) (started : os.Started) (H : Type) (enc : TypeId × Value → H) :
    ReturnsInHanded {} Try.checked os 10 .any (Rows.fnExactTurnStepsSpec.pre6 enc Try.prog Try.f10 Rows.fnExactTurnStepsRow.domain false) (Rows.fnExactTurnStepsSpec.post enc Try.prog Try.f10 false true false false) := by
  refine returnsInHanded_of_change (C := Try.checked) ownKnob_none started (by kernel_rfl) Try.func10
    (ChangeSpec.witness6 (enc := enc) (C := Try.checked) false ⟨#[], #[.agg #[.slice none 0 0, .slice none 0 0]], []⟩ 8 (by kernel_rfl) (by kernel_rfl) (by kernel_rfl) (by kernel_rfl)) ?_
  intro W base args ds gs before hval0 hW _ _
  have hval : ∀ (j : Nat) t v, Try.f10.params[j]? = some t → args[j]? = some v → Value.okWide Try.prog W .any base t v := hval0
  have hW' := hW
  obtain ⟨p, q, hA0, hV, rfl, _, _⟩ := hW
  have hA : DataW.TrodAll enc Try.prog W 0 (fun _ => true) true Try.f10.params.toList args.toList ds p := hA0
  rw [Try.params10] at hA hval
  obtain ⟨v0, vs0, d0, ds0, p0, q0, hargs, rfl, rfl, h0, r0⟩ := trodAll_cons hA
  obtain ⟨rfl, rfl, rfl⟩ := trodAll_nil r0
  obtain rfl : args = #[v0] := by cases args; simp_all
  obtain ⟨rfl, rfl⟩ := trodVars_none hV
  have k0 := h0
  obtain ⟨x0, n0, c0, y0, m0, e0, X0, Y0, rfl, w0⟩ := open_stw (hval 0 60 v0 rfl rfl) h0
  have b0 : ∀ x ∈ p0, x.block < W.heap.size := fun x hx => by have := hW'.lt x (by simp [hx]); simpa using this
  clear hA0 hval0
  refine (lawTurnSteps_any W x0 n0 c0 y0 m0 e0 X0 Y0 w0).mono fun e W' ⟨he, hb⟩ => ?_
  subst he
  have hA2 := trodAll_cons_mk (enc := enc) (w := W') (base := 0) (spare := fun b => decide (b < W.heap.size)) (held := true) (Below.trod laidOut (by kernel_rfl) (of_decide_eq_true (by kernel_rfl)) k0 hb b0) trodAll_mk0
  exact ⟨_, rfl, _, _, _, [], _, [], hW', trodAll_cons_mk (shut_bool Try.underlying4 _) trodAll_mk0, hA2, rfl, hb.frame _, fun h => by cases h⟩
theorem FnExactTurnSteps_holds : Rows.FnExactTurnStepsSaid :=
  OpenClaim.holds_of_wide 10 Try.f10 rfl rfl rfl rfl rfl rfl rfl ⟨rfl, rfl, rfl, rfl, rfl⟩ rfl rfl rfl rfl rfl (by kernel_rfl) Try.func10 (by kernel_rfl)
    (of_decide_eq_true (by kernel_rfl)) (by unfold Func.isWrapper; first | (rw [if_pos (by decide +kernel)]; kernel_rfl) | (rw [if_neg (by decide +kernel)]; exact ⟨rfl, rfl⟩))
    (fun os started H enc _ => FnExactTurnSteps_lifted os started H enc)
end Go.Proofs.Ytbblohjldkpcnab
