/- For all numbers the program tells the pump from which on there is light just where the model does, and the same: for all arguments. -/
import Derived.Test.YtebelikahpnobaaNum
import Derived.Test.YtebelikahpnobaaPushS
import Derived.Test.YtebelikahpnobaaLaw
namespace Go.Proofs.Ytebelikahpnobaa
open Go Go.ChangeShapes Go.WideShapes Go.ChangeAt Go.RowKit

def okPum (a b : Nat) : Bool := isP a && isP b
def ansPum (a b : Nat) : Nat := fbin .quo .f32 a b
set_option maxRecDepth 100000 in
set_option maxHeartbeats 800000 in
theorem specPum_any (a b : Nat) (w : World) (R : Nat) (ok : Bool) (HR : Hid (R = if okPum a b = true then numQ (ansPum a b) else 0)) (HO : Hid (ok = (okPum a b && isFin .f32 (ansPum a b)))) : Calls Try.prog 20 #[.float .f32 a, .float .f32 b] w (NRet R ok w) := by
  cases c1 : isP a
  · skip
    have HK := Lib.hid (show okPum a b = false by simp [okPum, *])
    go_enter Try.func20, Try.ntmps20
    go_wp2_with (first | (go_at_call 50; refine (l02Above_any _ _).mono ?_; rintro e w' ⟨rfl, q, rfl⟩))
    go_ret2
    refine NRet.no HR HO HK ?_
    (repeat (first | with_reducible exact Below.refl _ _ | with_reducible refine Below.drewN ?_ _ | with_reducible refine Below.setCell ?_ (by simp; try omega) _ | with_reducible refine Below.alloc ?_ (by simp; try omega) _))
  · skip
    cases c2 : isP b
    · skip
      have HK := Lib.hid (show okPum a b = false by simp [okPum, *])
      go_enter Try.func20, Try.ntmps20
      go_wp2_with (first | (go_at_call 50; refine (l02Above_any _ _).mono ?_; rintro e w' ⟨rfl, q, rfl⟩))
      go_ret2
      refine NRet.no HR HO HK ?_
      (repeat (first | with_reducible exact Below.refl _ _ | with_reducible refine Below.drewN ?_ _ | with_reducible refine Below.setCell ?_ (by simp; try omega) _ | with_reducible refine Below.alloc ?_ (by simp; try omega) _))
    · skip
      have HK := Lib.hid (show okPum a b = true by simp [okPum, *])
      go_enter Try.func20, Try.ntmps20
      go_wp2_with (first | ((with_reducible refine wpL_fbin ?_); refine ⟨_, _, _, rfl, rfl, rfl, fun s n => ?_⟩) | (go_at_call 50; refine (l02Above_any _ _).mono ?_; rintro e w' ⟨rfl, q, rfl⟩) | (go_at_call 51; refine (numS_any _ _ _).mono ?_; rintro e w' ⟨s', m', rfl, rfl⟩))
      go_ret2
      refine NRet.yes HR HO HK ?_
      (repeat (first | with_reducible exact Below.refl _ _ | with_reducible refine Below.drewN ?_ _ | with_reducible refine Below.setCell ?_ (by simp; try omega) _ | with_reducible refine Below.alloc ?_ (by simp; try omega) _))
set_option maxRecDepth 100000 in
set_option maxHeartbeats 800000 in
theorem implPum_any (a b : Nat) (w : World) (R : Nat) (ok : Bool) (HR : Hid (R = if okPum a b = true then numQ (ansPum a b) else 0)) (HO : Hid (ok = (okPum a b && isFin .f32 (ansPum a b)))) : Calls Try.prog 21 #[.float .f32 a, .float .f32 b] w (NRet R ok w) := by
  cases c1 : isP a
  · skip
    have HK := Lib.hid (show okPum a b = false by simp [okPum, *])
    go_enter Try.func21, Try.ntmps21
    go_wp2_with (first | (go_at_call 52; refine (isPositive_any _ _).mono ?_; rintro e w' ⟨rfl, q, rfl⟩))
    go_ret2
    refine NRet.no HR HO HK ?_
    (repeat (first | with_reducible exact Below.refl _ _ | with_reducible refine Below.drewN ?_ _ | with_reducible refine Below.setCell ?_ (by simp; try omega) _ | with_reducible refine Below.alloc ?_ (by simp; try omega) _))
  · skip
    cases c2 : isP b
    · skip
      have HK := Lib.hid (show okPum a b = false by simp [okPum, *])
      go_enter Try.func21, Try.ntmps21
      go_wp2_with (first | (go_at_call 52; refine (isPositive_any _ _).mono ?_; rintro e w' ⟨rfl, q, rfl⟩))
      go_ret2
      refine NRet.no HR HO HK ?_
      (repeat (first | with_reducible exact Below.refl _ _ | with_reducible refine Below.drewN ?_ _ | with_reducible refine Below.setCell ?_ (by simp; try omega) _ | with_reducible refine Below.alloc ?_ (by simp; try omega) _))
    · skip
      have HK := Lib.hid (show okPum a b = true by simp [okPum, *])
      go_enter Try.func21, Try.ntmps21
      go_wp2_with (first | ((with_reducible refine wpL_fbin ?_); refine ⟨_, _, _, rfl, rfl, rfl, fun s n => ?_⟩) | (go_at_call 52; refine (isPositive_any _ _).mono ?_; rintro e w' ⟨rfl, q, rfl⟩) | (go_at_call 53; refine (numI_any _ _ _).mono ?_; rintro e w' ⟨s', m', rfl, rfl⟩))
      go_ret2
      refine NRet.yes HR HO HK ?_
      (repeat (first | with_reducible exact Below.refl _ _ | with_reducible refine Below.drewN ?_ _ | with_reducible refine Below.setCell ?_ (by simp; try omega) _ | with_reducible refine Below.alloc ?_ (by simp; try omega) _))
/-- What is told of PumpLevel. -/
def RetPumpLevel (r0 : Nat) (r1 : Bool) (w : World) (e : Ending) (w' : World) : Prop := ∃ (s0 : Nat), e = .returned (.tuple #[.float .f32 (pick .f32 r0 s0), .bool r1]) ∧ Below w.heap.size w w'
theorem bothPumpLevel (a : Nat) (_ : (Lit.float .f32 a).wf = true) (b : Nat) (_ : (Lit.float .f32 b).wf = true) : ∃ (r : Nat) (ok : Bool),
    (∀ (w : World), Calls Try.prog 20 #[.float .f32 a, .float .f32 b] w (RetPumpLevel r ok w)) ∧ ∀ (w : World), Calls Try.prog 21 #[.float .f32 a, .float .f32 b] w (RetPumpLevel r ok w)  := by
  obtain ⟨R, hR⟩ : ∃ R, R = if okPum a b = true then numQ (ansPum a b) else 0 := ⟨_, rfl⟩
  obtain ⟨ok, ho⟩ : ∃ ok, ok = (okPum a b && isFin .f32 (ansPum a b)) := ⟨_, rfl⟩
  exact ⟨R, ok, fun w => specPum_any a b w R ok (Lib.hid hR) (Lib.hid ho), fun w => implPum_any a b w R ok (Lib.hid hR) (Lib.hid ho)⟩
set_option maxRecDepth 100000 in
set_option maxHeartbeats 6400000 in
theorem lawPumpLevel_in (W : World) (a0 : Nat) (_wf0 : (Lit.float .f32 a0).wf = true) (a1 : Nat) (_wf1 : (Lit.float .f32 a1).wf = true)  (r0 : Nat) (r1 : Bool) (HS : Hid (∀  (w : World),  Calls Try.prog 20 #[.float .f32 a0, .float .f32 a1] w (RetPumpLevel r0 r1 w))) (HI : Hid (∀  (w : World),  Calls Try.prog 21 #[.float .f32 a0, .float .f32 a1] w (RetPumpLevel r0 r1 w))) :
    Calls Try.prog 5 #[.float .f32 a0, .float .f32 a1] W fun e w' => e = .returned (.bool true) ∧ Below W.heap.size W w' := by
  have hcv := fun (R : Nat) (s t : Nat) => show canon .f64 (pick .f64 (fconv .f32 (pick .f32 R s) .f64) t) = canon .f64 (fconv .f32 R .f64) by rw [canon_pick, fconv_pick]
  have hcw := fun (R : Nat) (s t : Nat) => show canon .f64 (pick .f64 R s) = canon .f64 (pick .f64 R t) by rw [canon_pick, canon_pick]
  have HCV := Lib.hid hcv
  have HCW := Lib.hid hcw
  clear hcv hcw
  have hnb1 : (r1 != r1) = false := by simp
  have HB := Blw.refl W
  go_enter Try.func5, Try.ntmps5
  go_wp2_with fail
  refine (HS.out  _ ).mono ?_
  rintro e0 w1 ⟨sw0, rfl, B0⟩
  replace HB := Blw.next (by exact HB) B0
  clear B0
  have HL := Blw.refl w1
  have Eg := (Blw.out (by exact HL)).size
  go_wp2_with fail
  refine (HI.out  _ ).mono ?_
  rintro e0 w2 ⟨sg0, rfl, B0⟩
  replace HL := Blw.next (by exact HL) B0
  clear B0
  go_wp2_with ((with_reducible refine wpL_fconv ?_); refine ⟨_, _, _, rfl, Option.isSome_iff_exists.2 ⟨_, Try.underlying22⟩, Try.underlying34, FloatKind.noConfusion, convOk_widen _, fun s n => ?_⟩)
  refine (sameFloat_any _ _ _ ((HCV.out _ _ _).trans (HCV.out _ _ _).symm)).mono ?_
  rintro e0 w0 ⟨rfl, q, rfl⟩
  go_wp2
  go_ret
  exact ⟨rfl, (Blw.out (by exact HB)).trans ((Blw.out (by exact HL)).mono (Blw.out (by exact HB)).size)⟩
set_option maxHeartbeats 1600000 in
theorem lawPumpLevel_any (W : World) (a0 : Nat) (_wf0 : (Lit.float .f32 a0).wf = true) (a1 : Nat) (_wf1 : (Lit.float .f32 a1).wf = true) :
    Calls Try.prog 5 #[.float .f32 a0, .float .f32 a1] W fun e w' => e = .returned (.bool true) ∧ Below W.heap.size W w' := by
  obtain ⟨r0, r1, hs, hi⟩ := bothPumpLevel a0 _wf0 a1 _wf1
  exact lawPumpLevel_in W a0 _wf0 a1 _wf1  r0 r1 (Lib.hid hs) (Lib.hid hi)
set_option maxRecDepth 100000 in
theorem FnExactPumpLevel_lifted (os : Os) (started : os.Started) (H : Type) (enc : TypeId × Value → H) :
    ReturnsInHanded {} Try.checked os 5 .any (Rows.fnExactPumpLevelSpec.pre6 enc Try.prog Try.f5 Rows.fnExactPumpLevelRow.domain false) (Rows.fnExactPumpLevelSpec.post enc Try.prog Try.f5 false true false false) := by
  refine returnsInHanded_of_change (C := Try.checked) ownKnob_none started (by kernel_rfl) Try.func5
    (ChangeSpec.witness6 (enc := enc) (C := Try.checked) false ⟨#[], #[.float .f32 0, .float .f32 0], []⟩ 8 (by kernel_rfl) (by kernel_rfl) (by kernel_rfl) (by kernel_rfl)) ?_
  intro W base args ds gs before hval0 hW _ _
  have hval : ∀ (j : Nat) t v, Try.f5.params[j]? = some t → args[j]? = some v → Value.okWide Try.prog W .any base t v := hval0
  have hW' := hW
  obtain ⟨p, q, hA0, hV, rfl, _, _⟩ := hW
  have hA : DataW.TrodAll enc Try.prog W 0 (fun _ => true) true Try.f5.params.toList args.toList ds p := hA0
  rw [Try.params5] at hA hval
  obtain ⟨v0, v1, d0, d1, p0, p1, rfl, rfl, rfl, h0, h1⟩ := trodAll_two hA
  obtain ⟨rfl, rfl⟩ := trodVars_none hV
  obtain ⟨a0, rfl, rfl, rfl, w0⟩ := open_float Try.underlying22 (hval 0 22 v0 rfl rfl) h0
  obtain ⟨a1, rfl, rfl, rfl, w1⟩ := open_float Try.underlying22 (hval 1 22 v1 rfl rfl) h1
  clear hA0 hval0
  refine (lawPumpLevel_any W a0 w0 a1 w1).mono fun e W' ⟨he, hb⟩ => ?_
  subst he
  have hA2 := trodAll_mk2 (enc := enc) (w := W') (base := 0) (spare := fun b => decide (b < W.heap.size)) (held := true) (shut_float Try.underlying22 w0) (shut_float Try.underlying22 w1)
  exact ⟨_, rfl, _, _, _, [], _, [], hW', trodAll_cons_mk (shut_bool Try.underlying4 _) trodAll_mk0, hA2, rfl, hb.frame _, fun h => by cases h⟩
theorem FnExactPumpLevel_holds : Rows.FnExactPumpLevelSaid :=
  OpenClaim.holds_of_wide 5 Try.f5 rfl rfl rfl rfl rfl rfl rfl ⟨rfl, rfl, rfl, rfl, rfl⟩ rfl rfl rfl rfl rfl (by kernel_rfl) Try.func5 (by kernel_rfl)
    (of_decide_eq_true (by kernel_rfl)) (by unfold Func.isWrapper; first | (rw [if_pos (by decide +kernel)]; kernel_rfl) | (rw [if_neg (by decide +kernel)]; exact ⟨rfl, rfl⟩))
    (fun os started H enc _ => FnExactPumpLevel_lifted os started H enc)
end Go.Proofs.Ytebelikahpnobaa
