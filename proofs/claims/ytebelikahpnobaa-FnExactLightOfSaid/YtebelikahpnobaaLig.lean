/- For all numbers the program tells the light that stays just where the model does, and the same: for all arguments. -/
import Derived.Test.YtebelikahpnobaaNum
import Derived.Test.YtebelikahpnobaaPushS
import Derived.Test.YtebelikahpnobaaLaw
import Derived.Test.YtebelikahpnobaaRootC
namespace Go.Proofs.Ytebelikahpnobaa
open Go Go.ChangeShapes Go.WideShapes Go.ChangeAt Go.RowKit

def okLig (p l g s : Nat) : Bool := (isG p && isG s) && isP l && isP g
def restLig (p l g : Nat) : Nat := fbin .sub .f32 p (fbin .quo .f32 l g)
def ansLig (p l g s : Nat) : Nat :=
  fbin .mul .f32 1056964608 (fbin .add .f32 (restLig p l g) (rootT (fbin .add .f32 (fbin .mul .f32 (restLig p l g) (restLig p l g)) (fbin .mul .f32 (fbin .mul .f32 1082130432 s) p))))
set_option maxRecDepth 100000 in
set_option maxHeartbeats 1600000 in
theorem specLig_any (p l g s : Nat) (w : World) (R : Nat) (ok : Bool) (HR : Hid (R = if okLig p l g s = true then numQ (ansLig p l g s) else 0)) (HO : Hid (ok = (okLig p l g s && isFin .f32 (ansLig p l g s)))) : Calls Try.prog 23 #[.float .f32 p, .float .f32 l, .float .f32 g, .float .f32 s] w (NRet R ok w) := by
  cases c1 : isG p
  · skip
    have HK := Lib.hid (show okLig p l g s = false by simp [okLig, *])
    go_enter Try.func23, Try.ntmps23
    go_wp2_with (first | (go_at_call 50; refine (l02Above_any _ _).mono ?_; rintro e w' ⟨rfl, q, rfl⟩) | (go_at_call 54; refine (l02Least_any _ _).mono ?_; rintro e w' ⟨rfl, q, rfl⟩))
    go_ret2
    refine NRet.no HR HO HK ?_
    (repeat (first | with_reducible exact Below.refl _ _ | with_reducible refine Below.drewN ?_ _ | with_reducible refine Below.setCell ?_ (by simp; try omega) _ | with_reducible refine Below.alloc ?_ (by simp; try omega) _))
  · skip
    cases c2 : isP l
    · skip
      have HK := Lib.hid (show okLig p l g s = false by simp [okLig, *])
      go_enter Try.func23, Try.ntmps23
      go_wp2_with (first | (go_at_call 50; refine (l02Above_any _ _).mono ?_; rintro e w' ⟨rfl, q, rfl⟩) | (go_at_call 54; refine (l02Least_any _ _).mono ?_; rintro e w' ⟨rfl, q, rfl⟩))
      go_ret2
      refine NRet.no HR HO HK ?_
      (repeat (first | with_reducible exact Below.refl _ _ | with_reducible refine Below.drewN ?_ _ | with_reducible refine Below.setCell ?_ (by simp; try omega) _ | with_reducible refine Below.alloc ?_ (by simp; try omega) _))
    · skip
      cases c3 : isP g
      · skip
        have HK := Lib.hid (show okLig p l g s = false by simp [okLig, *])
        go_enter Try.func23, Try.ntmps23
        go_wp2_with (first | (go_at_call 50; refine (l02Above_any _ _).mono ?_; rintro e w' ⟨rfl, q, rfl⟩) | (go_at_call 54; refine (l02Least_any _ _).mono ?_; rintro e w' ⟨rfl, q, rfl⟩))
        go_ret2
        refine NRet.no HR HO HK ?_
        (repeat (first | with_reducible exact Below.refl _ _ | with_reducible refine Below.drewN ?_ _ | with_reducible refine Below.setCell ?_ (by simp; try omega) _ | with_reducible refine Below.alloc ?_ (by simp; try omega) _))
      · skip
        cases c4 : isG s
        · skip
          have HK := Lib.hid (show okLig p l g s = false by simp [okLig, *])
          go_enter Try.func23, Try.ntmps23
          go_wp2_with (first | (go_at_call 50; refine (l02Above_any _ _).mono ?_; rintro e w' ⟨rfl, q, rfl⟩) | (go_at_call 54; refine (l02Least_any _ _).mono ?_; rintro e w' ⟨rfl, q, rfl⟩))
          go_ret2
          refine NRet.no HR HO HK ?_
          (repeat (first | with_reducible exact Below.refl _ _ | with_reducible refine Below.drewN ?_ _ | with_reducible refine Below.setCell ?_ (by simp; try omega) _ | with_reducible refine Below.alloc ?_ (by simp; try omega) _))
        · skip
          have HK := Lib.hid (show okLig p l g s = true by simp [okLig, *])
          have hp := fun op => fbin_pick_l op .f32
          have hq := fun op => fbin_pick_r op .f32
          have hrp := rootT_pick
          go_enter Try.func23, Try.ntmps23
          go_wp2_with (first | ((with_reducible refine wpL_fbin ?_); refine ⟨_, _, _, rfl, rfl, rfl, fun s n => ?_⟩) | (go_at_call 50; refine (l02Above_any _ _).mono ?_; rintro e w' ⟨rfl, q, rfl⟩) | (go_at_call 54; refine (l02Least_any _ _).mono ?_; rintro e w' ⟨rfl, q, rfl⟩) | (go_at_call 55; refine (l01Sqrt_any _ _).mono ?_; rintro e w' ⟨s', m', rfl, rfl⟩) | (go_at_call 51; refine (numS_any _ _ _).mono ?_; rintro e w' ⟨s', m', rfl, rfl⟩))
          go_ret2
          refine NRet.yes HR HO HK ?_
          (repeat (first | with_reducible exact Below.refl _ _ | with_reducible refine Below.drewN ?_ _ | with_reducible refine Below.setCell ?_ (by simp; try omega) _ | with_reducible refine Below.alloc ?_ (by simp; try omega) _))
set_option maxRecDepth 100000 in
set_option maxHeartbeats 1600000 in
theorem implLig_any (p l g s : Nat) (w : World) (R : Nat) (ok : Bool) (HR : Hid (R = if okLig p l g s = true then numQ (ansLig p l g s) else 0)) (HO : Hid (ok = (okLig p l g s && isFin .f32 (ansLig p l g s)))) : Calls Try.prog 24 #[.float .f32 p, .float .f32 l, .float .f32 g, .float .f32 s] w (NRet R ok w) := by
  have hg := gL_two p s
  cases c1 : gL (duo p s) 2
  · skip
    have HK := Lib.hid (show okLig p l g s = false by unfold okLig; rw [← hg]; (first | (simp [c1, c2, c3, c4, c5, c6, c7]; done) | (simp [c1, c2, c3, c4, c5, c6]; done) | (simp [c1, c2, c3, c4, c5]; done) | (simp [c1, c2, c3, c4]; done) | (simp [c1, c2, c3]; done) | (simp [c1, c2]; done) | (simp [c1]; done)))
    clear hg
    have hst := run_store_f32
    go_enter Try.func24, Try.ntmps24
    go_wp2_with (first | (first | (go_at_call 46; refine (areAtLeastZero_any _ _ _ (duo _ _) _ (by exact rd_two' _ _ _ _ (by simp)) (by omega)).mono ?_; rintro e w' ⟨rfl, q, rfl⟩) | (go_at_call 52; refine (isPositive_any _ _).mono ?_; rintro e w' ⟨rfl, q, rfl⟩)) | go_in)
    go_ret2
    refine NRet.no HR HO HK ?_
    (repeat (first | with_reducible exact Below.refl _ _ | with_reducible refine Below.drewN ?_ _ | with_reducible refine Below.setCell ?_ (by simp; try omega) _ | with_reducible refine Below.alloc ?_ (by simp; try omega) _))
  · skip
    cases c2 : isP l
    · skip
      have HK := Lib.hid (show okLig p l g s = false by unfold okLig; rw [← hg]; (first | (simp [c1, c2, c3, c4, c5, c6, c7]; done) | (simp [c1, c2, c3, c4, c5, c6]; done) | (simp [c1, c2, c3, c4, c5]; done) | (simp [c1, c2, c3, c4]; done) | (simp [c1, c2, c3]; done) | (simp [c1, c2]; done) | (simp [c1]; done)))
      clear hg
      have hst := run_store_f32
      go_enter Try.func24, Try.ntmps24
      go_wp2_with (first | (first | (go_at_call 46; refine (areAtLeastZero_any _ _ _ (duo _ _) _ (by exact rd_two' _ _ _ _ (by simp)) (by omega)).mono ?_; rintro e w' ⟨rfl, q, rfl⟩) | (go_at_call 52; refine (isPositive_any _ _).mono ?_; rintro e w' ⟨rfl, q, rfl⟩)) | go_in)
      go_ret2
      refine NRet.no HR HO HK ?_
      (repeat (first | with_reducible exact Below.refl _ _ | with_reducible refine Below.drewN ?_ _ | with_reducible refine Below.setCell ?_ (by simp; try omega) _ | with_reducible refine Below.alloc ?_ (by simp; try omega) _))
    · skip
      cases c3 : isP g
      · skip
        have HK := Lib.hid (show okLig p l g s = false by unfold okLig; rw [← hg]; (first | (simp [c1, c2, c3, c4, c5, c6, c7]; done) | (simp [c1, c2, c3, c4, c5, c6]; done) | (simp [c1, c2, c3, c4, c5]; done) | (simp [c1, c2, c3, c4]; done) | (simp [c1, c2, c3]; done) | (simp [c1, c2]; done) | (simp [c1]; done)))
        clear hg
        have hst := run_store_f32
        go_enter Try.func24, Try.ntmps24
        go_wp2_with (first | (first | (go_at_call 46; refine (areAtLeastZero_any _ _ _ (duo _ _) _ (by exact rd_two' _ _ _ _ (by simp)) (by omega)).mono ?_; rintro e w' ⟨rfl, q, rfl⟩) | (go_at_call 52; refine (isPositive_any _ _).mono ?_; rintro e w' ⟨rfl, q, rfl⟩)) | go_in)
        go_ret2
        refine NRet.no HR HO HK ?_
        (repeat (first | with_reducible exact Below.refl _ _ | with_reducible refine Below.drewN ?_ _ | with_reducible refine Below.setCell ?_ (by simp; try omega) _ | with_reducible refine Below.alloc ?_ (by simp; try omega) _))
      · skip
        have HK := Lib.hid (show okLig p l g s = true by unfold okLig; rw [← hg]; (first | (simp [c1, c2, c3, c4, c5, c6, c7]; done) | (simp [c1, c2, c3, c4, c5, c6]; done) | (simp [c1, c2, c3, c4, c5]; done) | (simp [c1, c2, c3, c4]; done) | (simp [c1, c2, c3]; done) | (simp [c1, c2]; done) | (simp [c1]; done)))
        clear hg
        have hp := fun op => fbin_pick_l op .f32
        have hq := fun op => fbin_pick_r op .f32
        have hrp := rootT_pick
        have hst := run_store_f32
        go_enter Try.func24, Try.ntmps24
        go_wp2_with (first | (first | ((with_reducible refine wpL_fbin ?_); refine ⟨_, _, _, rfl, rfl, rfl, fun s n => ?_⟩) | (go_at_call 46; refine (areAtLeastZero_any _ _ _ (duo _ _) _ (by exact rd_two' _ _ _ _ (by simp)) (by omega)).mono ?_; rintro e w' ⟨rfl, q, rfl⟩) | (go_at_call 52; refine (isPositive_any _ _).mono ?_; rintro e w' ⟨rfl, q, rfl⟩) | (go_at_call 57; refine (RootNumber_any _ _).mono ?_; rintro e w' ⟨s', m', rfl, rfl⟩) | (go_at_call 53; refine (numI_any _ _ _).mono ?_; rintro e w' ⟨s', m', rfl, rfl⟩)) | go_in)
        go_ret2
        refine NRet.yes HR HO HK ?_
        (repeat (first | with_reducible exact Below.refl _ _ | with_reducible refine Below.drewN ?_ _ | with_reducible refine Below.setCell ?_ (by simp; try omega) _ | with_reducible refine Below.alloc ?_ (by simp; try omega) _))
/-- What is told of LightOf. -/
def RetLightOf (r0 : Nat) (r1 : Bool) (w : World) (e : Ending) (w' : World) : Prop := ∃ (s0 : Nat), e = .returned (.tuple #[.float .f32 (pick .f32 r0 s0), .bool r1]) ∧ Below w.heap.size w w'
theorem bothLightOf (p : Nat) (_ : (Lit.float .f32 p).wf = true) (l : Nat) (_ : (Lit.float .f32 l).wf = true) (g : Nat) (_ : (Lit.float .f32 g).wf = true) (s : Nat) (_ : (Lit.float .f32 s).wf = true) : ∃ (r : Nat) (ok : Bool),
    (∀ (w : World), Calls Try.prog 23 #[.float .f32 p, .float .f32 l, .float .f32 g, .float .f32 s] w (RetLightOf r ok w)) ∧ ∀ (w : World), Calls Try.prog 24 #[.float .f32 p, .float .f32 l, .float .f32 g, .float .f32 s] w (RetLightOf r ok w)  := by
  obtain ⟨R, hR⟩ : ∃ R, R = if okLig p l g s = true then numQ (ansLig p l g s) else 0 := ⟨_, rfl⟩
  obtain ⟨ok, ho⟩ : ∃ ok, ok = (okLig p l g s && isFin .f32 (ansLig p l g s)) := ⟨_, rfl⟩
  exact ⟨R, ok, fun w => specLig_any p l g s w R ok (Lib.hid hR) (Lib.hid ho), fun w => implLig_any p l g s w R ok (Lib.hid hR) (Lib.hid ho)⟩
set_option maxRecDepth 100000 in
set_option maxHeartbeats 6400000 in
theorem lawLightOf_in (W : World) (a0 : Nat) (_wf0 : (Lit.float .f32 a0).wf = true) (a1 : Nat) (_wf1 : (Lit.float .f32 a1).wf = true) (a2 : Nat) (_wf2 : (Lit.float .f32 a2).wf = true) (a3 : Nat) (_wf3 : (Lit.float .f32 a3).wf = true)  (r0 : Nat) (r1 : Bool) (HS : Hid (∀  (w : World),  Calls Try.prog 23 #[.float .f32 a0, .float .f32 a1, .float .f32 a2, .float .f32 a3] w (RetLightOf r0 r1 w))) (HI : Hid (∀  (w : World),  Calls Try.prog 24 #[.float .f32 a0, .float .f32 a1, .float .f32 a2, .float .f32 a3] w (RetLightOf r0 r1 w))) :
    Calls Try.prog 6 #[.float .f32 a0, .float .f32 a1, .float .f32 a2, .float .f32 a3] W fun e w' => e = .returned (.bool true) ∧ Below W.heap.size W w' := by
  have hcv := fun (R : Nat) (s t : Nat) => show canon .f64 (pick .f64 (fconv .f32 (pick .f32 R s) .f64) t) = canon .f64 (fconv .f32 R .f64) by rw [canon_pick, fconv_pick]
  have hcw := fun (R : Nat) (s t : Nat) => show canon .f64 (pick .f64 R s) = canon .f64 (pick .f64 R t) by rw [canon_pick, canon_pick]
  have HCV := Lib.hid hcv
  have HCW := Lib.hid hcw
  clear hcv hcw
  have hnb1 : (r1 != r1) = false := by simp
  have HB := Blw.refl W
  go_enter Try.func6, Try.ntmps6
  go_wp2_with fail
  refine (HS.out  _ ).mono ?_
  rintro e0 w1 ⟨sw0, rfl, B0⟩
  replace HB := Blw.next (by exact HB) B0
  clear B0
  have HL := Blw.refl w1
  have Eg := (Blw.out (by exact HL)).size
  go_wp2_with fail
  refine (HI.out  _ ).mono ?_
  rintro e0 w2 ⟨sg0, rfl, B0⟩
  replace HL := Blw.next (by exact HL) B0
  clear B0
  go_wp2_with ((with_reducible refine wpL_fconv ?_); refine ⟨_, _, _, rfl, Option.isSome_iff_exists.2 ⟨_, Try.underlying22⟩, Try.underlying34, FloatKind.noConfusion, convOk_widen _, fun s n => ?_⟩)
  refine (sameFloat_any _ _ _ ((HCV.out _ _ _).trans (HCV.out _ _ _).symm)).mono ?_
  rintro e0 w0 ⟨rfl, q, rfl⟩
  go_wp2
  go_ret
  exact ⟨rfl, (Blw.out (by exact HB)).trans ((Blw.out (by exact HL)).mono (Blw.out (by exact HB)).size)⟩
set_option maxHeartbeats 1600000 in
theorem lawLightOf_any (W : World) (a0 : Nat) (_wf0 : (Lit.float .f32 a0).wf = true) (a1 : Nat) (_wf1 : (Lit.float .f32 a1).wf = true) (a2 : Nat) (_wf2 : (Lit.float .f32 a2).wf = true) (a3 : Nat) (_wf3 : (Lit.float .f32 a3).wf = true) :
    Calls Try.prog 6 #[.float .f32 a0, .float .f32 a1, .float .f32 a2, .float .f32 a3] W fun e w' => e = .returned (.bool true) ∧ Below W.heap.size W w' := by
  obtain ⟨r0, r1, hs, hi⟩ := bothLightOf a0 _wf0 a1 _wf1 a2 _wf2 a3 _wf3
  exact lawLightOf_in W a0 _wf0 a1 _wf1 a2 _wf2 a3 _wf3  r0 r1 (Lib.hid hs) (Lib.hid hi)
set_option maxRecDepth 100000 in
theorem FnExactLightOf_lifted (os : Os) (started : os.Started) (H : Type) (enc : TypeId × Value → H) :
    ReturnsInHanded {} Try.checked os 6 .any (Rows.fnExactLightOfSpec.pre6 enc Try.prog Try.f6 Rows.fnExactLightOfRow.domain false) (Rows.fnExactLightOfSpec.post enc Try.prog Try.f6 false true false false) := by
  refine returnsInHanded_of_change (C := Try.checked) ownKnob_none started (by kernel_rfl) Try.func6
    (ChangeSpec.witness6 (enc := enc) (C := Try.checked) false ⟨#[], #[.float .f32 0, .float .f32 0, .float .f32 0, .float .f32 0], []⟩ 8 (by kernel_rfl) (by kernel_rfl) (by kernel_rfl) (by kernel_rfl)) ?_
  intro W base args ds gs before hval0 hW _ _
  have hval : ∀ (j : Nat) t v, Try.f6.params[j]? = some t → args[j]? = some v → Value.okWide Try.prog W .any base t v := hval0
  have hW' := hW
  obtain ⟨p, q, hA0, hV, rfl, _, _⟩ := hW
  have hA : DataW.TrodAll enc Try.prog W 0 (fun _ => true) true Try.f6.params.toList args.toList ds p := hA0
  rw [Try.params6] at hA hval
  obtain ⟨v0, v1, v2, v3, d0, d1, d2, d3, p0, p1, p2, p3, rfl, rfl, rfl, h0, h1, h2, h3⟩ := trodAll_four hA
  obtain ⟨rfl, rfl⟩ := trodVars_none hV
  obtain ⟨a0, rfl, rfl, rfl, w0⟩ := open_float Try.underlying22 (hval 0 22 v0 rfl rfl) h0
  obtain ⟨a1, rfl, rfl, rfl, w1⟩ := open_float Try.underlying22 (hval 1 22 v1 rfl rfl) h1
  obtain ⟨a2, rfl, rfl, rfl, w2⟩ := open_float Try.underlying22 (hval 2 22 v2 rfl rfl) h2
  obtain ⟨a3, rfl, rfl, rfl, w3⟩ := open_float Try.underlying22 (hval 3 22 v3 rfl rfl) h3
  clear hA0 hval0
  refine (lawLightOf_any W a0 w0 a1 w1 a2 w2 a3 w3).mono fun e W' ⟨he, hb⟩ => ?_
  subst he
  have hA2 := trodAll_mk4 (enc := enc) (w := W') (base := 0) (spare := fun b => decide (b < W.heap.size)) (held := true) (shut_float Try.underlying22 w0) (shut_float Try.underlying22 w1) (shut_float Try.underlying22 w2) (shut_float Try.underlying22 w3)
  exact ⟨_, rfl, _, _, _, [], _, [], hW', trodAll_cons_mk (shut_bool Try.underlying4 _) trodAll_mk0, hA2, rfl, hb.frame _, fun h => by cases h⟩
theorem FnExactLightOf_holds : Rows.FnExactLightOfSaid :=
  OpenClaim.holds_of_wide 6 Try.f6 rfl rfl rfl rfl rfl rfl rfl ⟨rfl, rfl, rfl, rfl, rfl⟩ rfl rfl rfl rfl rfl (by kernel_rfl) Try.func6 (by kernel_rfl)
    (of_decide_eq_true (by kernel_rfl)) (by unfold Func.isWrapper; first | (rw [if_pos (by decide +kernel)]; kernel_rfl) | (rw [if_neg (by decide +kernel)]; exact ⟨rfl, rfl⟩))
    (fun os started H enc _ => FnExactLightOf_lifted os started H enc)
end Go.Proofs.Ytebelikahpnobaa
