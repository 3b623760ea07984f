/- For all numbers the program tells how likely a crossing is passed just where the model does, and the same: for all arguments. -/
import Derived.Test.YtebelikahpnobaaSame
import Derived.Test.YtebelikahpnobaaExpI
import Derived.Test.YtebelikahpnobaaNum
import Derived.Test.YtebelikahpnobaaPushS
import Derived.Test.YtebelikahpnobaaLaw
namespace Go.Proofs.Ytebelikahpnobaa
open Go Go.ChangeShapes Go.WideShapes Go.ChangeAt Go.RowKit

def okCro (r s : Nat) : Bool := isG r && isP s
def croA (r s : Nat) : Nat := fbin .quo .f32 (fbin .sub .f32 0 (fbin .mul .f32 (fbin .mul .f32 1070141403 r) r)) s
def croB (r s : Nat) : Nat := fbin .sub .f32 0 (fbin .quo .f32 (fbin .mul .f32 (fbin .mul .f32 1070141403 r) r) s)
theorem cro_c : FloatKind.decode .f32 1070141403 = .number false 13176795 (-23) := by decide +kernel
theorem cro_args {r s : Nat} (h : okCro r s = true) : SameZ (croA r s) (croB r s) ∧ NegX (croB r s) := by
  unfold okCro at h
  rw [Bool.and_eq_true] at h
  have hf : isFin .f32 r = true := by
    have h1 := h.1
    unfold isG at h1
    rw [Bool.and_eq_true] at h1
    exact h1.1
  exact cross_args cro_c hf h.2
theorem expF_num {x : Nat} (h : NegX x) : isNaN .f32 (expF x) = false := by
  obtain ⟨_, _, _, hb⟩ := exp_facts h
  unfold expF
  cases h2 : (FloatKind.f32.format.order x 3276275712 == some .lt)
  · rw [if_neg (by simp)]
    unfold expV
    rw [isNaN_fconv, (hb h2).bd.num]
  · rw [if_pos rfl]; decide +kernel
set_option maxRecDepth 100000 in
set_option maxHeartbeats 1600000 in
theorem specCro_any (r s : Nat) (w : World) (E R : Nat) (ok k : Bool) (hk : Hid (k = okCro r s)) (hE : Hid (k = true → E = expF (croB r s) ∧ NegX (croB r s) ∧ ∀ t, pick .f32 E t = E)) (HR : Hid (R = if k = true then numQ E else 0)) (HO : Hid (ok = (k && isFin .f32 E))) :
    Calls Try.prog 36 #[.float .f32 r, .float .f32 s] w (NRet R ok w) := by
  cases c1 : isG r
  · skip
    have HK := Lib.hid (show k = false by rw [hk.out, okCro]; (first | (simp [c1, c2, c3, c4, c5, c6, c7]; done) | (simp [c1, c2, c3, c4, c5, c6]; done) | (simp [c1, c2, c3, c4, c5]; done) | (simp [c1, c2, c3, c4]; done) | (simp [c1, c2, c3]; done) | (simp [c1, c2]; done) | (simp [c1]; done)))
    go_enter Try.func36, Try.ntmps36
    go_wp2_with (first | (go_at_call 50; refine (l02Above_any _ _).mono ?_; rintro e w' ⟨rfl, q, rfl⟩) | (go_at_call 54; refine (l02Least_any _ _).mono ?_; rintro e w' ⟨rfl, q, rfl⟩))
    go_ret2
    refine NRet.no HR HO HK ?_
    (repeat (first | with_reducible exact Below.refl _ _ | with_reducible refine Below.drewN ?_ _ | with_reducible refine Below.setCell ?_ (by simp; try omega) _ | with_reducible refine Below.alloc ?_ (by simp; try omega) _))
  · skip
    cases c2 : isP s
    · skip
      have HK := Lib.hid (show k = false by rw [hk.out, okCro]; (first | (simp [c1, c2, c3, c4, c5, c6, c7]; done) | (simp [c1, c2, c3, c4, c5, c6]; done) | (simp [c1, c2, c3, c4, c5]; done) | (simp [c1, c2, c3, c4]; done) | (simp [c1, c2, c3]; done) | (simp [c1, c2]; done) | (simp [c1]; done)))
      go_enter Try.func36, Try.ntmps36
      go_wp2_with (first | (go_at_call 50; refine (l02Above_any _ _).mono ?_; rintro e w' ⟨rfl, q, rfl⟩) | (go_at_call 54; refine (l02Least_any _ _).mono ?_; rintro e w' ⟨rfl, q, rfl⟩))
      go_ret2
      refine NRet.no HR HO HK ?_
      (repeat (first | with_reducible exact Below.refl _ _ | with_reducible refine Below.drewN ?_ _ | with_reducible refine Below.setCell ?_ (by simp; try omega) _ | with_reducible refine Below.alloc ?_ (by simp; try omega) _))
    · skip
      have HK := Lib.hid (show k = true by rw [hk.out, okCro, c1, c2]; rfl)
      obtain ⟨e1, e2, e3⟩ := hE.out HK.out
      obtain ⟨B, hB⟩ : ∃ B, B = croB r s := ⟨_, rfl⟩
      rw [← hB] at e1 e2
      have hp := fun op => fbin_pick_l op .f32
      have hq := fun op => fbin_pick_r op .f32
      have eB : fbin .sub .f32 0 (fbin .quo .f32 (fbin .mul .f32 (fbin .mul .f32 1070141403 r) r) s) = B := hB.symm
      have hn := negX_num e2
      have hpk : ∀ t, pick .f32 B t = B := fun t => pick_num hn t
      have HE := Lib.hid (fun w => specExp_any B e2 E (Lib.hid e1) w)
      have HQ := Lib.hid (fun w => numS_any E 0 w)
      have e30 := e3 0
      rw [e30] at HQ
      clear e1 e2 hn hB hE e3 e30
      go_enter Try.func36, Try.ntmps36
      go_wp2_with (first | (first | ((with_reducible refine wpL_fbin ?_); refine ⟨_, _, _, rfl, rfl, rfl, fun s n => ?_⟩) | (go_at_call 50; refine (l02Above_any _ _).mono ?_; rintro e w' ⟨rfl, q, rfl⟩) | (go_at_call 54; refine (l02Least_any _ _).mono ?_; rintro e w' ⟨rfl, q, rfl⟩)) | (go_at_call 72; refine (HE.out _).mono ?_; rintro e w' ⟨rfl, m', rfl⟩) | (go_at_call 51; refine (HQ.out _).mono ?_; rintro e w' ⟨s', m', rfl, rfl⟩))
      go_ret2
      refine NRet.yes HR HO HK ?_
      (repeat (first | with_reducible exact Below.refl _ _ | with_reducible refine Below.drewN ?_ _ | with_reducible refine Below.setCell ?_ (by simp; try omega) _ | with_reducible refine Below.alloc ?_ (by simp; try omega) _))
set_option maxRecDepth 100000 in
set_option maxHeartbeats 1600000 in
theorem implCro_any (r s : Nat) (w : World) (E R : Nat) (ok k : Bool) (hk : Hid (k = okCro r s)) (hE : Hid (k = true → E = expF (croA r s) ∧ NegX (croA r s) ∧ ∀ t, pick .f32 E t = E)) (HR : Hid (R = if k = true then numQ E else 0)) (HO : Hid (ok = (k && isFin .f32 E))) :
    Calls Try.prog 37 #[.float .f32 r, .float .f32 s] w (NRet R ok w) := by
  have hg := gL_one r
  cases c1 : gL (fun _ => r) 1
  · skip
    have HK := Lib.hid (show k = false by rw [hk.out, okCro, ← hg]; (first | (simp [c1, c2, c3, c4, c5, c6, c7]; done) | (simp [c1, c2, c3, c4, c5, c6]; done) | (simp [c1, c2, c3, c4, c5]; done) | (simp [c1, c2, c3, c4]; done) | (simp [c1, c2, c3]; done) | (simp [c1, c2]; done) | (simp [c1]; done)))
    clear hg
    go_enter Try.func37, Try.ntmps37
    go_wp2_with (first | (go_at_call 46; refine (areAtLeastZero_any _ _ _ (fun _ => _) _ (by exact rd_one' _ _ _ (by simp)) (by omega)).mono ?_; rintro e w' ⟨rfl, q, rfl⟩) | (go_at_call 52; refine (isPositive_any _ _).mono ?_; rintro e w' ⟨rfl, q, rfl⟩))
    go_ret2
    refine NRet.no HR HO HK ?_
    (repeat (first | with_reducible exact Below.refl _ _ | with_reducible refine Below.drewN ?_ _ | with_reducible refine Below.setCell ?_ (by simp; try omega) _ | with_reducible refine Below.alloc ?_ (by simp; try omega) _))
  · skip
    cases c2 : isP s
    · skip
      have HK := Lib.hid (show k = false by rw [hk.out, okCro, ← hg]; (first | (simp [c1, c2, c3, c4, c5, c6, c7]; done) | (simp [c1, c2, c3, c4, c5, c6]; done) | (simp [c1, c2, c3, c4, c5]; done) | (simp [c1, c2, c3, c4]; done) | (simp [c1, c2, c3]; done) | (simp [c1, c2]; done) | (simp [c1]; done)))
      clear hg
      go_enter Try.func37, Try.ntmps37
      go_wp2_with (first | (go_at_call 46; refine (areAtLeastZero_any _ _ _ (fun _ => _) _ (by exact rd_one' _ _ _ (by simp)) (by omega)).mono ?_; rintro e w' ⟨rfl, q, rfl⟩) | (go_at_call 52; refine (isPositive_any _ _).mono ?_; rintro e w' ⟨rfl, q, rfl⟩))
      go_ret2
      refine NRet.no HR HO HK ?_
      (repeat (first | with_reducible exact Below.refl _ _ | with_reducible refine Below.drewN ?_ _ | with_reducible refine Below.setCell ?_ (by simp; try omega) _ | with_reducible refine Below.alloc ?_ (by simp; try omega) _))
    · skip
      have HK := Lib.hid (show k = true by rw [hk.out, okCro, ← hg, c1, c2]; rfl)
      clear hg
      obtain ⟨e1, e2, e3⟩ := hE.out HK.out
      obtain ⟨B, hB⟩ : ∃ B, B = croA r s := ⟨_, rfl⟩
      rw [← hB] at e1 e2
      have hp := fun op => fbin_pick_l op .f32
      have hq := fun op => fbin_pick_r op .f32
      have eB : fbin .quo .f32 (fbin .sub .f32 0 (fbin .mul .f32 (fbin .mul .f32 1070141403 r) r)) s = B := hB.symm
      have hn := negX_num e2
      have hpk : ∀ t, pick .f32 B t = B := fun t => pick_num hn t
      have HE := Lib.hid (fun w => implExp_any B e2 E (Lib.hid e1) w)
      have HQ := Lib.hid (fun w => numI_any E 0 w)
      have e30 := e3 0
      rw [e30] at HQ
      clear e1 e2 hn hB hE e3 e30
      go_enter Try.func37, Try.ntmps37
      go_wp2_with (first | (first | ((with_reducible refine wpL_fbin ?_); refine ⟨_, _, _, rfl, rfl, rfl, fun s n => ?_⟩) | (go_at_call 46; refine (areAtLeastZero_any _ _ _ (fun _ => _) _ (by exact rd_one' _ _ _ (by simp)) (by omega)).mono ?_; rintro e w' ⟨rfl, q, rfl⟩) | (go_at_call 52; refine (isPositive_any _ _).mono ?_; rintro e w' ⟨rfl, q, rfl⟩)) | (go_at_call 73; refine (HE.out _).mono ?_; rintro e w' ⟨rfl, m', rfl⟩) | (go_at_call 53; refine (HQ.out _).mono ?_; rintro e w' ⟨s', m', rfl, rfl⟩))
      go_ret2
      refine NRet.yes HR HO HK ?_
      (repeat (first | with_reducible exact Below.refl _ _ | with_reducible refine Below.drewN ?_ _ | with_reducible refine Below.setCell ?_ (by simp; try omega) _ | with_reducible refine Below.alloc ?_ (by simp; try omega) _))
/-- What is told of CrossShare. -/
def RetCrossShare (r0 : Nat) (r1 : Bool) (w : World) (e : Ending) (w' : World) : Prop := ∃ (s0 : Nat), e = .returned (.tuple #[.float .f32 (pick .f32 r0 s0), .bool r1]) ∧ Below w.heap.size w w'
theorem bothCrossShare (r : Nat) (_ : (Lit.float .f32 r).wf = true) (s : Nat) (_ : (Lit.float .f32 s).wf = true) : ∃ (x : Nat) (ok : Bool),
    (∀ (w : World), Calls Try.prog 36 #[.float .f32 r, .float .f32 s] w (RetCrossShare x ok w)) ∧ ∀ (w : World), Calls Try.prog 37 #[.float .f32 r, .float .f32 s] w (RetCrossShare x ok w) := by
  obtain ⟨k, hk⟩ : ∃ k, k = okCro r s := ⟨_, rfl⟩
  obtain ⟨E, hE⟩ : ∃ E, E = expF (croB r s) := ⟨_, rfl⟩
  obtain ⟨R, hR⟩ : ∃ R, R = if k = true then numQ E else 0 := ⟨_, rfl⟩
  obtain ⟨ok, ho⟩ : ∃ ok, ok = (k && isFin .f32 E) := ⟨_, rfl⟩
  have hB : k = true → E = expF (croB r s) ∧ NegX (croB r s) ∧ ∀ t, pick .f32 E t = E := fun h => by
    obtain ⟨_, hn⟩ := cro_args (hk ▸ h)
    exact ⟨hE, hn, fun t => pick_num (by rw [hE]; exact expF_num hn) t⟩
  have hA : k = true → E = expF (croA r s) ∧ NegX (croA r s) ∧ ∀ t, pick .f32 E t = E := fun h => by
    obtain ⟨hz, hn⟩ := cro_args (hk ▸ h)
    exact ⟨hE.trans hz.expF.symm, hz.negX hn, (hB h).2.2⟩
  exact ⟨R, ok, fun w => specCro_any r s w E R ok k (Lib.hid hk) (Lib.hid hB) (Lib.hid hR) (Lib.hid ho), fun w => implCro_any r s w E R ok k (Lib.hid hk) (Lib.hid hA) (Lib.hid hR) (Lib.hid ho)⟩
set_option maxRecDepth 100000 in
set_option maxHeartbeats 6400000 in
theorem lawCrossShare_in (W : World) (a0 : Nat) (_wf0 : (Lit.float .f32 a0).wf = true) (a1 : Nat) (_wf1 : (Lit.float .f32 a1).wf = true)  (r0 : Nat) (r1 : Bool) (HS : Hid (∀  (w : World),  Calls Try.prog 36 #[.float .f32 a0, .float .f32 a1] w (RetCrossShare r0 r1 w))) (HI : Hid (∀  (w : World),  Calls Try.prog 37 #[.float .f32 a0, .float .f32 a1] w (RetCrossShare r0 r1 w))) :
    Calls Try.prog 11 #[.float .f32 a0, .float .f32 a1] W fun e w' => e = .returned (.bool true) ∧ Below W.heap.size W w' := by
  have hcv := fun (R : Nat) (s t : Nat) => show canon .f64 (pick .f64 (fconv .f32 (pick .f32 R s) .f64) t) = canon .f64 (fconv .f32 R .f64) by rw [canon_pick, fconv_pick]
  have hcw := fun (R : Nat) (s t : Nat) => show canon .f64 (pick .f64 R s) = canon .f64 (pick .f64 R t) by rw [canon_pick, canon_pick]
  have HCV := Lib.hid hcv
  have HCW := Lib.hid hcw
  clear hcv hcw
  have hnb1 : (r1 != r1) = false := by simp
  have HB := Blw.refl W
  go_enter Try.func11, Try.ntmps11
  go_wp2_with fail
  refine (HS.out  _ ).mono ?_
  rintro e0 w1 ⟨sw0, rfl, B0⟩
  replace HB := Blw.next (by exact HB) B0
  clear B0
  have HL := Blw.refl w1
  have Eg := (Blw.out (by exact HL)).size
  go_wp2_with fail
  refine (HI.out  _ ).mono ?_
  rintro e0 w2 ⟨sg0, rfl, B0⟩
  replace HL := Blw.next (by exact HL) B0
  clear B0
  go_wp2_with (first | ((with_reducible refine wpL_fconv ?_); refine ⟨_, _, _, rfl, Option.isSome_iff_exists.2 ⟨_, Try.underlying22⟩, Try.underlying34, FloatKind.noConfusion, convOk_widen _, fun s n => ?_⟩) | ((with_reducible refine wpL_fconv_g ?_); refine ⟨rfl, _, _, _, rfl, Option.isSome_iff_exists.2 ⟨_, Try.underlying22⟩, Try.underlying34, FloatKind.noConfusion, convOk_widen _, fun s n => ?_⟩))
  refine (sameFloat_any _ _ _ ((HCV.out _ _ _).trans (HCV.out _ _ _).symm)).mono ?_
  rintro e0 w0 ⟨rfl, q, rfl⟩
  go_wp2
  go_ret
  exact ⟨rfl, (Blw.out (by exact HB)).trans ((Blw.out (by exact HL)).mono (Blw.out (by exact HB)).size)⟩
set_option maxHeartbeats 1600000 in
theorem lawCrossShare_any (W : World) (a0 : Nat) (_wf0 : (Lit.float .f32 a0).wf = true) (a1 : Nat) (_wf1 : (Lit.float .f32 a1).wf = true) :
    Calls Try.prog 11 #[.float .f32 a0, .float .f32 a1] W fun e w' => e = .returned (.bool true) ∧ Below W.heap.size W w' := by
  obtain ⟨r0, r1, hs, hi⟩ := bothCrossShare a0 _wf0 a1 _wf1
  exact lawCrossShare_in W a0 _wf0 a1 _wf1  r0 r1 (Lib.hid hs) (Lib.hid hi)
set_option maxRecDepth 100000 in
theorem FnExactCrossShare_lifted (os : Os) (started : os.Started) (H : Type) (enc : TypeId × Value → H) :
    ReturnsInHanded {} Try.checked os 11 .any (Rows.fnExactCrossShareSpec.pre6 enc Try.prog Try.f11 Rows.fnExactCrossShareRow.domain false) (Rows.fnExactCrossShareSpec.post enc Try.prog Try.f11 false true false false) := by
  refine returnsInHanded_of_change (C := Try.checked) ownKnob_none started (by kernel_rfl) Try.func11
    (ChangeSpec.witness6 (enc := enc) (C := Try.checked) false ⟨#[], #[.float .f32 0, .float .f32 0], []⟩ 8 (by kernel_rfl) (by kernel_rfl) (by kernel_rfl) (by kernel_rfl)) ?_
  intro W base args ds gs before hval0 hW _ _
  have hval : ∀ (j : Nat) t v, Try.f11.params[j]? = some t → args[j]? = some v → Value.okWide Try.prog W .any base t v := hval0
  have hW' := hW
  obtain ⟨p, q, hA0, hV, rfl, _, _⟩ := hW
  have hA : DataW.TrodAll enc Try.prog W 0 (fun _ => true) true Try.f11.params.toList args.toList ds p := hA0
  rw [Try.params11] at hA hval
  obtain ⟨v0, v1, d0, d1, p0, p1, rfl, rfl, rfl, h0, h1⟩ := trodAll_two hA
  obtain ⟨rfl, rfl⟩ := trodVars_none hV
  obtain ⟨a0, rfl, rfl, rfl, w0⟩ := open_float Try.underlying22 (hval 0 22 v0 rfl rfl) h0
  obtain ⟨a1, rfl, rfl, rfl, w1⟩ := open_float Try.underlying22 (hval 1 22 v1 rfl rfl) h1
  clear hA0 hval0
  refine (lawCrossShare_any W a0 w0 a1 w1).mono fun e W' ⟨he, hb⟩ => ?_
  subst he
  have hA2 := trodAll_mk2 (enc := enc) (w := W') (base := 0) (spare := fun b => decide (b < W.heap.size)) (held := true) (shut_float Try.underlying22 w0) (shut_float Try.underlying22 w1)
  exact ⟨_, rfl, _, _, _, [], _, [], hW', trodAll_cons_mk (shut_bool Try.underlying4 _) trodAll_mk0, hA2, rfl, hb.frame _, fun h => by cases h⟩
theorem FnExactCrossShare_holds : Rows.FnExactCrossShareSaid :=
  OpenClaim.holds_of_wide 11 Try.f11 rfl rfl rfl rfl rfl rfl rfl ⟨rfl, rfl, rfl, rfl, rfl⟩ rfl rfl rfl rfl rfl (by kernel_rfl) Try.func11 (by kernel_rfl)
    (of_decide_eq_true (by kernel_rfl)) (by unfold Func.isWrapper; first | (rw [if_pos (by decide +kernel)]; kernel_rfl) | (rw [if_neg (by decide +kernel)]; exact ⟨rfl, rfl⟩))
    (fun os started H enc _ => FnExactCrossShare_lifted os started H enc)
end Go.Proofs.Ytebelikahpnobaa
