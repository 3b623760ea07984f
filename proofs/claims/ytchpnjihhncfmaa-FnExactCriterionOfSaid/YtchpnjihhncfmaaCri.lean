/- For all numbers the program tells the criterion just where the model does, and the same: for all arguments. -/
import Derived.Test.YtchpnjihhncfmaaSame
import Derived.Test.YtchpnjihhncfmaaPq
import Derived.Test.YtchpnjihhncfmaaNu5
import Derived.Test.YtchpnjihhncfmaaIn
import Derived.Test.YtchpnjihhncfmaaLg3
import Derived.Test.YtchpnjihhncfmaaLaw
namespace Go.Proofs.Ytchpnjihhncfmaa
open Go Go.ChangeShapes Go.WideShapes Go.ChangeAt Go.RowKit

def okCri (r : Nat) (a b : Int) : Bool := isP r && (inB a 1 128 && inB b 0 a)
theorem criNo {w w' : World} (hb : Below w.heap.size w w') : NRet 0 false w (.returned (.tuple #[.float .f32 0, .bool false])) w' := ⟨0, by rw [pick_nul], hb⟩
theorem criYes {D s : Nat} {w w' : World} (hb : Below w.heap.size w w') : NRet (numQ D) (isFin .f32 D) w (.returned (.tuple #[.float .f32 (pick .f32 (numQ D) s), .bool (isFin .f32 D)])) w' := ⟨s, rfl, hb⟩
theorem word_lt (op : BinOp) (x y s : Nat) : pick .f32 (fbin op .f32 x y) s < 4294967296 := by
  have := pick_wf (fbin_wf op .f32 x y) s
  simpa [Lit.wf] using this
theorem int_lt (a : Int) : floatOfInt .f32 a < 4294967296 := by
  have : (Lit.float .f32 (floatOfInt .f32 a)).wf = true := by unfold floatOfInt; exact encode_wf ..
  simpa [Lit.wf] using this
set_option maxRecDepth 100000 in
set_option maxHeartbeats 3200000 in
theorem specCri_no (r : Nat) (a b : Int) (w : World) (hk : okCri r a b = false) : Calls Try.prog 33 #[.float .f32 r, .int .i64 a, .int .i64 b] w (NRet 0 false w) := by
  cases c1 : isFin .f32 r
  · clear hk
    go_enter Try.func33, Try.ntmps33
    go_wp2_with (first | (go_at_call 79; refine (l01Finite_any _ _).mono ?_; rintro e w' ⟨rfl, q, rfl⟩) | (go_at_call 83; refine (l00In_any _ _ _ _).mono ?_; rintro e w' ⟨rfl, rfl⟩))
    go_ret2
    refine criNo ?_
    (repeat (first | with_reducible exact Below.refl _ _ | with_reducible refine Below.drewN ?_ _ | with_reducible refine Below.setCell ?_ (by simp; try omega) _ | with_reducible refine Below.alloc ?_ (by simp; try omega) _))
  · cases c2 : (FloatKind.f32.format.order r 0 == some .gt)
    · clear hk
      go_enter Try.func33, Try.ntmps33
      go_wp2_with (first | (go_at_call 79; refine (l01Finite_any _ _).mono ?_; rintro e w' ⟨rfl, q, rfl⟩) | (go_at_call 83; refine (l00In_any _ _ _ _).mono ?_; rintro e w' ⟨rfl, rfl⟩))
      go_ret2
      refine criNo ?_
      (repeat (first | with_reducible exact Below.refl _ _ | with_reducible refine Below.drewN ?_ _ | with_reducible refine Below.setCell ?_ (by simp; try omega) _ | with_reducible refine Below.alloc ?_ (by simp; try omega) _))
    · cases c3 : inB a 1 128
      · clear hk
        go_enter Try.func33, Try.ntmps33
        go_wp2_with (first | (go_at_call 79; refine (l01Finite_any _ _).mono ?_; rintro e w' ⟨rfl, q, rfl⟩) | (go_at_call 83; refine (l00In_any _ _ _ _).mono ?_; rintro e w' ⟨rfl, rfl⟩))
        go_ret2
        refine criNo ?_
        (repeat (first | with_reducible exact Below.refl _ _ | with_reducible refine Below.drewN ?_ _ | with_reducible refine Below.setCell ?_ (by simp; try omega) _ | with_reducible refine Below.alloc ?_ (by simp; try omega) _))
      · cases c4 : inB b 0 a
        · clear hk
          go_enter Try.func33, Try.ntmps33
          go_wp2_with (first | (go_at_call 79; refine (l01Finite_any _ _).mono ?_; rintro e w' ⟨rfl, q, rfl⟩) | (go_at_call 83; refine (l00In_any _ _ _ _).mono ?_; rintro e w' ⟨rfl, rfl⟩))
          go_ret2
          refine criNo ?_
          (repeat (first | with_reducible exact Below.refl _ _ | with_reducible refine Below.drewN ?_ _ | with_reducible refine Below.setCell ?_ (by simp; try omega) _ | with_reducible refine Below.alloc ?_ (by simp; try omega) _))
        · exfalso
          rw [okCri, isP, c1, c2, c3, c4] at hk
          cases hk
set_option maxRecDepth 100000 in
set_option maxHeartbeats 3200000 in
theorem implCri_no (r : Nat) (a b : Int) (w : World) (hk : okCri r a b = false) : Calls Try.prog 34 #[.float .f32 r, .int .i64 a, .int .i64 b] w (NRet 0 false w) := by
  cases c1 : isP r
  · skip
    clear hk
    go_enter Try.func34, Try.ntmps34
    go_wp2_with (first | (go_at_call 86; refine (isPositive_any _ _).mono ?_; rintro e w' ⟨rfl, q, rfl⟩))
    go_ret2
    refine criNo ?_
    (repeat (first | with_reducible exact Below.refl _ _ | with_reducible refine Below.drewN ?_ _ | with_reducible refine Below.setCell ?_ (by simp; try omega) _ | with_reducible refine Below.alloc ?_ (by simp; try omega) _))
  · skip
    cases c2 : decide (a < 1)
    rotate_left
    · skip
      clear hk
      go_enter Try.func34, Try.ntmps34
      go_wp2_with (first | (go_at_call 86; refine (isPositive_any _ _).mono ?_; rintro e w' ⟨rfl, q, rfl⟩))
      go_ret2
      refine criNo ?_
      (repeat (first | with_reducible exact Below.refl _ _ | with_reducible refine Below.drewN ?_ _ | with_reducible refine Below.setCell ?_ (by simp; try omega) _ | with_reducible refine Below.alloc ?_ (by simp; try omega) _))
    · skip
      cases c3 : decide (128 < a)
      rotate_left
      · skip
        clear hk
        go_enter Try.func34, Try.ntmps34
        go_wp2_with (first | (go_at_call 86; refine (isPositive_any _ _).mono ?_; rintro e w' ⟨rfl, q, rfl⟩))
        go_ret2
        refine criNo ?_
        (repeat (first | with_reducible exact Below.refl _ _ | with_reducible refine Below.drewN ?_ _ | with_reducible refine Below.setCell ?_ (by simp; try omega) _ | with_reducible refine Below.alloc ?_ (by simp; try omega) _))
      · skip
        cases c4 : decide (b < 0)
        rotate_left
        · skip
          clear hk
          go_enter Try.func34, Try.ntmps34
          go_wp2_with (first | (go_at_call 86; refine (isPositive_any _ _).mono ?_; rintro e w' ⟨rfl, q, rfl⟩))
          go_ret2
          refine criNo ?_
          (repeat (first | with_reducible exact Below.refl _ _ | with_reducible refine Below.drewN ?_ _ | with_reducible refine Below.setCell ?_ (by simp; try omega) _ | with_reducible refine Below.alloc ?_ (by simp; try omega) _))
        · skip
          cases c5 : decide (a < b)
          rotate_left
          · skip
            clear hk
            go_enter Try.func34, Try.ntmps34
            go_wp2_with (first | (go_at_call 86; refine (isPositive_any _ _).mono ?_; rintro e w' ⟨rfl, q, rfl⟩))
            go_ret2
            refine criNo ?_
            (repeat (first | with_reducible exact Below.refl _ _ | with_reducible refine Below.drewN ?_ _ | with_reducible refine Below.setCell ?_ (by simp; try omega) _ | with_reducible refine Below.alloc ?_ (by simp; try omega) _))
          · skip
            exfalso
            have h1 := of_decide_eq_false c2
            have h2 := of_decide_eq_false c3
            have h3 := of_decide_eq_false c4
            have h4 := of_decide_eq_false c5
            rw [okCri, c1, inB_yes (by omega) (by omega), inB_yes (by omega) (by omega)] at hk
            cases hk
set_option maxRecDepth 100000 in
set_option maxHeartbeats 3200000 in
theorem specCri_yes (r : Nat) (a b : Int) (w : World) (hk : okCri r a b = true) (N K Q L1 L2 D : Nat) (hN : Hid (N = floatOfInt .f32 a)) (hK : Hid (K = floatOfInt .f32 b)) (hQ : Hid (Q = fbin .quo .f32 r N)) (h1 : Hid (L1 = logT Q)) (h2 : Hid (L2 = logT N)) (hD : Hid (D = fbin .add .f32 (fbin .mul .f32 N L1) (fbin .mul .f32 K L2))) :
    Calls Try.prog 33 #[.float .f32 r, .int .i64 a, .int .i64 b] w (NRet (numQ D) (isFin .f32 D) w) := by
  have hh : (isFin .f32 r = true ∧ (FloatKind.f32.format.order r 0 == some .gt) = true) ∧ inB a 1 128 = true ∧ inB b 0 a = true := by
    unfold okCri isP at hk
    simpa only [Bool.and_eq_true] using hk
  obtain ⟨⟨f1, f2⟩, f3, f4⟩ := hh
  have hnQ : isNaN .f32 Q = false := by
    have hp : isP r = true := by unfold isP; rw [f1, f2]; rfl
    have ha := inB_rng f3
    rw [hQ.out, hN.out]
    refine nan_quo_pos (num_fin f1) ?_
    have H : ∀ j : Fin 128, isP (floatOfInt .f32 ((j.val : Int) + 1)) = true := by decide +kernel
    have := H ⟨(a - 1).toNat, by omega⟩
    rw [show (((a - 1).toNat : Nat) : Int) + 1 = a by omega] at this
    exact pos_read this
  have HL1 := Lib.hid (fun w => specLogT_any Q (by rw [hQ.out]; simpa [Lit.wf] using fbin_wf .quo .f32 r N) w)
  have HL2 := Lib.hid (fun w => specLogT_any N (by rw [hN.out]; exact int_lt a) w)
  rw [← h1.out] at HL1
  rw [← h2.out] at HL2
  have pQ := fun s => pick_num (s := s) hnQ
  have hp := fun op => fbin_pick_l op .f32
  have hq := fun op => fbin_pick_r op .f32
  have eN : floatOfInt .f32 a = N := hN.out.symm
  have eK : floatOfInt .f32 b = K := hK.out.symm
  have eQ : fbin .quo .f32 r N = Q := hQ.out.symm
  have eD : fbin .add .f32 (fbin .mul .f32 N L1) (fbin .mul .f32 K L2) = D := hD.out.symm
  have HY := Lib.hid (fun s w' hb => criYes (D := D) (s := s) (w := w) (w' := w') hb)
  clear hk hN hK hQ h1 h2 hD hnQ
  go_enter Try.func33, Try.ntmps33
  go_wp2_with (first | (first | ((with_reducible refine wpL_fbin ?_); refine ⟨_, _, _, rfl, rfl, rfl, fun s n => ?_⟩) | (go_at_call 79; refine (l01Finite_any _ _).mono ?_; rintro e w' ⟨rfl, q, rfl⟩) | (go_at_call 83; refine (l00In_any _ _ _ _).mono ?_; rintro e w' ⟨rfl, rfl⟩) | ((with_reducible refine wpL_fsame ?_); refine ⟨_, _, rfl, Option.isSome_iff_exists.2 ⟨_, Try.underlying23⟩, Try.underlying23, ?_⟩)) | (go_at_call 143; refine (HL1.out _).mono ?_; clear HL1; rintro e w' ⟨s', m', rfl, rfl⟩) | (go_at_call 143; refine (HL2.out _).mono ?_; clear HL2; rintro e w' ⟨s', m', rfl, rfl⟩) | (first | (go_at_call 84; refine (numS_any _ _ _).mono ?_; rintro e w' ⟨s', m', rfl, rfl⟩)) | go_in)
  go_ret2
  refine HY.out _ _ ?_
  (repeat (first | with_reducible exact Below.refl _ _ | with_reducible refine Below.drewN ?_ _ | with_reducible refine Below.setCell ?_ (by simp; try omega) _ | with_reducible refine Below.alloc ?_ (by simp; try omega) _))
set_option maxRecDepth 100000 in
set_option maxHeartbeats 3200000 in
theorem implCri_yes (r : Nat) (a b : Int) (w : World) (hk : okCri r a b = true) (N K Q L1 L2 D : Nat) (hN : Hid (N = floatOfInt .f32 a)) (hK : Hid (K = floatOfInt .f32 b)) (hQ : Hid (Q = fbin .quo .f32 r N)) (h1 : Hid (L1 = logT Q)) (h2 : Hid (L2 = logT N)) (hD : Hid (D = fbin .add .f32 (fbin .mul .f32 N L1) (fbin .mul .f32 K L2))) :
    Calls Try.prog 34 #[.float .f32 r, .int .i64 a, .int .i64 b] w (NRet (numQ D) (isFin .f32 D) w) := by
  have hh : isP r = true ∧ inB a 1 128 = true ∧ inB b 0 a = true := by
    unfold okCri at hk
    simpa only [Bool.and_eq_true] using hk
  obtain ⟨f1, f3, f4⟩ := hh
  have ha := inB_rng f3
  have hb := inB_rng f4
  have hnQ : isNaN .f32 Q = false := by
    rw [hQ.out, hN.out]
    refine nan_quo_pos (num_fin (isP_fin f1)) ?_
    have H : ∀ j : Fin 128, isP (floatOfInt .f32 ((j.val : Int) + 1)) = true := by decide +kernel
    have := H ⟨(a - 1).toNat, by omega⟩
    rw [show (((a - 1).toNat : Nat) : Int) + 1 = a by omega] at this
    exact pos_read this
  have d1 : decide (a < 1) = false := decide_eq_false (by omega)
  have d2 : decide (128 < a) = false := decide_eq_false (by omega)
  have d3 : decide (b < 0) = false := decide_eq_false (by omega)
  have d4 : decide (a < b) = false := decide_eq_false (by omega)
  have HL1 := Lib.hid (fun w => implLogT_any Q (by rw [hQ.out]; simpa [Lit.wf] using fbin_wf .quo .f32 r N) w)
  have HL2 := Lib.hid (fun w => implLogT_any N (by rw [hN.out]; exact int_lt a) w)
  rw [← h1.out] at HL1
  rw [← h2.out] at HL2
  have pQ := fun s => pick_num (s := s) hnQ
  have hp := fun op => fbin_pick_l op .f32
  have hq := fun op => fbin_pick_r op .f32
  have eN : floatOfInt .f32 a = N := hN.out.symm
  have eK : floatOfInt .f32 b = K := hK.out.symm
  have eQ : fbin .quo .f32 r N = Q := hQ.out.symm
  have eD : fbin .add .f32 (fbin .mul .f32 N L1) (fbin .mul .f32 K L2) = D := hD.out.symm
  have HY := Lib.hid (fun s w' hb => criYes (D := D) (s := s) (w := w) (w' := w') hb)
  clear hk hN hK hQ h1 h2 hD hnQ f3 f4 ha hb
  go_enter Try.func34, Try.ntmps34
  go_wp2_with (first | (first | ((with_reducible refine wpL_fbin ?_); refine ⟨_, _, _, rfl, rfl, rfl, fun s n => ?_⟩) | (go_at_call 86; refine (isPositive_any _ _).mono ?_; rintro e w' ⟨rfl, q, rfl⟩) | ((with_reducible refine wpL_fsame ?_); refine ⟨_, _, rfl, Option.isSome_iff_exists.2 ⟨_, Try.underlying23⟩, Try.underlying23, ?_⟩)) | (go_at_call 88; refine (HL1.out _).mono ?_; clear HL1; rintro e w' ⟨s', m', rfl, rfl⟩) | (go_at_call 88; refine (HL2.out _).mono ?_; clear HL2; rintro e w' ⟨s', m', rfl, rfl⟩) | (first | (go_at_call 87; refine (numI_any _ _ _).mono ?_; rintro e w' ⟨s', m', rfl, rfl⟩)) | go_in)
  go_ret2
  refine HY.out _ _ ?_
  (repeat (first | with_reducible exact Below.refl _ _ | with_reducible refine Below.drewN ?_ _ | with_reducible refine Below.setCell ?_ (by simp; try omega) _ | with_reducible refine Below.alloc ?_ (by simp; try omega) _))
/-- What is told of CriterionOf. -/
def RetCriterionOf (r0 : Nat) (r1 : Bool) (w : World) (e : Ending) (w' : World) : Prop := ∃ (s0 : Nat), e = .returned (.tuple #[.float .f32 (pick .f32 r0 s0), .bool r1]) ∧ Below w.heap.size w w'
theorem bothCriterionOf (r : Nat) (_ : (Lit.float .f32 r).wf = true) (a : Int) (_ : (Lit.int .i64 a).wf = true) (b : Int) (_ : (Lit.int .i64 b).wf = true) : ∃ (x : Nat) (ok : Bool),
    (∀ (w : World), Calls Try.prog 33 #[.float .f32 r, .int .i64 a, .int .i64 b] w (RetCriterionOf x ok w)) ∧ ∀ (w : World), Calls Try.prog 34 #[.float .f32 r, .int .i64 a, .int .i64 b] w (RetCriterionOf x ok w) := by
  cases hk : okCri r a b
  · exact ⟨0, false, fun w => specCri_no r a b w hk, fun w => implCri_no r a b w hk⟩
  · exact ⟨_, _, fun w => specCri_yes r a b w hk _ _ _ _ _ _ (Lib.hid rfl) (Lib.hid rfl) (Lib.hid rfl) (Lib.hid rfl) (Lib.hid rfl) (Lib.hid rfl), fun w => implCri_yes r a b w hk _ _ _ _ _ _ (Lib.hid rfl) (Lib.hid rfl) (Lib.hid rfl) (Lib.hid rfl) (Lib.hid rfl) (Lib.hid rfl)⟩
set_option maxRecDepth 100000 in
set_option maxHeartbeats 6400000 in
theorem lawCriterionOf_in (W : World) (a0 : Nat) (_wf0 : (Lit.float .f32 a0).wf = true) (a1 : Int) (_wf1 : (Lit.int .i64 a1).wf = true) (a2 : Int) (_wf2 : (Lit.int .i64 a2).wf = true)  (r0 : Nat) (r1 : Bool) (HS : Hid (∀  (w : World),  Calls Try.prog 33 #[.float .f32 a0, .int .i64 a1, .int .i64 a2] w (RetCriterionOf r0 r1 w))) (HI : Hid (∀  (w : World),  Calls Try.prog 34 #[.float .f32 a0, .int .i64 a1, .int .i64 a2] w (RetCriterionOf r0 r1 w))) :
    Calls Try.prog 7 #[.float .f32 a0, .int .i64 a1, .int .i64 a2] W fun e w' => e = .returned (.bool true) ∧ Below W.heap.size W w' := by
  have hcv := fun (R : Nat) (s t : Nat) => show canon .f64 (pick .f64 (fconv .f32 (pick .f32 R s) .f64) t) = canon .f64 (fconv .f32 R .f64) by rw [canon_pick, fconv_pick]
  have hcw := fun (R : Nat) (s t : Nat) => show canon .f64 (pick .f64 R s) = canon .f64 (pick .f64 R t) by rw [canon_pick, canon_pick]
  have HCV := Lib.hid hcv
  have HCW := Lib.hid hcw
  clear hcv hcw
  have hnb1 : (r1 != r1) = false := by simp
  have HB := Blw.refl W
  go_enter Try.func7, Try.ntmps7
  go_wp2_with fail
  refine (HS.out  _ ).mono ?_
  rintro e0 w1 ⟨sw0, rfl, B0⟩
  replace HB := Blw.next (by exact HB) B0
  clear B0
  have HL := Blw.refl w1
  have Eg := (Blw.out (by exact HL)).size
  go_wp2_with fail
  refine (HI.out  _ ).mono ?_
  rintro e0 w2 ⟨sg0, rfl, B0⟩
  replace HL := Blw.next (by exact HL) B0
  clear B0
  go_wp2_with (first | ((with_reducible refine wpL_fconv ?_); refine ⟨_, _, _, rfl, Option.isSome_iff_exists.2 ⟨_, Try.underlying23⟩, Try.underlying44, FloatKind.noConfusion, convOk_widen _, fun s n => ?_⟩) | ((with_reducible refine wpL_fconv_g ?_); refine ⟨rfl, _, _, _, rfl, Option.isSome_iff_exists.2 ⟨_, Try.underlying23⟩, Try.underlying44, FloatKind.noConfusion, convOk_widen _, fun s n => ?_⟩))
  refine (sameFloat_any _ _ _ ((HCV.out _ _ _).trans (HCV.out _ _ _).symm)).mono ?_
  rintro e0 w0 ⟨rfl, q, rfl⟩
  go_wp2
  go_ret
  exact ⟨rfl, (Blw.out (by exact HB)).trans ((Blw.out (by exact HL)).mono (Blw.out (by exact HB)).size)⟩
set_option maxHeartbeats 1600000 in
theorem lawCriterionOf_any (W : World) (a0 : Nat) (_wf0 : (Lit.float .f32 a0).wf = true) (a1 : Int) (_wf1 : (Lit.int .i64 a1).wf = true) (a2 : Int) (_wf2 : (Lit.int .i64 a2).wf = true) :
    Calls Try.prog 7 #[.float .f32 a0, .int .i64 a1, .int .i64 a2] W fun e w' => e = .returned (.bool true) ∧ Below W.heap.size W w' := by
  obtain ⟨r0, r1, hs, hi⟩ := bothCriterionOf a0 _wf0 a1 _wf1 a2 _wf2
  exact lawCriterionOf_in W a0 _wf0 a1 _wf1 a2 _wf2  r0 r1 (Lib.hid hs) (Lib.hid hi)
set_option maxRecDepth 100000 in
theorem FnExactCriterionOf_lifted (os : Os) (started : os.Started) (H : Type) (enc : TypeId × Value → H) :
    ReturnsInHanded {} Try.checked os 7 .any (Rows.fnExactCriterionOfSpec.pre6 enc Try.prog Try.f7 Rows.fnExactCriterionOfRow.domain false) (Rows.fnExactCriterionOfSpec.post enc Try.prog Try.f7 false true false false) := by
  refine returnsInHanded_of_change (C := Try.checked) ownKnob_none started (by kernel_rfl) Try.func7
    (ChangeSpec.witness6 (enc := enc) (C := Try.checked) false ⟨#[], #[.float .f32 0, .int .i64 0, .int .i64 0], []⟩ 8 (by kernel_rfl) (by kernel_rfl) (by kernel_rfl) (by kernel_rfl)) ?_
  intro W base args ds gs before hval0 hW _ _
  have hval : ∀ (j : Nat) t v, Try.f7.params[j]? = some t → args[j]? = some v → Value.okWide Try.prog W .any base t v := hval0
  have hW' := hW
  obtain ⟨p, q, hA0, hV, rfl, _, _⟩ := hW
  have hA : DataW.TrodAll enc Try.prog W 0 (fun _ => true) true Try.f7.params.toList args.toList ds p := hA0
  rw [Try.params7] at hA hval
  obtain ⟨v0, v1, v2, d0, d1, d2, p0, p1, p2, rfl, rfl, rfl, h0, h1, h2⟩ := trodAll_three hA
  obtain ⟨rfl, rfl⟩ := trodVars_none hV
  obtain ⟨a0, rfl, rfl, rfl, w0⟩ := open_float Try.underlying23 (hval 0 23 v0 rfl rfl) h0
  obtain ⟨a1, rfl, rfl, rfl, w1⟩ := open_int Try.underlying2 (hval 1 2 v1 rfl rfl) h1
  obtain ⟨a2, rfl, rfl, rfl, w2⟩ := open_int Try.underlying2 (hval 2 2 v2 rfl rfl) h2
  clear hA0 hval0
  refine (lawCriterionOf_any W a0 w0 a1 w1 a2 w2).mono fun e W' ⟨he, hb⟩ => ?_
  subst he
  have hA2 := trodAll_mk3 (enc := enc) (w := W') (base := 0) (spare := fun b => decide (b < W.heap.size)) (held := true) (shut_float Try.underlying23 w0) (shut_int Try.underlying2 w1) (shut_int Try.underlying2 w2)
  exact ⟨_, rfl, _, _, _, [], _, [], hW', trodAll_cons_mk (shut_bool Try.underlying4 _) trodAll_mk0, hA2, rfl, hb.frame _, fun h => by cases h⟩
theorem FnExactCriterionOf_holds : Rows.FnExactCriterionOfSaid :=
  OpenClaim.holds_of_wide 7 Try.f7 rfl rfl rfl rfl rfl rfl rfl ⟨rfl, rfl, rfl, rfl, rfl⟩ rfl rfl rfl rfl rfl (by kernel_rfl) Try.func7 (by kernel_rfl)
    (of_decide_eq_true (by kernel_rfl)) (by unfold Func.isWrapper; first | (rw [if_pos (by decide +kernel)]; kernel_rfl) | (rw [if_neg (by decide +kernel)]; exact ⟨rfl, rfl⟩))
    (fun os started H enc _ => FnExactCriterionOf_lifted os started H enc)
end Go.Proofs.Ytchpnjihhncfmaa
