/- For all numbers the program tells how bright slits are together just where the model does, and the same: for all arguments. -/
import Derived.Test.YtfnapaijfdiflaaSame
import Derived.Test.YtfnapaijfdiflaaNu5
import Derived.Test.YtfnapaijfdiflaaIn
import Derived.Test.YtfnapaijfdiflaaSin3
import Derived.Test.YtfnapaijfdiflaaHalf
import Derived.Test.YtfnapaijfdiflaaLaw
namespace Go.Proofs.Ytfnapaijfdiflaa
open Go Go.ChangeShapes Go.WideShapes Go.ChangeAt Go.RowKit

def mslD (h : Nat) (N S : Nat) : Nat := fbin .mul .f32 (fbin .quo .f32 (sineT (fbin .mul .f32 h N)) (fbin .mul .f32 N S)) (fbin .quo .f32 (sineT (fbin .mul .f32 h N)) (fbin .mul .f32 N S))
def okMsl (t : Nat) (v : Int) : Bool := isFin .f32 t && inB v 1 64
set_option maxRecDepth 100000 in
set_option maxHeartbeats 3200000 in
theorem specMsl_no (t : Nat) (v : Int) (w : World) (hk : okMsl t v = false) : Calls Try.prog 18 #[.float .f32 t, .int .i64 v] w (NRet 0 false w) := by
  cases c1 : isFin .f32 t
  · skip
    clear hk
    go_enter Try.func18, Try.ntmps18
    go_wp2_with (first | (go_at_call 48; refine (l01Finite_any _ _).mono ?_; rintro e w' ⟨rfl, q, rfl⟩) | (go_at_call 49; refine (l00In_any _ _ _ _).mono ?_; rintro e w' ⟨rfl, rfl⟩))
    go_ret2
    refine ⟨0, by rw [pick_nul]; rfl, ?_⟩
    (repeat (first | with_reducible exact Below.refl _ _ | with_reducible refine Below.drewN ?_ _ | with_reducible refine Below.setCell ?_ (by simp; try omega) _ | with_reducible refine Below.alloc ?_ (by simp; try omega) _))
  · skip
    cases c2 : inB v 1 64
    · skip
      clear hk
      go_enter Try.func18, Try.ntmps18
      go_wp2_with (first | (go_at_call 48; refine (l01Finite_any _ _).mono ?_; rintro e w' ⟨rfl, q, rfl⟩) | (go_at_call 49; refine (l00In_any _ _ _ _).mono ?_; rintro e w' ⟨rfl, rfl⟩))
      go_ret2
      refine ⟨0, by rw [pick_nul]; rfl, ?_⟩
      (repeat (first | with_reducible exact Below.refl _ _ | with_reducible refine Below.drewN ?_ _ | with_reducible refine Below.setCell ?_ (by simp; try omega) _ | with_reducible refine Below.alloc ?_ (by simp; try omega) _))
    · skip
      exfalso
      rw [okMsl, c1, c2] at hk
      cases hk
set_option maxRecDepth 100000 in
set_option maxHeartbeats 3200000 in
theorem implMsl_no (t : Nat) (v : Int) (w : World) (hk : okMsl t v = false) : Calls Try.prog 19 #[.float .f32 t, .int .i64 v] w (NRet 0 false w) := by
  cases c1 : isFin .f32 t
  · skip
    clear hk
    go_enter Try.func19, Try.ntmps19
    go_wp2_with (first | (go_at_call 52; refine (IsFinite_any _ _).mono ?_; rintro e w' ⟨rfl, q, rfl⟩))
    go_ret2
    refine ⟨0, by rw [pick_nul]; rfl, ?_⟩
    (repeat (first | with_reducible exact Below.refl _ _ | with_reducible refine Below.drewN ?_ _ | with_reducible refine Below.setCell ?_ (by simp; try omega) _ | with_reducible refine Below.alloc ?_ (by simp; try omega) _))
  · skip
    cases c2 : decide (v < 1)
    rotate_left
    · skip
      clear hk
      go_enter Try.func19, Try.ntmps19
      go_wp2_with (first | (go_at_call 52; refine (IsFinite_any _ _).mono ?_; rintro e w' ⟨rfl, q, rfl⟩))
      go_ret2
      refine ⟨0, by rw [pick_nul]; rfl, ?_⟩
      (repeat (first | with_reducible exact Below.refl _ _ | with_reducible refine Below.drewN ?_ _ | with_reducible refine Below.setCell ?_ (by simp; try omega) _ | with_reducible refine Below.alloc ?_ (by simp; try omega) _))
    · skip
      cases c3 : decide (64 < v)
      rotate_left
      · skip
        clear hk
        go_enter Try.func19, Try.ntmps19
        go_wp2_with (first | (go_at_call 52; refine (IsFinite_any _ _).mono ?_; rintro e w' ⟨rfl, q, rfl⟩))
        go_ret2
        refine ⟨0, by rw [pick_nul]; rfl, ?_⟩
        (repeat (first | with_reducible exact Below.refl _ _ | with_reducible refine Below.drewN ?_ _ | with_reducible refine Below.setCell ?_ (by simp; try omega) _ | with_reducible refine Below.alloc ?_ (by simp; try omega) _))
      · skip
        exfalso
        have h1 := of_decide_eq_false c2
        have h2 := of_decide_eq_false c3
        rw [okMsl, c1, inB_yes (by omega) (by omega)] at hk
        cases hk
theorem mslOne {D : Nat} {w w' : World} (hb : Below w.heap.size w w') : NRet (if true = true then 1065353216 else numQ D) (true || isFin .f32 D) w (.returned (.tuple #[.float .f32 1065353216, .bool true])) w' :=
  ⟨0, by rw [if_pos rfl, pick_num (by decide +kernel), Bool.true_or], hb⟩
theorem mslYes {D s : Nat} {w w' : World} (hb : Below w.heap.size w w') : NRet (if false = true then 1065353216 else numQ D) (false || isFin .f32 D) w (.returned (.tuple #[.float .f32 (pick .f32 (numQ D) s), .bool (isFin .f32 D)])) w' :=
  ⟨s, by rw [if_neg (by simp), Bool.false_or], hb⟩
set_option maxRecDepth 100000 in
set_option maxHeartbeats 3200000 in
theorem specMsl_yes (t : Nat) (v : Int) (w : World) (hk : okMsl t v = true) (H N S M D Q : Nat) (b : Bool) (hQ : Hid (Q = fbin .mul .f32 H N)) (hH : Hid (H = fbin .mul .f32 1056964608 t)) (hN : Hid (N = floatOfInt .f32 v)) (hS : Hid (S = sineT H)) (hb : Hid (b = (FloatKind.f32.format.order S 0 == some .eq))) (hM : Hid (M = sineT Q)) (hD : Hid (D = fbin .mul .f32 (fbin .quo .f32 M (fbin .mul .f32 N S)) (fbin .quo .f32 M (fbin .mul .f32 N S)))) :
    Calls Try.prog 18 #[.float .f32 t, .int .i64 v] w (NRet (if b = true then 1065353216 else numQ D) (b || isFin .f32 D) w) := by
  have h1 : isFin .f32 t = true ∧ inB v 1 64 = true := by simpa [okMsl] using hk
  obtain ⟨h1, h2⟩ := h1
  clear hk
  have hp := fun op => fbin_pick_l op .f32
  have hq := fun op => fbin_pick_r op .f32
  have ho1 := order_pick_l .f32
  have hpk := pick_pick .f32
  have HS1 := Lib.hid (fun (s : Nat) w => specSine_any (pick .f32 H s) w)
  have HS2 := Lib.hid (fun (s : Nat) w => specSine_any (pick .f32 Q s) w)
  simp only [sineT_pick, ← hS.out, ← hM.out] at HS1 HS2
  have eH : fbin .mul .f32 1056964608 t = H := hH.out.symm
  have eN : floatOfInt .f32 v = N := hN.out.symm
  have eD : fbin .mul .f32 (fbin .quo .f32 M (fbin .mul .f32 N S)) (fbin .quo .f32 M (fbin .mul .f32 N S)) = D := hD.out.symm
  have eQ : fbin .mul .f32 H N = Q := hQ.out.symm
  have hb' := hb.out.symm
  clear hH hN hS hb hM hD hQ
  cases b
  · have HY := Lib.hid (fun s w' hb => mslYes (D := D) (s := s) (w := w) (w' := w') hb)
    go_enter Try.func18, Try.ntmps18
    go_wp2_with (first | ((with_reducible refine wpL_fbin ?_); refine ⟨_, _, _, rfl, rfl, rfl, fun s n => ?_⟩) | (go_at_call 48; refine (l01Finite_any _ _).mono ?_; rintro e w' ⟨rfl, q, rfl⟩) | (go_at_call 49; refine (l00In_any _ _ _ _).mono ?_; rintro e w' ⟨rfl, rfl⟩) | ((with_reducible refine wpL_fsame ?_); refine ⟨_, _, rfl, Option.isSome_iff_exists.2 ⟨_, Try.underlying22⟩, Try.underlying22, ?_⟩))
    refine (HS1.out _ _).mono ?_
    rintro e w' ⟨s', m', rfl, rfl⟩
    go_wp2_with (first | ((with_reducible refine wpL_fbin ?_); refine ⟨_, _, _, rfl, rfl, rfl, fun s n => ?_⟩) | ((with_reducible refine wpL_fsame ?_); refine ⟨_, _, rfl, Option.isSome_iff_exists.2 ⟨_, Try.underlying22⟩, Try.underlying22, ?_⟩))
    refine (HS2.out _ _).mono ?_
    rintro e w' ⟨s', m', rfl, rfl⟩
    go_wp2_with (first | ((with_reducible refine wpL_fbin ?_); refine ⟨_, _, _, rfl, rfl, rfl, fun s n => ?_⟩) | (go_at_call 54; refine (numS_any _ _ _).mono ?_; rintro e w' ⟨s', m', rfl, rfl⟩) | ((with_reducible refine wpL_fsame ?_); refine ⟨_, _, rfl, Option.isSome_iff_exists.2 ⟨_, Try.underlying22⟩, Try.underlying22, ?_⟩))
    go_ret2
    refine HY.out _ _ ?_
    (repeat (first | with_reducible exact Below.refl _ _ | with_reducible refine Below.drewN ?_ _ | with_reducible refine Below.setCell ?_ (by simp; try omega) _ | with_reducible refine Below.alloc ?_ (by simp; try omega) _))
  · have HY := Lib.hid (fun w' hb => mslOne (D := D) (w := w) (w' := w') hb)
    go_enter Try.func18, Try.ntmps18
    go_wp2_with (first | ((with_reducible refine wpL_fbin ?_); refine ⟨_, _, _, rfl, rfl, rfl, fun s n => ?_⟩) | (go_at_call 48; refine (l01Finite_any _ _).mono ?_; rintro e w' ⟨rfl, q, rfl⟩) | (go_at_call 49; refine (l00In_any _ _ _ _).mono ?_; rintro e w' ⟨rfl, rfl⟩) | ((with_reducible refine wpL_fsame ?_); refine ⟨_, _, rfl, Option.isSome_iff_exists.2 ⟨_, Try.underlying22⟩, Try.underlying22, ?_⟩))
    refine (HS1.out _ _).mono ?_
    rintro e w' ⟨s', m', rfl, rfl⟩
    go_wp2
    go_ret2
    refine HY.out _ ?_
    (repeat (first | with_reducible exact Below.refl _ _ | with_reducible refine Below.drewN ?_ _ | with_reducible refine Below.setCell ?_ (by simp; try omega) _ | with_reducible refine Below.alloc ?_ (by simp; try omega) _))
set_option maxRecDepth 100000 in
set_option maxHeartbeats 3200000 in
theorem implMsl_yes (t : Nat) (v : Int) (w : World) (hk : okMsl t v = true) (H N S M D Q : Nat) (b : Bool) (hQ : Hid (Q = fbin .mul .f32 H N)) (hH : Hid (H = fbin .mul .f32 1056964608 t)) (hN : Hid (N = floatOfInt .f32 v)) (hS : Hid (S = sineT H)) (hb : Hid (b = (FloatKind.f32.format.order S 0 == some .eq))) (hM : Hid (M = sineT Q)) (hD : Hid (D = fbin .mul .f32 (fbin .quo .f32 M (fbin .mul .f32 N S)) (fbin .quo .f32 M (fbin .mul .f32 N S)))) :
    Calls Try.prog 19 #[.float .f32 t, .int .i64 v] w (NRet (if b = true then 1065353216 else numQ D) (b || isFin .f32 D) w) := by
  have h1 : isFin .f32 t = true ∧ inB v 1 64 = true := by simpa [okMsl] using hk
  obtain ⟨h1, h2⟩ := h1
  have hr := inB_rng h2
  have d1 : decide (v < 1) = false := decide_eq_false (by omega)
  have d2 : decide (64 < v) = false := decide_eq_false (by omega)
  clear hk h2 hr
  have hp := fun op => fbin_pick_l op .f32
  have hq := fun op => fbin_pick_r op .f32
  have ho1 := order_pick_l .f32
  have hpk := pick_pick .f32
  have HS1 := Lib.hid (fun (s : Nat) w => implSine_any (pick .f32 H s) w)
  have HS2 := Lib.hid (fun (s : Nat) w => implSine_any (pick .f32 Q s) w)
  simp only [sineT_pick, ← hS.out, ← hM.out] at HS1 HS2
  have eH : fbin .quo .f32 t 1073741824 = H := by rw [← half_eq]; exact hH.out.symm
  have eN : floatOfInt .f32 v = N := hN.out.symm
  have eD : fbin .mul .f32 (fbin .quo .f32 M (fbin .mul .f32 N S)) (fbin .quo .f32 M (fbin .mul .f32 N S)) = D := hD.out.symm
  have eQ : fbin .mul .f32 H N = Q := hQ.out.symm
  have hb' := hb.out.symm
  clear hH hN hS hb hM hD hQ
  cases b
  · have HY := Lib.hid (fun s w' hb => mslYes (D := D) (s := s) (w := w) (w' := w') hb)
    go_enter Try.func19, Try.ntmps19
    go_wp2_with (first | ((with_reducible refine wpL_fbin ?_); refine ⟨_, _, _, rfl, rfl, rfl, fun s n => ?_⟩) | (go_at_call 52; refine (IsFinite_any _ _).mono ?_; rintro e w' ⟨rfl, q, rfl⟩) | ((with_reducible refine wpL_fsame ?_); refine ⟨_, _, rfl, Option.isSome_iff_exists.2 ⟨_, Try.underlying22⟩, Try.underlying22, ?_⟩))
    refine (HS1.out _ _).mono ?_
    rintro e w' ⟨s', m', rfl, rfl⟩
    go_wp2_with (first | ((with_reducible refine wpL_fbin ?_); refine ⟨_, _, _, rfl, rfl, rfl, fun s n => ?_⟩) | ((with_reducible refine wpL_fsame ?_); refine ⟨_, _, rfl, Option.isSome_iff_exists.2 ⟨_, Try.underlying22⟩, Try.underlying22, ?_⟩))
    refine (HS2.out _ _).mono ?_
    rintro e w' ⟨s', m', rfl, rfl⟩
    go_wp2_with (first | ((with_reducible refine wpL_fbin ?_); refine ⟨_, _, _, rfl, rfl, rfl, fun s n => ?_⟩) | (go_at_call 56; refine (numI_any _ _ _).mono ?_; rintro e w' ⟨s', m', rfl, rfl⟩) | ((with_reducible refine wpL_fsame ?_); refine ⟨_, _, rfl, Option.isSome_iff_exists.2 ⟨_, Try.underlying22⟩, Try.underlying22, ?_⟩))
    go_ret2
    refine HY.out _ _ ?_
    (repeat (first | with_reducible exact Below.refl _ _ | with_reducible refine Below.drewN ?_ _ | with_reducible refine Below.setCell ?_ (by simp; try omega) _ | with_reducible refine Below.alloc ?_ (by simp; try omega) _))
  · have HY := Lib.hid (fun w' hb => mslOne (D := D) (w := w) (w' := w') hb)
    go_enter Try.func19, Try.ntmps19
    go_wp2_with (first | ((with_reducible refine wpL_fbin ?_); refine ⟨_, _, _, rfl, rfl, rfl, fun s n => ?_⟩) | (go_at_call 52; refine (IsFinite_any _ _).mono ?_; rintro e w' ⟨rfl, q, rfl⟩) | ((with_reducible refine wpL_fsame ?_); refine ⟨_, _, rfl, Option.isSome_iff_exists.2 ⟨_, Try.underlying22⟩, Try.underlying22, ?_⟩))
    refine (HS1.out _ _).mono ?_
    rintro e w' ⟨s', m', rfl, rfl⟩
    go_wp2
    go_ret2
    refine HY.out _ ?_
    (repeat (first | with_reducible exact Below.refl _ _ | with_reducible refine Below.drewN ?_ _ | with_reducible refine Below.setCell ?_ (by simp; try omega) _ | with_reducible refine Below.alloc ?_ (by simp; try omega) _))
/-- What is told of ManySlits. -/
def RetManySlits (r0 : Nat) (r1 : Bool) (w : World) (e : Ending) (w' : World) : Prop := ∃ (s0 : Nat), e = .returned (.tuple #[.float .f32 (pick .f32 r0 s0), .bool r1]) ∧ Below w.heap.size w w'
theorem bothManySlits (t : Nat) (_ : (Lit.float .f32 t).wf = true) (v : Int) (_ : (Lit.int .i64 v).wf = true) : ∃ (r : Nat) (ok : Bool),
    (∀ (w : World), Calls Try.prog 18 #[.float .f32 t, .int .i64 v] w (RetManySlits r ok w)) ∧ ∀ (w : World), Calls Try.prog 19 #[.float .f32 t, .int .i64 v] w (RetManySlits r ok w) := by
  cases hk : okMsl t v
  · exact ⟨0, false, fun w => specMsl_no t v w hk, fun w => implMsl_no t v w hk⟩
  · exact ⟨_, _, fun w => specMsl_yes t v w hk _ _ _ _ _ _ _ (Lib.hid rfl) (Lib.hid rfl) (Lib.hid rfl) (Lib.hid rfl) (Lib.hid rfl) (Lib.hid rfl) (Lib.hid rfl), fun w => implMsl_yes t v w hk _ _ _ _ _ _ _ (Lib.hid rfl) (Lib.hid rfl) (Lib.hid rfl) (Lib.hid rfl) (Lib.hid rfl) (Lib.hid rfl) (Lib.hid rfl)⟩
set_option maxRecDepth 100000 in
set_option maxHeartbeats 6400000 in
theorem lawManySlits_in (W : World) (a0 : Nat) (_wf0 : (Lit.float .f32 a0).wf = true) (a1 : Int) (_wf1 : (Lit.int .i64 a1).wf = true)  (r0 : Nat) (r1 : Bool) (HS : Hid (∀  (w : World),  Calls Try.prog 18 #[.float .f32 a0, .int .i64 a1] w (RetManySlits r0 r1 w))) (HI : Hid (∀  (w : World),  Calls Try.prog 19 #[.float .f32 a0, .int .i64 a1] w (RetManySlits r0 r1 w))) :
    Calls Try.prog 4 #[.float .f32 a0, .int .i64 a1] W fun e w' => e = .returned (.bool true) ∧ Below W.heap.size W w' := by
  have hcv := fun (R : Nat) (s t : Nat) => show canon .f64 (pick .f64 (fconv .f32 (pick .f32 R s) .f64) t) = canon .f64 (fconv .f32 R .f64) by rw [canon_pick, fconv_pick]
  have hcw := fun (R : Nat) (s t : Nat) => show canon .f64 (pick .f64 R s) = canon .f64 (pick .f64 R t) by rw [canon_pick, canon_pick]
  have HCV := Lib.hid hcv
  have HCW := Lib.hid hcw
  clear hcv hcw
  have hnb1 : (r1 != r1) = false := by simp
  have HB := Blw.refl W
  go_enter Try.func4, Try.ntmps4
  go_wp2_with fail
  refine (HS.out  _ ).mono ?_
  rintro e0 w1 ⟨sw0, rfl, B0⟩
  replace HB := Blw.next (by exact HB) B0
  clear B0
  have HL := Blw.refl w1
  have Eg := (Blw.out (by exact HL)).size
  go_wp2_with fail
  refine (HI.out  _ ).mono ?_
  rintro e0 w2 ⟨sg0, rfl, B0⟩
  replace HL := Blw.next (by exact HL) B0
  clear B0
  go_wp2_with (first | ((with_reducible refine wpL_fconv ?_); refine ⟨_, _, _, rfl, Option.isSome_iff_exists.2 ⟨_, Try.underlying22⟩, Try.underlying26, FloatKind.noConfusion, convOk_widen _, fun s n => ?_⟩) | ((with_reducible refine wpL_fconv_g ?_); refine ⟨rfl, _, _, _, rfl, Option.isSome_iff_exists.2 ⟨_, Try.underlying22⟩, Try.underlying26, FloatKind.noConfusion, convOk_widen _, fun s n => ?_⟩))
  refine (sameFloat_any _ _ _ ((HCV.out _ _ _).trans (HCV.out _ _ _).symm)).mono ?_
  rintro e0 w0 ⟨rfl, q, rfl⟩
  go_wp2
  go_ret
  exact ⟨rfl, (Blw.out (by exact HB)).trans ((Blw.out (by exact HL)).mono (Blw.out (by exact HB)).size)⟩
set_option maxHeartbeats 1600000 in
theorem lawManySlits_any (W : World) (a0 : Nat) (_wf0 : (Lit.float .f32 a0).wf = true) (a1 : Int) (_wf1 : (Lit.int .i64 a1).wf = true) :
    Calls Try.prog 4 #[.float .f32 a0, .int .i64 a1] W fun e w' => e = .returned (.bool true) ∧ Below W.heap.size W w' := by
  obtain ⟨r0, r1, hs, hi⟩ := bothManySlits a0 _wf0 a1 _wf1
  exact lawManySlits_in W a0 _wf0 a1 _wf1  r0 r1 (Lib.hid hs) (Lib.hid hi)
set_option maxRecDepth 100000 in
theorem FnExactManySlits_lifted (os : Os) (started : os.Started) (H : Type) (enc : TypeId × Value → H) :
    ReturnsInHanded {} Try.checked os 4 .any (Rows.fnExactManySlitsSpec.pre6 enc Try.prog Try.f4 Rows.fnExactManySlitsRow.domain false) (Rows.fnExactManySlitsSpec.post enc Try.prog Try.f4 false true false false) := by
  refine returnsInHanded_of_change (C := Try.checked) ownKnob_none started (by kernel_rfl) Try.func4
    (ChangeSpec.witness6 (enc := enc) (C := Try.checked) false ⟨#[], #[.float .f32 0, .int .i64 0], []⟩ 8 (by kernel_rfl) (by kernel_rfl) (by kernel_rfl) (by kernel_rfl)) ?_
  intro W base args ds gs before hval0 hW _ _
  have hval : ∀ (j : Nat) t v, Try.f4.params[j]? = some t → args[j]? = some v → Value.okWide Try.prog W .any base t v := hval0
  have hW' := hW
  obtain ⟨p, q, hA0, hV, rfl, _, _⟩ := hW
  have hA : DataW.TrodAll enc Try.prog W 0 (fun _ => true) true Try.f4.params.toList args.toList ds p := hA0
  rw [Try.params4] at hA hval
  obtain ⟨v0, v1, d0, d1, p0, p1, rfl, rfl, rfl, h0, h1⟩ := trodAll_two hA
  obtain ⟨rfl, rfl⟩ := trodVars_none hV
  obtain ⟨a0, rfl, rfl, rfl, w0⟩ := open_float Try.underlying22 (hval 0 22 v0 rfl rfl) h0
  obtain ⟨a1, rfl, rfl, rfl, w1⟩ := open_int Try.underlying2 (hval 1 2 v1 rfl rfl) h1
  clear hA0 hval0
  refine (lawManySlits_any W a0 w0 a1 w1).mono fun e W' ⟨he, hb⟩ => ?_
  subst he
  have hA2 := trodAll_mk2 (enc := enc) (w := W') (base := 0) (spare := fun b => decide (b < W.heap.size)) (held := true) (shut_float Try.underlying22 w0) (shut_int Try.underlying2 w1)
  exact ⟨_, rfl, _, _, _, [], _, [], hW', trodAll_cons_mk (shut_bool Try.underlying4 _) trodAll_mk0, hA2, rfl, hb.frame _, fun h => by cases h⟩
theorem FnExactManySlits_holds : Rows.FnExactManySlitsSaid :=
  OpenClaim.holds_of_wide 4 Try.f4 rfl rfl rfl rfl rfl rfl rfl ⟨rfl, rfl, rfl, rfl, rfl⟩ rfl rfl rfl rfl rfl (by kernel_rfl) Try.func4 (by kernel_rfl)
    (of_decide_eq_true (by kernel_rfl)) (by unfold Func.isWrapper; first | (rw [if_pos (by decide +kernel)]; kernel_rfl) | (rw [if_neg (by decide +kernel)]; exact ⟨rfl, rfl⟩))
    (fun os started H enc _ => FnExactManySlits_lifted os started H enc)
end Go.Proofs.Ytfnapaijfdiflaa
