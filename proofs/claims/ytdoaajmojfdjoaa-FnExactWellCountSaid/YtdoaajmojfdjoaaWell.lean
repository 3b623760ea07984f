/- How many levels a well has: the program tells it just where the model does, and the same: for all arguments. -/
import Derived.Test.YtdoaajmojfdjoaaWellP
import Derived.Test.YtdoaajmojfdjoaaRootC
import Derived.Test.YtdoaajmojfdjoaaPush
namespace Go.Proofs.Ytdoaajmojfdjoaa
open Go Go.ChangeShapes Go.WideShapes Go.ChangeAt Go.RowKit

set_option maxRecDepth 100000 in
set_option maxHeartbeats 400000 in
theorem l01Sqrt_any (x : Nat) (w : World) : Calls Try.prog 70 #[.float .f32 x] w (RetR .f32 (rootT x) w) := by
  have hq := fsqrt_pick
  have hf := fun X s => fconv_pick .f64 X s .f32
  have HO := Lib.hid (fun s => convOk_pick (t := s) (convOk_root x))
  go_enter Try.func70, Try.ntmps70
  go_wp2_with (first | ((with_reducible refine wpL_fconv ?_); refine ⟨_, _, _, rfl, Option.isSome_iff_exists.2 ⟨_, Try.underlying32⟩, Try.underlying36, FloatKind.noConfusion, convOk_widen _, fun s n => ?_⟩) | ((with_reducible refine wpL_fconv ?_); refine ⟨_, _, _, rfl, Option.isSome_iff_exists.2 ⟨_, Try.underlying36⟩, Try.underlying32, FloatKind.noConfusion, HO.out _, fun s n => ?_⟩) | (go_at_call 93; refine (mathSqrt_any _ _).mono ?_; rintro e w' ⟨s, n, rfl, rfl⟩) | go_in)
  go_ret
  exact ⟨_, _, rfl, rfl⟩
set_option maxRecDepth 100000 in
set_option maxHeartbeats 400000 in
theorem RootNumber_any (x : Nat) (w : World) : Calls Try.prog 71 #[.float .f32 x] w (RetR .f32 (rootT x) w) := by
  have hq := fsqrt_pick
  have hf := fun X s => fconv_pick .f64 X s .f32
  have HO := Lib.hid (fun s => convOk_pick (t := s) (convOk_root x))
  go_enter Try.func71, Try.ntmps71
  go_wp2_with (first | ((with_reducible refine wpL_fconv ?_); refine ⟨_, _, _, rfl, Option.isSome_iff_exists.2 ⟨_, Try.underlying32⟩, Try.underlying36, FloatKind.noConfusion, convOk_widen _, fun s n => ?_⟩) | ((with_reducible refine wpL_fconv ?_); refine ⟨_, _, _, rfl, Option.isSome_iff_exists.2 ⟨_, Try.underlying36⟩, Try.underlying32, FloatKind.noConfusion, HO.out _, fun s n => ?_⟩) | (go_at_call 93; refine (mathSqrt_any _ _).mono ?_; rintro e w' ⟨s, n, rfl, rfl⟩) | go_in)
  go_ret
  exact ⟨_, _, rfl, rfl⟩
def wellX (width depth : Nat) : Nat := fbin .quo .f32 (fbin .mul .f32 width (rootT depth)) 1078530011
def WellRet (r : Int) (ok : Bool) (w : World) (e : Ending) (w' : World) : Prop := e = .returned (.tuple #[.int .i64 r, .bool ok]) ∧ ∃ q, w' = w.drewN q
theorem ret_ib {a b : Int} {ok : Bool} (h : a = b) : Ending.returned (.tuple #[.int .i64 a, .bool ok]) = .returned (.tuple #[.int .i64 b, .bool ok]) := by rw [h]
theorem well_nn {width depth : Nat} (hw : isP width = true) (hd : isP depth = true) : NN .f32 (wellX width depth) := by
  simp only [isP, Bool.and_eq_true] at hw hd
  obtain ⟨m, e, d1, hm⟩ := pos_of hw.1 hw.2
  obtain ⟨n, j, d2, _⟩ := pos_of hd.1 hd.2
  exact nn_quo (nn_mul d1 hm (nn_root d2)) (show FloatKind.decode .f32 1078530011 = .number false 13176795 (-22) by decide +kernel) (by decide)
theorem picks {width depth X : Nat} (hX : X = wellX width depth) (hn : isNaN .f32 X = false) : ∀ s, pick .f32 (fbin .quo .f32 (fbin .mul .f32 width (rootT depth)) 1078530011) s = X := fun s => by
  rw [hX] at hn ⊢; exact pick_num hn s
set_option maxRecDepth 100000 in
set_option maxHeartbeats 1600000 in
theorem specWell_yes (width depth X m : Nat) (e : Int) (R : Int) (hR : R = ((wq m e + if wr m e = 0 then 0 else 1 : Nat) : Int)) (w : World) (hw : isP width = true) (hd : isP depth = true) (hX : X = wellX width depth) (hn : isNaN .f32 X = false) (hdx : FloatKind.decode .f32 X = .number false m e)
    (hg : (FloatKind.f32.format.order X 1148846080 == some .gt) = false) : Calls Try.prog 40 #[.float .f32 width, .float .f32 depth] w (WellRet R true w) := by
  have hp := picks hX hn
  have hl := fbin_pick_l
  have hr := fbin_pick_r
  have hle : (FloatKind.f32.format.order X 1148846080 == some .lt || FloatKind.f32.format.order X 1148846080 == some .eq) = true := by rw [leq_of hn (by decide +kernel), hg]; rfl
  have hlt := le_1000 hdx hg
  have hi := whole_int hdx (by omega)
  have he := eq_test hdx hlt
  by_cases hr0 : wr m e = 0
  · have he' : (FloatKind.f32.format.order (floatOfInt .f32 (wq m e : Int)) X == some .eq) = true := by rw [he]; simp [hr0]
    have H := Lib.hid (show R = (wq m e : Int) - 1 + 1 by rw [hR, if_pos hr0]; omega)
    clear he hX hdx hg hr0 hn hR
    generalize wq m e = N at *
    go_enter Try.func40, Try.ntmps40
    go_wp2_with (first | ((with_reducible refine wpL_fbin ?_); refine ⟨_, _, _, rfl, rfl, rfl, fun s n => ?_⟩) | ((with_reducible refine wpL_fsame ?_); refine ⟨_, _, rfl, Option.isSome_iff_exists.2 ⟨_, Try.underlying32⟩, Try.underlying32, ?_⟩) | (go_at_call 64; refine (l02Above_any _ _).mono ?_; rintro e w' ⟨rfl, q, rfl⟩) | (go_at_call 70; refine (l01Sqrt_any _ _).mono ?_; rintro e w' ⟨s, n, rfl, rfl⟩) | ((with_reducible refine wpL_ftoi ?_); refine ⟨_, _, _, _, rfl, Option.isSome_iff_exists.2 ⟨_, Try.underlying32⟩, Try.underlying2, hi, ?_⟩))
    go_ret2
    exact ⟨ret_ib (by rw [H.out]; try omega), _, rfl⟩
  · have he' : (FloatKind.f32.format.order (floatOfInt .f32 (wq m e : Int)) X == some .eq) = false := by rw [he]; simp [hr0]
    have H := Lib.hid (show R = (wq m e : Int) + 1 by rw [hR, if_neg hr0]; omega)
    clear he hX hdx hg hr0 hn hR
    generalize wq m e = N at *
    go_enter Try.func40, Try.ntmps40
    go_wp2_with (first | ((with_reducible refine wpL_fbin ?_); refine ⟨_, _, _, rfl, rfl, rfl, fun s n => ?_⟩) | ((with_reducible refine wpL_fsame ?_); refine ⟨_, _, rfl, Option.isSome_iff_exists.2 ⟨_, Try.underlying32⟩, Try.underlying32, ?_⟩) | (go_at_call 64; refine (l02Above_any _ _).mono ?_; rintro e w' ⟨rfl, q, rfl⟩) | (go_at_call 70; refine (l01Sqrt_any _ _).mono ?_; rintro e w' ⟨s, n, rfl, rfl⟩) | ((with_reducible refine wpL_ftoi ?_); refine ⟨_, _, _, _, rfl, Option.isSome_iff_exists.2 ⟨_, Try.underlying32⟩, Try.underlying2, hi, ?_⟩))
    go_ret2
    exact ⟨ret_ib (by rw [H.out]; try omega), _, rfl⟩
set_option maxRecDepth 100000 in
set_option maxHeartbeats 800000 in
theorem mathCeil_any (y m : Nat) (s : Bool) (e : Int) (w : World) (hd : FloatKind.decode .f64 y = .number s m e) : Calls Try.prog 72 #[.float .f64 y] w fun e w' => e = .returned (.float .f64 (ceilW y)) ∧ w = w' := by
  have hr := run_ceil hd
  clear hd
  go_enter Try.func72, Try.ntmps72
  go_wp2
  go_ret
  exact ⟨rfl, rfl⟩
set_option maxRecDepth 100000 in
set_option maxHeartbeats 1600000 in
theorem implWell_yes (width depth X m : Nat) (e : Int) (w : World) (hw : isP width = true) (hd : isP depth = true) (hX : X = wellX width depth) (hn : isNaN .f32 X = false) (hdx : FloatKind.decode .f32 X = .number false m e)
    (hg : (FloatKind.f32.format.order X 1148846080 == some .gt) = false) : Calls Try.prog 41 #[.float .f32 width, .float .f32 depth] w (WellRet ((wq m e + if wr m e = 0 then 0 else 1 : Nat) : Int) true w) := by
  have hp := picks hX hn
  have hl := fbin_pick_l
  have hr := fbin_pick_r
  have hpk : ∀ s, pick .f64 (fconv .f32 X .f64) s = fconv .f32 X .f64 := fun s => pick_num (by rw [isNaN_fconv, hn]) s
  have hlt := le_1000 hdx hg
  have hi := ceil_int hdx hlt
  obtain ⟨m', e', hd', _⟩ := widen_val hdx
  have HD := Lib.hid hd'
  clear hX hdx hn hd'
  generalize ((wq m e + if wr m e = 0 then 0 else 1 : Nat) : Int) = R at *
  go_enter Try.func41, Try.ntmps41
  go_wp2_with (first | ((with_reducible refine wpL_fbin ?_); refine ⟨_, _, _, rfl, rfl, rfl, fun s n => ?_⟩) | ((with_reducible refine wpL_fsame ?_); refine ⟨_, _, rfl, Option.isSome_iff_exists.2 ⟨_, Try.underlying32⟩, Try.underlying32, ?_⟩) | ((with_reducible refine wpL_fconv ?_); refine ⟨_, _, _, rfl, Option.isSome_iff_exists.2 ⟨_, Try.underlying32⟩, Try.underlying36, FloatKind.noConfusion, convOk_widen _, fun s n => ?_⟩) | (go_at_call 60; refine (isPositive_any _ _).mono ?_; rintro e w' ⟨rfl, q, rfl⟩) | (go_at_call 71; refine (RootNumber_any _ _).mono ?_; rintro e w' ⟨s, n, rfl, rfl⟩) | (go_at_call 72; refine (mathCeil_any _ _ _ _ _ HD.out).mono ?_; rintro e w' ⟨rfl, rfl⟩) | ((with_reducible refine wpL_ftoi ?_); refine ⟨_, _, _, _, rfl, Option.isSome_iff_exists.2 ⟨_, Try.underlying36⟩, Try.underlying2, hi, ?_⟩))
  go_ret2
  exact ⟨rfl, _, rfl⟩
set_option maxRecDepth 100000 in
set_option maxHeartbeats 1600000 in
theorem specWell_no (width depth X : Nat) (w : World) (hX : X = wellX width depth) (h : isP width = false ∨ isP depth = false ∨ isP width = true ∧ isP depth = true ∧ isNaN .f32 X = false ∧ (FloatKind.f32.format.order X 1148846080 == some .gt) = true) :
    Calls Try.prog 40 #[.float .f32 width, .float .f32 depth] w (WellRet 0 false w) := by
  cases hw : isP width
  · clear h hX
    go_enter Try.func40, Try.ntmps40
    go_wp2_with (first | (go_at_call 64; refine (l02Above_any _ _).mono ?_; rintro e w' ⟨rfl, q, rfl⟩))
    go_ret2
    exact ⟨rfl, _, rfl⟩
  · cases hd : isP depth
    · clear h hX
      go_enter Try.func40, Try.ntmps40
      go_wp2_with (first | (go_at_call 64; refine (l02Above_any _ _).mono ?_; rintro e w' ⟨rfl, q, rfl⟩))
      go_ret2
      exact ⟨rfl, _, rfl⟩
    · rw [hw, hd] at h
      obtain h | h | ⟨_, _, hn, hg⟩ := h
      · cases h
      · cases h
      have hp := picks hX hn
      have hl := fbin_pick_l
      have hr := fbin_pick_r
      have hle : (FloatKind.f32.format.order X 1148846080 == some .lt || FloatKind.f32.format.order X 1148846080 == some .eq) = false := by rw [leq_of hn (by decide +kernel), hg]; rfl
      clear hX hg hn
      go_enter Try.func40, Try.ntmps40
      go_wp2_with (first | ((with_reducible refine wpL_fbin ?_); refine ⟨_, _, _, rfl, rfl, rfl, fun s n => ?_⟩) | ((with_reducible refine wpL_fsame ?_); refine ⟨_, _, rfl, Option.isSome_iff_exists.2 ⟨_, Try.underlying32⟩, Try.underlying32, ?_⟩) | (go_at_call 64; refine (l02Above_any _ _).mono ?_; rintro e w' ⟨rfl, q, rfl⟩) | (go_at_call 70; refine (l01Sqrt_any _ _).mono ?_; rintro e w' ⟨s, n, rfl, rfl⟩))
      go_ret2
      exact ⟨rfl, _, rfl⟩
set_option maxRecDepth 100000 in
set_option maxHeartbeats 1600000 in
theorem implWell_no (width depth X : Nat) (w : World) (hX : X = wellX width depth) (h : isP width = false ∨ isP depth = false ∨ isP width = true ∧ isP depth = true ∧ isNaN .f32 X = false ∧ (FloatKind.f32.format.order X 1148846080 == some .gt) = true) :
    Calls Try.prog 41 #[.float .f32 width, .float .f32 depth] w (WellRet 0 false w) := by
  cases hw : isP width
  · clear h hX
    go_enter Try.func41, Try.ntmps41
    go_wp2_with (first | (go_at_call 60; refine (isPositive_any _ _).mono ?_; rintro e w' ⟨rfl, q, rfl⟩))
    go_ret2
    exact ⟨rfl, _, rfl⟩
  · cases hd : isP depth
    · clear h hX
      go_enter Try.func41, Try.ntmps41
      go_wp2_with (first | (go_at_call 60; refine (isPositive_any _ _).mono ?_; rintro e w' ⟨rfl, q, rfl⟩))
      go_ret2
      exact ⟨rfl, _, rfl⟩
    · rw [hw, hd] at h
      obtain h | h | ⟨_, _, hn, hg⟩ := h
      · cases h
      · cases h
      have hp := picks hX hn
      have hl := fbin_pick_l
      have hr := fbin_pick_r
      clear hX hn
      go_enter Try.func41, Try.ntmps41
      go_wp2_with (first | ((with_reducible refine wpL_fbin ?_); refine ⟨_, _, _, rfl, rfl, rfl, fun s n => ?_⟩) | ((with_reducible refine wpL_fsame ?_); refine ⟨_, _, rfl, Option.isSome_iff_exists.2 ⟨_, Try.underlying32⟩, Try.underlying32, ?_⟩) | (go_at_call 60; refine (isPositive_any _ _).mono ?_; rintro e w' ⟨rfl, q, rfl⟩) | (go_at_call 71; refine (RootNumber_any _ _).mono ?_; rintro e w' ⟨s, n, rfl, rfl⟩))
      go_ret2
      exact ⟨rfl, _, rfl⟩
theorem well_both (width depth : Nat) : ∃ r ok, (∀ w, Calls Try.prog 40 #[.float .f32 width, .float .f32 depth] w (WellRet r ok w)) ∧ ∀ w, Calls Try.prog 41 #[.float .f32 width, .float .f32 depth] w (WellRet r ok w) := by
  by_cases hw : isP width = true
  · by_cases hd : isP depth = true
    · have hnn := well_nn hw hd
      have hn := hnn.num
      cases hg : (FloatKind.f32.format.order (wellX width depth) 1148846080 == some .gt)
      · rcases hnn with ⟨m, e, hdx⟩ | hdx
        · exact ⟨_, _, fun w => specWell_yes width depth _ m e _ rfl w hw hd rfl hn hdx hg, fun w => implWell_yes width depth _ m e w hw hd rfl hn hdx hg⟩
        · exfalso
          have h1 : FloatKind.f32.format.read (wellX width depth) = _ := hdx
          have h2 : FloatKind.f32.format.read 1148846080 = .number false 16384000 (-14) := dec1000
          rw [Ieee.Format.order, h1, h2] at hg
          simp [Ieee.Datum.order] at hg
      · exact ⟨0, false, fun w => specWell_no width depth _ w rfl (.inr (.inr ⟨hw, hd, hn, hg⟩)), fun w => implWell_no width depth _ w rfl (.inr (.inr ⟨hw, hd, hn, hg⟩))⟩
    · have h := Bool.eq_false_iff.2 hd
      exact ⟨0, false, fun w => specWell_no width depth _ w rfl (.inr (.inl h)), fun w => implWell_no width depth _ w rfl (.inr (.inl h))⟩
  · have h := Bool.eq_false_iff.2 hw
    exact ⟨0, false, fun w => specWell_no width depth _ w rfl (.inl h), fun w => implWell_no width depth _ w rfl (.inl h)⟩
set_option maxRecDepth 100000 in
set_option maxHeartbeats 800000 in
theorem lawWellCount_any (x : Nat) (_ : (Lit.float .f32 x).wf = true) (y : Nat) (_ : (Lit.float .f32 y).wf = true) (w : World) : Calls Try.prog 11 #[.float .f32 x, .float .f32 y] w fun e w' => e = .returned (.bool true) ∧ Grown w w' := by
  obtain ⟨r, ok, hs, hi⟩ := well_both x y
  have HS := Lib.hid hs
  have HI := Lib.hid hi
  clear hs hi
  go_enter Try.func11, Try.ntmps11
  go_wp2_with fail
  refine (HS.out _).mono ?_
  rintro e w' ⟨rfl, q, rfl⟩
  go_wp2_with fail
  refine (HI.out _).mono ?_
  rintro e w' ⟨rfl, q2, rfl⟩
  go_wp2
  go_ret
  exact ⟨rfl, grown_drewN _ _⟩
set_option maxRecDepth 100000 in
theorem FnExactWellCount_lifted (os : Os) (started : os.Started) (H : Type) (enc : TypeId × Value → H) :
    ReturnsInHanded {} Try.checked os 11 .any (Rows.fnExactWellCountSpec.pre6 enc Try.prog Try.f11 Rows.fnExactWellCountRow.domain false) (Rows.fnExactWellCountSpec.post enc Try.prog Try.f11 false true false false) := by
  refine returnsInHanded_of_change (C := Try.checked) ownKnob_none started (by kernel_rfl) Try.func11
    (ChangeSpec.witness6 (enc := enc) (C := Try.checked) false ⟨#[], #[.float .f32 0, .float .f32 0], []⟩ 8 (by kernel_rfl) (by kernel_rfl) (by kernel_rfl) (by kernel_rfl)) ?_
  intro W base args ds gs before hval0 hW _ _
  have hval : ∀ (j : Nat) t v, Try.f11.params[j]? = some t → args[j]? = some v → Value.okWide Try.prog W .any base t v := hval0
  have hW' := hW
  obtain ⟨p, q, hA0, hV, rfl, hfz, hnd⟩ := hW
  have hA : DataW.TrodAll enc Try.prog W 0 (fun _ => true) true Try.f11.params.toList args.toList ds p := hA0
  rw [Try.params11] at hA hval
  obtain ⟨v0, v1, d0, d1, p0, p1, rfl, rfl, rfl, h0, h1⟩ := trodAll_two hA
  obtain ⟨rfl, rfl⟩ := trodVars_none hV
  obtain ⟨a0, rfl, rfl, rfl, w0⟩ := open_float Try.underlying32 (hval 0 32 v0 rfl rfl) h0
  obtain ⟨a1, rfl, rfl, rfl, w1⟩ := open_float Try.underlying32 (hval 1 32 v1 rfl rfl) h1
  clear hA0 hval0
  simp only [List.append_nil] at hW'
  refine (lawWellCount_any a0 w0 a1 w1 W).mono fun e W' ⟨he, hg⟩ => ?_
  subst he
  exact ⟨_, rfl, post_of_same (pa := []) (pv := []) hW' (fun _ _ _ => (trodAll_cons_mk (shut_bool Try.underlying4 _) trodAll_mk0)) (fun sp _ => trodAll_mk2 (shut_float Try.underlying32 w0) (shut_float Try.underlying32 w1)) (fun _ _ => rfl) rfl
    (hg.frame _) hg.2.1 (ok_one (by kernel_rfl) rfl (okWide_bool_mk Try.underlying4 _))⟩
theorem FnExactWellCount_holds : Rows.FnExactWellCountSaid :=
  OpenClaim.holds_of_wide 11 Try.f11 rfl rfl rfl rfl rfl rfl rfl ⟨rfl, rfl, rfl, rfl, rfl⟩ rfl rfl rfl rfl rfl (by kernel_rfl) Try.func11 (by kernel_rfl)
    (of_decide_eq_true (by kernel_rfl)) (by unfold Func.isWrapper; first | (rw [if_pos (by decide +kernel)]; kernel_rfl) | (rw [if_neg (by decide +kernel)]; exact ⟨rfl, rfl⟩))
    (fun os started H enc _ => FnExactWellCount_lifted os started H enc)
end Go.Proofs.Ytdoaajmojfdjoaa
