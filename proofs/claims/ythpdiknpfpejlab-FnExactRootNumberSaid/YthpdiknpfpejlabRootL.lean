/- The square root of any number: the program tells what the model tells, to the last bit. -/
import Derived.Test.YthpdiknpfpejlabRoot
import Derived.Test.YthpdiknpfpejlabRowKit
namespace Go.Proofs.Ythpdiknpfpejlab
open Go Go.ChangeShapes Go.WideShapes Go.ChangeAt Go.RowKit
theorem run_mathsqrt (x : Nat) (w : World) : ∃ s n, (callFunc 40 #[.float .f64 x]).run Try.prog w = .ok (.value (.float .f64 (pick .f64 (fsqrt x) s))) (w.drewN n) := by
  obtain ⟨s, n, h⟩ := run_sqrt (P := Try.prog) w x
  have h2 : (callFunc 40 #[.float .f64 x]).run Try.prog w = (Extern.MathSqrt.sqrt #[.float .f64 x] >>= fun v => pure (Next.value v)).run Try.prog w := by kernel_rfl
  exact ⟨s, n, by rw [h2, Sem.run_bind, h]; rfl⟩
set_option maxHeartbeats 400000 in
theorem mathSqrt_any (x : Nat) (w : World) :
    Calls Try.prog 28 #[.float .f64 x] w fun e w' => ∃ s n, e = .returned (.float .f64 (pick .f64 (fsqrt x) s)) ∧ w' = w.drewN n := by
  obtain ⟨s, n, h⟩ := run_mathsqrt x w
  go_enter Try.func28, Try.ntmps28
  go_wp2
  go_ret
  exact ⟨s, n, rfl, rfl⟩
theorem convOk_root (x : Nat) : convOk .f64 (fsqrt (fconv .f32 x .f64)) .f32 := by
  cases hd : FloatKind.decode .f64 (fconv .f32 x .f64) with
  | nan s t =>
    have hd' : Ieee.double.read (fconv .f32 x .f64) = _ := hd
    have : fsqrt (fconv .f32 x .f64) = qnan .f64 := by simp [fsqrt, Ieee.Format.sqrt, hd', Ieee.Datum.root]
    rw [this]
    exact .inl (isNaN_qnan _)
  | infinity s =>
    have hd' : Ieee.double.read (fconv .f32 x .f64) = _ := hd
    cases s
    · have : fsqrt (fconv .f32 x .f64) = 9218868437227405312 := by simp [fsqrt, Ieee.Format.sqrt, hd', Ieee.Datum.root]; decide +kernel
      rw [this]
      exact .inr (.inl (by decide +kernel))
    · have : fsqrt (fconv .f32 x .f64) = qnan .f64 := by simp [fsqrt, Ieee.Format.sqrt, hd', Ieee.Datum.root]
      rw [this]
      exact .inl (isNaN_qnan _)
  | number s m i =>
    have hd' : Ieee.double.read (fconv .f32 x .f64) = _ := hd
    have hn : isNaN .f64 (fconv .f32 x .f64) = false := by simp [isNaN, hd, Ieee.Datum.isNaN]
    rw [isNaN_fconv] at hn
    have hi : (FloatKind.decode .f32 x).isInfinity = false := by
      cases hx : FloatKind.decode .f32 x with
      | nan => rfl
      | number => rfl
      | infinity t =>
        have : fconv .f32 x .f64 = FloatKind.encode .f64 (.infinity t) := by simp [fconv, hn, hx]
        rw [this] at hd
        have hx2 : FloatKind.decode .f64 (FloatKind.encode .f64 (.infinity t)) = .infinity t := by cases t <;> decide +kernel
        rw [hx2] at hd; cases hd
    obtain ⟨s', m', e', h1, h2⟩ := bd_widen hn hi
    rw [hd] at h1
    cases h1
    by_cases hs : s = false ∨ m = 0
    · refine convOk_narrow (B := 65) (bd_sqrt (m := m) (i := i) (H := 64) ?_ h2 (by decide) (by decide)) (by decide)
      rcases hs with rfl | rfl
      · exact .inl hd
      · cases s
        · exact .inl hd
        · exact .inr ⟨rfl, hd⟩
    · have hst : s = true := by cases s <;> simp_all
      have hm : m ≠ 0 := fun h => hs (.inr h)
      subst hst
      have : fsqrt (fconv .f32 x .f64) = qnan .f64 := by simp [fsqrt, Ieee.Format.sqrt, hd', Ieee.Datum.root, hm]
      rw [this]
      exact .inl (isNaN_qnan _)
/-- It hands back X, or, where X is a not-a-number, any. -/
def RetR (k : FloatKind) (X : Nat) (w : World) (e : Ending) (w' : World) : Prop := ∃ s n, e = .returned (.float k (pick k X s)) ∧ w' = w.drewN n
def rootT (x : Nat) : Nat := fconv .f64 (fsqrt (fconv .f32 x .f64)) .f32
set_option maxHeartbeats 400000 in
theorem specRoot_any (x : Nat) (w : World) : Calls Try.prog 11 #[.float .f32 x] w (RetR .f32 (rootT x) w) := by
  have hq := fsqrt_pick
  have hf := fun X s => fconv_pick .f64 X s .f32
  have HO := Lib.hid (fun s => convOk_pick (t := s) (convOk_root x))
  go_enter Try.func11, Try.ntmps11
  go_wp2_with (first | ((with_reducible refine wpL_fconv ?_); refine ⟨_, _, _, rfl, Option.isSome_iff_exists.2 ⟨_, Try.underlying28⟩, Try.underlying22, FloatKind.noConfusion, convOk_widen _, fun s n => ?_⟩) | ((with_reducible refine wpL_fconv ?_); refine ⟨_, _, _, rfl, Option.isSome_iff_exists.2 ⟨_, Try.underlying22⟩, Try.underlying28, FloatKind.noConfusion, HO.out _, fun s n => ?_⟩) | (go_at_call 28; refine (mathSqrt_any _ _).mono ?_; rintro e w' ⟨s, n, rfl, rfl⟩) | go_in)
  go_ret
  exact ⟨_, _, rfl, rfl⟩
set_option maxHeartbeats 400000 in
theorem implRoot_any (x : Nat) (w : World) : Calls Try.prog 12 #[.float .f32 x] w (RetR .f32 (rootT x) w) := by
  have hq := fsqrt_pick
  have hf := fun X s => fconv_pick .f64 X s .f32
  have HO := Lib.hid (fun s => convOk_pick (t := s) (convOk_root x))
  go_enter Try.func12, Try.ntmps12
  go_wp2_with (first | ((with_reducible refine wpL_fconv ?_); refine ⟨_, _, _, rfl, Option.isSome_iff_exists.2 ⟨_, Try.underlying28⟩, Try.underlying22, FloatKind.noConfusion, convOk_widen _, fun s n => ?_⟩) | ((with_reducible refine wpL_fconv ?_); refine ⟨_, _, _, rfl, Option.isSome_iff_exists.2 ⟨_, Try.underlying22⟩, Try.underlying28, FloatKind.noConfusion, HO.out _, fun s n => ?_⟩) | (go_at_call 28; refine (mathSqrt_any _ _).mono ?_; rintro e w' ⟨s, n, rfl, rfl⟩) | go_in)
  go_ret
  exact ⟨_, _, rfl, rfl⟩
set_option maxHeartbeats 400000 in
theorem lawRoot_any (x : Nat) (_hx : (Lit.float .f32 x).wf = true) (w : World) :
    Calls Try.prog 5 #[.float .f32 x] w fun e w' => e = .returned (.bool true) ∧ Grown w w' := by
  have hc : ∀ X s t, canon .f64 (pick .f64 X s) = canon .f64 (pick .f64 X t) := fun X s t => by rw [canon_pick, canon_pick]
  have hp : ∀ X s, fconv .f32 (pick .f32 X s) .f64 = fconv .f32 X .f64 := fun X s => fconv_pick .f32 X s .f64
  generalize hS : rootT x = S
  go_enter Try.func5, Try.ntmps5
  go_wp2_with (first | ((with_reducible refine wpL_fconv ?_); refine ⟨_, _, _, rfl, Option.isSome_iff_exists.2 ⟨_, Try.underlying28⟩, Try.underlying22, FloatKind.noConfusion, convOk_widen _, fun s n => ?_⟩) | (go_at_call 13; refine (sameFloat_any _ _ _ (hc _ _ _)).mono ?_; rintro e w' ⟨rfl, n, rfl⟩) | (go_at_call 11; refine (specRoot_any _ _).mono ?_; rw [hS]; rintro e w' ⟨s, n, rfl, rfl⟩) | (go_at_call 12; refine (implRoot_any _ _).mono ?_; rw [hS]; rintro e w' ⟨s, n, rfl, rfl⟩))
  all_goals go_ret
  all_goals exact ⟨by simp, grown_drewN _ _⟩
set_option maxRecDepth 100000 in
theorem FnExactRootNumber_lifted (os : Os) (started : os.Started) (H : Type) (enc : TypeId × Value → H) :
    ReturnsInHanded {} Try.checked os 5 .any (Rows.fnExactRootNumberSpec.pre6 enc Try.prog Try.f5 Rows.fnExactRootNumberRow.domain false) (Rows.fnExactRootNumberSpec.post enc Try.prog Try.f5 false true false false) := by
  refine returnsInHanded_of_change (C := Try.checked) ownKnob_none started (by kernel_rfl) Try.func5
    (ChangeSpec.witness6 (enc := enc) (C := Try.checked) false ⟨#[], #[.float .f32 0], []⟩ 8 (by kernel_rfl) (by kernel_rfl) (by kernel_rfl) (by kernel_rfl)) ?_
  intro W base args ds gs before hval0 hW _ _
  have hval : ∀ (j : Nat) t v, Try.f5.params[j]? = some t → args[j]? = some v → Value.okWide Try.prog W .any base t v := hval0
  have hW' := hW
  obtain ⟨p, q, hA0, hV, rfl, hfz, hnd⟩ := hW
  have hA : DataW.TrodAll enc Try.prog W 0 (fun _ => true) true Try.f5.params.toList args.toList ds p := hA0
  rw [Try.params5] at hA hval
  obtain ⟨v0, vs0, d0, ds0, p0, q0, hargs, rfl, rfl, h0, r0⟩ := trodAll_cons hA
  obtain ⟨rfl, rfl, rfl⟩ := trodAll_nil r0
  obtain rfl : args = #[v0] := by cases args; simp_all
  obtain ⟨rfl, rfl⟩ := trodVars_none hV
  obtain ⟨a0, rfl, rfl, rfl, w0⟩ := open_float Try.underlying28 (hval 0 28 v0 rfl rfl) h0
  clear hA0 hval0
  simp only [List.append_nil] at hW'
  refine (lawRoot_any a0 w0 W).mono fun e W' ⟨he, hg⟩ => ?_
  subst he
  exact ⟨_, rfl, post_of_same (pa := []) (pv := []) hW' (fun _ _ _ => (trodAll_cons_mk (shut_bool Try.underlying4 _) trodAll_mk0)) (fun sp _ => (trodAll_cons_mk (shut_float Try.underlying28 w0) trodAll_mk0)) (fun _ _ => rfl) rfl
    (hg.frame _) hg.2.1 (ok_one (by kernel_rfl) rfl (okWide_bool_mk Try.underlying4 _))⟩
theorem FnExactRootNumber_holds : Rows.FnExactRootNumberSaid :=
  OpenClaim.holds_of_wide 5 Try.f5 rfl rfl rfl rfl rfl rfl rfl ⟨rfl, rfl, rfl, rfl, rfl⟩ rfl rfl rfl rfl rfl (by kernel_rfl) Try.func5 (by kernel_rfl)
    (of_decide_eq_true (by kernel_rfl)) (by unfold Func.isWrapper; first | (rw [if_pos (by decide +kernel)]; kernel_rfl) | (rw [if_neg (by decide +kernel)]; exact ⟨rfl, rfl⟩))
    (fun os started H enc _ => FnExactRootNumber_lifted os started H enc)
end Go.Proofs.Ythpdiknpfpejlab
