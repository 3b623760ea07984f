/- Of any lines and place the program tells how high the lines are just where the model does, and the same; the lines are not changed: for all arguments. -/
import Derived.Test.YtchpnjihhncfmaaLsi
import Derived.Test.YtchpnjihhncfmaaLnC
import Derived.Test.YtchpnjihhncfmaaFlG
namespace Go.Proofs.Ytchpnjihhncfmaa
open Go Go.ChangeShapes Go.WideShapes Go.ChangeAt Go.RowKit

set_option maxRecDepth 100000 in
set_option maxHeartbeats 3200000 in
theorem lawLinesAt_any (W : World) (xa : Option Addr) (n cap : Nat) (X : Nat → Ln) (hX : RdN W xa n X) (hmx : n ≤ maxLen) (_ : ∀ i, i < n → (X i).wf) (x : Nat) (_wf : (Lit.float .f32 x).wf = true) :
    Calls Try.prog 8 #[.slice xa n cap, .float .f32 x] W fun e w' => e = .returned (.bool true) ∧ Below W.heap.size W w' := by
  by_cases hn : n ≤ 1048576
  · obtain ⟨R, hR⟩ : ∃ R, R = lsV X n x := ⟨_, rfl⟩
    obtain ⟨ok, ho⟩ : ∃ ok, ok = lsB X n x := ⟨_, rfl⟩
    have HS := Lib.hid (fun xa cap w hX => specLinesAt_any xa n cap X x w hX hn R ok (Lib.hid hR) (Lib.hid ho))
    have HI := Lib.hid (fun xa cap w hX => implLinesAt_any xa n cap X x w hX hn R ok (Lib.hid hR) (Lib.hid ho))
    clear hR ho
    have hne : (ok != ok) = false := by simp
    have hcv := fun (R : Nat) (s t : Nat) => show canon .f64 (pick .f64 (fconv .f32 (pick .f32 R s) .f64) t) = canon .f64 (fconv .f32 R .f64) by rw [canon_pick, fconv_pick]
    have HCV := Lib.hid hcv
    clear hcv
    have hs1 : (0 : Int) ≤ 1048576 - n := by omega
    have HB := Blw.refl W
    go_enter Try.func8, Try.ntmps8
    go_wp2_with (go_at_call 36; go_in)
    refine (toN_any _ _ _ X _ (by exact hX.below (Blw.out (by exact HB))) hn).mono ?_
    rintro e0 w0 ⟨rfl, O0, B0⟩
    replace HB := Blw.next (by exact HB) B0
    have T0 := rdN_own O0
    clear O0 B0
    go_wp2_with fail
    refine (HS.out _ _ _ (by exact T0)).mono ?_
    rintro e0 w1 ⟨s0, q, rfl, rfl⟩
    clear T0
    have BD := Below.drewN (Below.refl w0.heap.size w0) q
    replace HB := Blw.next (by exact HB) BD
    clear BD
    go_wp2_with fail
    refine (toN_any _ _ _ X _ (by exact hX.below (Blw.out (by exact HB))) hn).mono ?_
    rintro e0 w2 ⟨rfl, O0, B0⟩
    replace HB := Blw.next (by exact HB) B0
    have T0 := rdN_own O0
    clear O0 B0
    go_wp2_with fail
    refine (HI.out _ _ _ (by exact T0)).mono ?_
    rintro e0 w3 ⟨s1, rfl, B0⟩
    replace HB := Blw.next (by exact HB) B0
    have T1 := RdN.below T0 B0
    clear T0 B0
    go_wp2_with (first | ((with_reducible refine wpL_fconv ?_); refine ⟨_, _, _, rfl, Option.isSome_iff_exists.2 ⟨_, Try.underlying23⟩, Try.underlying44, FloatKind.noConfusion, convOk_widen _, fun s n => ?_⟩) | ((with_reducible refine wpL_fconv_g ?_); refine ⟨rfl, _, _, _, rfl, Option.isSome_iff_exists.2 ⟨_, Try.underlying23⟩, Try.underlying44, FloatKind.noConfusion, convOk_widen _, fun s n => ?_⟩))
    refine (sameFloat_any _ _ _ ((HCV.out _ _ _).trans (HCV.out _ _ _).symm)).mono ?_
    rintro e0 w4 ⟨rfl, q2, rfl⟩
    go_wp2_with fail
    refine (toN_any _ _ _ X _ (by exact hX.below (Below.drewN (Blw.out (by exact HB)) _)) hn).mono ?_
    rintro e0 w4 ⟨rfl, O0, B0⟩
    replace HB := Blw.next (Blw.next (by exact HB) (Below.drewN (Below.refl _ _) _)) B0
    have T2 := rdN_own O0
    have T3 := RdN.below (RdN.drew T1 _) B0
    clear O0 B0 T1
    go_wp2_with fail
    refine (eqN_any _ _ _ _ _ X X _ (by exact T3) (by exact T2) hn (LikeN.refl _ _)).mono ?_
    rintro e0 w5 ⟨rfl, B0⟩
    replace HB := Blw.next (by exact HB) B0
    clear B0 T2 T3
    go_wp2
    go_ret
    exact ⟨rfl, Blw.out (by exact HB)⟩
  · unfold maxLen at hmx
    have h' : (1048576 : Int) - (n : Int) < 0 := by omega
    go_enter Try.func8, Try.ntmps8
    go_wp2_with (go_at_call 36; go_in)
    go_ret
    exact ⟨rfl, (Blw.refl W).out⟩
set_option maxRecDepth 100000 in
theorem FnExactLinesAt_lifted (os : Os) (started : os.Started) (H : Type) (enc : TypeId × Value → H) :
    ReturnsInHanded {} Try.checked os 8 .any (Rows.fnExactLinesAtSpec.pre6 enc Try.prog Try.f8 Rows.fnExactLinesAtRow.domain false) (Rows.fnExactLinesAtSpec.post enc Try.prog Try.f8 false true false false) := by
  refine returnsInHanded_of_change (C := Try.checked) ownKnob_none started (by kernel_rfl) Try.func8
    (ChangeSpec.witness6 (enc := enc) (C := Try.checked) false ⟨#[], #[.slice none 0 0, .float .f32 0], []⟩ 8 (by kernel_rfl) (by kernel_rfl) (by kernel_rfl) (by kernel_rfl)) ?_
  intro W base args ds gs before hval0 hW _ _
  have hval : ∀ (j : Nat) t v, Try.f8.params[j]? = some t → args[j]? = some v → Value.okWide Try.prog W .any base t v := hval0
  have hW' := hW
  obtain ⟨p, q, hA0, hV, rfl, _, _⟩ := hW
  have hA : DataW.TrodAll enc Try.prog W 0 (fun _ => true) true Try.f8.params.toList args.toList ds p := hA0
  rw [Try.params8] at hA hval
  obtain ⟨v0, v1, d0, d1, p0, p1, rfl, rfl, rfl, h0, h1⟩ := trodAll_two hA
  obtain ⟨rfl, rfl⟩ := trodVars_none hV
  obtain ⟨x0, n0, c0, rfl⟩ := okWide_slice Try.underlying46 (hval 0 46 v0 rfl rfl)
  have k0 := h0
  obtain ⟨lc0, cm0, a0, w0, g0⟩ := open_lins h0
  have b0 : ∀ x ∈ p0, x.block < W.heap.size := fun x hx => by have := hW'.lt x (by simp [hx]); simpa using this
  obtain ⟨a1, rfl, rfl, rfl, w1⟩ := open_float Try.underlying23 (hval 1 23 v1 rfl rfl) h1
  clear hA0 hval0
  refine (lawLinesAt_any W x0 n0 c0 a0 w0 (Nat.le_trans lc0 cm0) g0 a1 w1).mono fun e W' ⟨he, hb⟩ => ?_
  subst he
  have hA2 := trodAll_mk2 (enc := enc) (w := W') (base := 0) (spare := fun b => decide (b < W.heap.size)) (held := true) (Below.trod laidOut (by kernel_rfl) (of_decide_eq_true (by kernel_rfl)) k0 hb b0) (shut_float Try.underlying23 w1)
  exact ⟨_, rfl, _, _, _, [], _, [], hW', trodAll_cons_mk (shut_bool Try.underlying4 _) trodAll_mk0, hA2, rfl, hb.frame _, fun h => by cases h⟩
theorem FnExactLinesAt_holds : Rows.FnExactLinesAtSaid :=
  OpenClaim.holds_of_wide 8 Try.f8 rfl rfl rfl rfl rfl rfl rfl ⟨rfl, rfl, rfl, rfl, rfl⟩ rfl rfl rfl rfl rfl (by kernel_rfl) Try.func8 (by kernel_rfl)
    (of_decide_eq_true (by kernel_rfl)) (by unfold Func.isWrapper; first | (rw [if_pos (by decide +kernel)]; kernel_rfl) | (rw [if_neg (by decide +kernel)]; exact ⟨rfl, rfl⟩))
    (fun os started H enc _ => FnExactLinesAt_lifted os started H enc)
end Go.Proofs.Ytchpnjihhncfmaa
