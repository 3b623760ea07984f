/- For all arguments the program tells the levels in a field just where the model does, and the same; the list is new at each call. -/
import Derived.Test.YtffhnkhjfggooaaSpn
import Derived.Test.YtffhnkhjfggooaaFive
namespace Go.Proofs.Ytffhnkhjfggooaa
open Go Go.ChangeShapes Go.WideShapes Go.ChangeAt Go.RowKit

set_option maxHeartbeats 3200000 in
theorem outSplitLevels_any (W : World) (a b c : Int) (d g : Nat) (R : Nat → Nat) (n : Nat) (ok : Bool) (hn : n ≤ 1048576) (HS : Hid (∀ w, Calls Try.prog 21 #[.int .i64 a, .int .i64 b, .int .i64 c, .float .f32 d, .float .f32 g] w (OutRet R n ok w)))
    (HI : Hid (∀ w, Calls Try.prog 22 #[.int .i64 a, .int .i64 b, .int .i64 c, .float .f32 d, .float .f32 g] w (OutRet R n ok w))) :
    Calls Try.prog 6 #[.int .i64 a, .int .i64 b, .int .i64 c, .float .f32 d, .float .f32 g] W fun e w' => e = .returned (.bool true) ∧ Below W.heap.size W w' := by
  go_enter Try.func6, Try.ntmps6
  go_wp2_with fail
  refine (HS.out _).mono ?_
  rintro e0 w1 ⟨v0, X0, rfl, O0, L0, B0⟩
  obtain ⟨x0, c0, rfl, _, _, R0⟩ := rd_of_own O0
  clear O0
  have HB := Blw.refl w1
  go_wp2_with fail
  refine (HI.out _).mono ?_
  rintro e0 w2 ⟨v1, X1, rfl, O1, L1, B1⟩
  have R0' := R0.below B1
  replace HB := Blw.next HB B1
  obtain ⟨x1, c1, rfl, _, _, R1⟩ := rd_of_own O1
  clear B1
  go_wp2_with fail
  refine (eqF_any _ _ _ _ _ X1 X0 _ (by exact R1) (by exact R0') hn (fun i hi => (L1 i hi).trans (L0 i hi).symm)).mono ?_
  rintro e0 w3 ⟨rfl, q, rfl⟩
  clear R1 R0' L1
  go_wp2_with fail
  refine (markF_any _ _ n X1 1 _ (by exact O1) hn (by omega) (by omega)).mono ?_
  rintro e0 w4 ⟨rfl, O2, B2⟩
  replace HB := Blw.nextB (by exact HB) B2
  clear O1 B2
  have hm1 : (0 : Int) ≤ 1 + (n : Int) := by omega
  go_wp2_with fail
  refine (heldF_any _ _ n 1 _ (by exact O2) hn (by omega) (by omega)).mono ?_
  rintro e0 w5 ⟨rfl, rfl⟩
  go_wp2_with fail
  refine (HI.out _).mono ?_
  rintro e0 w6 ⟨v2, X2, rfl, O3, L3, B3⟩
  have O4 := own_below O2 B3
  replace HB := Blw.next (by exact HB) B3
  have R2 := R0.below HB.out
  obtain ⟨x2, c2, rfl, _, _, R3⟩ := rd_of_own O3
  clear O2 O3 B3
  go_wp2_with fail
  refine (eqF_any _ _ _ _ _ X2 X0 _ (by exact R3) (by exact R2) hn (fun i hi => (L3 i hi).trans (L0 i hi).symm)).mono ?_
  rintro e0 w7 ⟨rfl, q2, rfl⟩
  clear R3 R2 L3
  go_wp2_with fail
  refine (heldF_any _ _ n 1 _ (by exact O4) hn (by omega) (by omega)).mono ?_
  rintro e0 w8 ⟨rfl, rfl⟩
  go_wp2
  go_ret
  exact ⟨rfl, B0.trans ((Blw.out (by exact HB)).mono B0.size)⟩
theorem lawSplitLevels_any (W : World) (a : Int) (_ : (Lit.int .i64 a).wf = true) (b : Int) (_ : (Lit.int .i64 b).wf = true) (c : Int) (_ : (Lit.int .i64 c).wf = true) (d : Nat) (_ : (Lit.float .f32 d).wf = true) (g : Nat) (_ : (Lit.float .f32 g).wf = true) :
    Calls Try.prog 6 #[.int .i64 a, .int .i64 b, .int .i64 c, .float .f32 d, .float .f32 g] W fun e w' => e = .returned (.bool true) ∧ Below W.heap.size W w' := by
  cases h : splOk a b c d g
  · exact outSplitLevels_any W a b c d g (fun _ => 0) 0 false (by omega) (Lib.hid fun w => specSpl_no a b c d g w _ h) (Lib.hid fun w => implSpl_no a b c d g w _ h)
  · unfold splOk at h
    simp only [Bool.and_eq_true] at h
    obtain ⟨hf, h1, h2⟩ := h
    obtain ⟨_, _, _, _, j0, j1, _, _⟩ := fineAt hf
    obtain ⟨J, rfl⟩ : ∃ J : Nat, c = (J : Int) := ⟨c.toNat, by omega⟩
    refine outSplitLevels_any W a b J d g (splR d (byR (facU a b J) (facD a b J) g) J) _ _ ?_ (Lib.hid fun w => specSpl_yes a b J d g w hf h1 h2) (Lib.hid fun w => implSpl_yes a b J d g w hf h1 h2)
    split <;> omega
set_option maxRecDepth 100000 in
theorem FnExactSplitLevels_lifted (os : Os) (started : os.Started) (H : Type) (enc : TypeId × Value → H) :
    ReturnsInHanded {} Try.checked os 6 .any (Rows.fnExactSplitLevelsSpec.pre6 enc Try.prog Try.f6 Rows.fnExactSplitLevelsRow.domain false) (Rows.fnExactSplitLevelsSpec.post enc Try.prog Try.f6 false true false false) := by
  refine returnsInHanded_of_change (C := Try.checked) ownKnob_none started (by kernel_rfl) Try.func6
    (ChangeSpec.witness6 (enc := enc) (C := Try.checked) false ⟨#[], #[.int .i64 0, .int .i64 0, .int .i64 0, .float .f32 0, .float .f32 0], []⟩ 8 (by kernel_rfl) (by kernel_rfl) (by kernel_rfl) (by kernel_rfl)) ?_
  intro W base args ds gs before hval0 hW _ _
  have hval : ∀ (j : Nat) t v, Try.f6.params[j]? = some t → args[j]? = some v → Value.okWide Try.prog W .any base t v := hval0
  have hW' := hW
  obtain ⟨p, q, hA0, hV, rfl, _, _⟩ := hW
  have hA : DataW.TrodAll enc Try.prog W 0 (fun _ => true) true Try.f6.params.toList args.toList ds p := hA0
  rw [Try.params6] at hA hval
  obtain ⟨v0, v1, v2, v3, v4, d0, d1, d2, d3, d4, p0, p1, p2, p3, p4, rfl, rfl, rfl, h0, h1, h2, h3, h4⟩ := trodAll_five hA
  obtain ⟨rfl, rfl⟩ := trodVars_none hV
  obtain ⟨a0, rfl, rfl, rfl, w0⟩ := open_int Try.underlying2 (hval 0 2 v0 rfl rfl) h0
  obtain ⟨a1, rfl, rfl, rfl, w1⟩ := open_int Try.underlying2 (hval 1 2 v1 rfl rfl) h1
  obtain ⟨a2, rfl, rfl, rfl, w2⟩ := open_int Try.underlying2 (hval 2 2 v2 rfl rfl) h2
  obtain ⟨a3, rfl, rfl, rfl, w3⟩ := open_float Try.underlying29 (hval 3 29 v3 rfl rfl) h3
  obtain ⟨a4, rfl, rfl, rfl, w4⟩ := open_float Try.underlying29 (hval 4 29 v4 rfl rfl) h4
  clear hA0 hval0
  refine (lawSplitLevels_any W a0 w0 a1 w1 a2 w2 a3 w3 a4 w4).mono fun e W' ⟨he, hb⟩ => ?_
  subst he
  have hA2 := trodAll_mk5 (enc := enc) (w := W') (base := 0) (spare := fun b => decide (b < W.heap.size)) (held := true) (shut_int Try.underlying2 w0) (shut_int Try.underlying2 w1) (shut_int Try.underlying2 w2) (shut_float Try.underlying29 w3) (shut_float Try.underlying29 w4)
  exact ⟨_, rfl, _, _, _, [], _, [], hW', trodAll_cons_mk (shut_bool Try.underlying4 _) trodAll_mk0, hA2, rfl, hb.frame _, fun h => by cases h⟩
theorem FnExactSplitLevels_holds : Rows.FnExactSplitLevelsSaid :=
  OpenClaim.holds_of_wide 6 Try.f6 rfl rfl rfl rfl rfl rfl rfl ⟨rfl, rfl, rfl, rfl, rfl⟩ rfl rfl rfl rfl rfl (by kernel_rfl) Try.func6 (by kernel_rfl)
    (of_decide_eq_true (by kernel_rfl)) (by unfold Func.isWrapper; first | (rw [if_pos (by decide +kernel)]; kernel_rfl) | (rw [if_neg (by decide +kernel)]; exact ⟨rfl, rfl⟩))
    (fun os started H enc _ => FnExactSplitLevels_lifted os started H enc)
end Go.Proofs.Ytffhnkhjfggooaa
