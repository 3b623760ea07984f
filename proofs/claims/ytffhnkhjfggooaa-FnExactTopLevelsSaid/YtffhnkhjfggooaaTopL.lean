/- For all numbers and j the program tells the levels of a top just where the model does, and the same; the list is new at each call: for all arguments. -/
import Derived.Test.YtffhnkhjfggooaaTop
namespace Go.Proofs.Ytffhnkhjfggooaa
open Go Go.ChangeShapes Go.WideShapes Go.ChangeAt Go.RowKit

set_option maxHeartbeats 3200000 in
theorem outTopLevels_any (W : World) (a b : Nat) (c : Int) (R : Nat → Nat) (n : Nat) (ok : Bool) (hn : n ≤ 1048576) (HS : Hid (∀ w, Calls Try.prog 30 #[.float .f32 a, .float .f32 b, .int .i64 c] w (OutRet R n ok w)))
    (HI : Hid (∀ w, Calls Try.prog 31 #[.float .f32 a, .float .f32 b, .int .i64 c] w (OutRet R n ok w))) :
    Calls Try.prog 9 #[.float .f32 a, .float .f32 b, .int .i64 c] W fun e w' => e = .returned (.bool true) ∧ Below W.heap.size W w' := by
  go_enter Try.func9, Try.ntmps9
  go_wp2_with fail
  refine (HS.out _).mono ?_
  rintro e0 w1 ⟨v0, X0, rfl, O0, L0, B0⟩
  obtain ⟨x0, c0, rfl, _, _, R0⟩ := rd_of_own O0
  clear O0
  have HB := Blw.refl w1
  go_wp2_with fail
  refine (HI.out _).mono ?_
  rintro e0 w2 ⟨v1, X1, rfl, O1, L1, B1⟩
  have R0' := R0.below B1
  replace HB := Blw.next HB B1
  obtain ⟨x1, c1, rfl, _, _, R1⟩ := rd_of_own O1
  clear B1
  go_wp2_with fail
  refine (eqF_any _ _ _ _ _ X1 X0 _ (by exact R1) (by exact R0') hn (fun i hi => (L1 i hi).trans (L0 i hi).symm)).mono ?_
  rintro e0 w3 ⟨rfl, q, rfl⟩
  clear R1 R0' L1
  go_wp2_with fail
  refine (markF_any _ _ n X1 1 _ (by exact O1) hn (by omega) (by omega)).mono ?_
  rintro e0 w4 ⟨rfl, O2, B2⟩
  replace HB := Blw.nextB (by exact HB) B2
  clear O1 B2
  have hm1 : (0 : Int) ≤ 1 + (n : Int) := by omega
  go_wp2_with fail
  refine (heldF_any _ _ n 1 _ (by exact O2) hn (by omega) (by omega)).mono ?_
  rintro e0 w5 ⟨rfl, rfl⟩
  go_wp2_with fail
  refine (HI.out _).mono ?_
  rintro e0 w6 ⟨v2, X2, rfl, O3, L3, B3⟩
  have O4 := own_below O2 B3
  replace HB := Blw.next (by exact HB) B3
  have R2 := R0.below HB.out
  obtain ⟨x2, c2, rfl, _, _, R3⟩ := rd_of_own O3
  clear O2 O3 B3
  go_wp2_with fail
  refine (eqF_any _ _ _ _ _ X2 X0 _ (by exact R3) (by exact R2) hn (fun i hi => (L3 i hi).trans (L0 i hi).symm)).mono ?_
  rintro e0 w7 ⟨rfl, q2, rfl⟩
  clear R3 R2 L3
  go_wp2_with fail
  refine (heldF_any _ _ n 1 _ (by exact O4) hn (by omega) (by omega)).mono ?_
  rintro e0 w8 ⟨rfl, rfl⟩
  go_wp2
  go_ret
  exact ⟨rfl, B0.trans ((Blw.out (by exact HB)).mono B0.size)⟩
theorem lawTopLevels_any (W : World) (a : Nat) (_ : (Lit.float .f32 a).wf = true) (b : Nat) (_ : (Lit.float .f32 b).wf = true) (c : Int) (_ : (Lit.int .i64 c).wf = true) :
    Calls Try.prog 9 #[.float .f32 a, .float .f32 b, .int .i64 c] W fun e w' => e = .returned (.bool true) ∧ Below W.heap.size W w' := by
  by_cases h : isG a = true ∧ isG b = true ∧ 0 ≤ c ∧ c ≤ 40
  · obtain ⟨hb, hd, h1, h2⟩ := h
    obtain ⟨k, rfl⟩ : ∃ k : Nat, c = (k : Int) := ⟨c.toNat, by omega⟩
    refine outTopLevels_any W a b k (topR a b k) _ _ ?_ (Lib.hid fun w => specTop_yes a b k (k + 1) w hb hd rfl (by omega)) (Lib.hid fun w => implTop_yes a b k w hb hd (by omega))
    split <;> omega
  · have h' : isG a = false ∨ isG b = false ∨ c < 0 ∨ 40 < c := by
      cases hb : isG a
      · exact .inl rfl
      · cases hd : isG b
        · exact .inr (.inl rfl)
        · refine .inr (.inr ?_)
          have : ¬ (0 ≤ c ∧ c ≤ 40) := fun hh => h ⟨hb, hd, hh⟩
          omega
    exact outTopLevels_any W a b c (fun _ => 0) 0 false (by omega) (Lib.hid fun w => specTop_no a b c w _ h') (Lib.hid fun w => implTop_no a b c w _ h')
set_option maxRecDepth 100000 in
theorem FnExactTopLevels_lifted (os : Os) (started : os.Started) (H : Type) (enc : TypeId × Value → H) :
    ReturnsInHanded {} Try.checked os 9 .any (Rows.fnExactTopLevelsSpec.pre6 enc Try.prog Try.f9 Rows.fnExactTopLevelsRow.domain false) (Rows.fnExactTopLevelsSpec.post enc Try.prog Try.f9 false true false false) := by
  refine returnsInHanded_of_change (C := Try.checked) ownKnob_none started (by kernel_rfl) Try.func9
    (ChangeSpec.witness6 (enc := enc) (C := Try.checked) false ⟨#[], #[.float .f32 0, .float .f32 0, .int .i64 0], []⟩ 8 (by kernel_rfl) (by kernel_rfl) (by kernel_rfl) (by kernel_rfl)) ?_
  intro W base args ds gs before hval0 hW _ _
  have hval : ∀ (j : Nat) t v, Try.f9.params[j]? = some t → args[j]? = some v → Value.okWide Try.prog W .any base t v := hval0
  have hW' := hW
  obtain ⟨p, q, hA0, hV, rfl, _, _⟩ := hW
  have hA : DataW.TrodAll enc Try.prog W 0 (fun _ => true) true Try.f9.params.toList args.toList ds p := hA0
  rw [Try.params9] at hA hval
  obtain ⟨v0, v1, v2, d0, d1, d2, p0, p1, p2, rfl, rfl, rfl, h0, h1, h2⟩ := trodAll_three hA
  obtain ⟨rfl, rfl⟩ := trodVars_none hV
  obtain ⟨a0, rfl, rfl, rfl, w0⟩ := open_float Try.underlying29 (hval 0 29 v0 rfl rfl) h0
  obtain ⟨a1, rfl, rfl, rfl, w1⟩ := open_float Try.underlying29 (hval 1 29 v1 rfl rfl) h1
  obtain ⟨a2, rfl, rfl, rfl, w2⟩ := open_int Try.underlying2 (hval 2 2 v2 rfl rfl) h2
  clear hA0 hval0
  refine (lawTopLevels_any W a0 w0 a1 w1 a2 w2).mono fun e W' ⟨he, hb⟩ => ?_
  subst he
  have hA2 := trodAll_mk3 (enc := enc) (w := W') (base := 0) (spare := fun b => decide (b < W.heap.size)) (held := true) (shut_float Try.underlying29 w0) (shut_float Try.underlying29 w1) (shut_int Try.underlying2 w2)
  exact ⟨_, rfl, _, _, _, [], _, [], hW', trodAll_cons_mk (shut_bool Try.underlying4 _) trodAll_mk0, hA2, rfl, hb.frame _, fun h => by cases h⟩
theorem FnExactTopLevels_holds : Rows.FnExactTopLevelsSaid :=
  OpenClaim.holds_of_wide 9 Try.f9 rfl rfl rfl rfl rfl rfl rfl ⟨rfl, rfl, rfl, rfl, rfl⟩ rfl rfl rfl rfl rfl (by kernel_rfl) Try.func9 (by kernel_rfl)
    (of_decide_eq_true (by kernel_rfl)) (by unfold Func.isWrapper; first | (rw [if_pos (by decide +kernel)]; kernel_rfl) | (rw [if_neg (by decide +kernel)]; exact ⟨rfl, rfl⟩))
    (fun os started H enc _ => FnExactTopLevels_lifted os started H enc)
end Go.Proofs.Ytffhnkhjfggooaa
