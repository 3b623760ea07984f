/- Of any two lists of lines the program says that they are the same just where the model does; the lists are not changed: for all arguments. -/
import Derived.Test.YtchpnjihhncfmaaSl4
import Derived.Test.YtchpnjihhncfmaaLnC
namespace Go.Proofs.Ytchpnjihhncfmaa
open Go Go.ChangeShapes Go.WideShapes Go.ChangeAt Go.RowKit

set_option maxRecDepth 100000 in
set_option maxHeartbeats 6400000 in
theorem lawSameLines_any (W : World) (xa : Option Addr) (n cx : Nat) (X : Nat → Ln) (hX : RdN W xa n X) (hmx : n ≤ maxLen) (wX : ∀ i, i < n → (X i).wf) (ya : Option Addr) (n' cy : Nat) (Y : Nat → Ln) (hY : RdN W ya n' Y) (hmy : n' ≤ maxLen) (wY : ∀ i, i < n' → (Y i).wf) :
    Calls Try.prog 11 #[.slice xa n cx, .slice ya n' cy] W fun e w' => e = .returned (.bool true) ∧ Below W.heap.size W w' := by
  by_cases hn : n + n' ≤ 1048576
  · have hn1 : n ≤ 1048576 := by omega
    have hn2 : n' ≤ 1048576 := by omega
    obtain ⟨R, hR⟩ : ∃ R, R = eqLns X n Y n' := ⟨_, rfl⟩
    have HS := Lib.hid (fun xa cx ya cy w hX hY => specSL_any xa ya n n' cx cy X Y w hX hY wX wY hn1 hn2 R (Lib.hid hR))
    have HI := Lib.hid (fun xa cx ya cy w hX hY => implSL_any xa ya n n' cx cy X Y w hX hY wX wY hn1 hn2 R (Lib.hid hR))
    clear hR
    have hne : (R != R) = false := by simp
    have hs1 : (0 : Int) ≤ 1048576 - n := by omega
    have hs2 : (0 : Int) ≤ 1048576 - n - n' := by omega
    have HB := Blw.refl W
    go_enter Try.func11, Try.ntmps11
    go_wp2_with (go_at_call 36; go_in)
    refine (toN_any _ _ _ X _ (by exact hX.below (Blw.out (by exact HB))) hn1).mono ?_
    rintro e0 w0 ⟨rfl, O0, B0⟩
    replace HB := Blw.next (by exact HB) B0
    have T0 := rdN_own O0
    clear O0 B0
    go_wp2_with fail
    refine (toN_any _ _ _ Y _ (by exact hY.below (Blw.out (by exact HB))) hn2).mono ?_
    rintro e0 w0 ⟨rfl, O0, B0⟩
    replace HB := Blw.next (by exact HB) B0
    have T1 := RdN.below T0 B0
    have U1 := rdN_own O0
    clear O0 B0 T0
    go_wp2_with fail
    refine (HS.out _ _ _ _ _ (by exact T1) (by exact U1)).mono ?_
    rintro e0 w1 ⟨rfl, q, rfl⟩
    clear T1 U1
    replace HB := Blw.next (by exact HB) (Below.drewN (Below.refl _ _) q)
    go_wp2_with fail
    refine (toN_any _ _ _ X _ (by exact hX.below (Blw.out (by exact HB))) hn1).mono ?_
    rintro e0 w2 ⟨rfl, O0, B0⟩
    replace HB := Blw.next (by exact HB) B0
    have T0 := rdN_own O0
    clear O0 B0
    go_wp2_with fail
    refine (toN_any _ _ _ Y _ (by exact hY.below (Blw.out (by exact HB))) hn2).mono ?_
    rintro e0 w0 ⟨rfl, O0, B0⟩
    replace HB := Blw.next (by exact HB) B0
    have T1 := RdN.below T0 B0
    have U1 := rdN_own O0
    clear O0 B0 T0
    go_wp2_with fail
    refine (HI.out _ _ _ _ _ (by exact T1) (by exact U1)).mono ?_
    rintro e0 w3 ⟨rfl, B0⟩
    replace HB := Blw.next (by exact HB) B0
    have T2 := RdN.below T1 B0
    have U2 := RdN.below U1 B0
    clear T1 U1 B0
    go_wp2_with fail
    refine (toN_any _ _ _ X _ (by exact hX.below (Blw.out (by exact HB))) hn1).mono ?_
    rintro e0 w4 ⟨rfl, O0, B0⟩
    replace HB := Blw.next (by exact HB) B0
    have T4 := rdN_own O0
    have T3 := RdN.below T2 B0
    have U3 := RdN.below U2 B0
    clear O0 B0 T2 U2
    go_wp2_with fail
    refine (eqN_any _ _ _ _ _ X X _ (by exact T3) (by exact T4) hn1 (LikeN.refl _ _)).mono ?_
    rintro e0 w5 ⟨rfl, B0⟩
    replace HB := Blw.next (by exact HB) B0
    have U4 := RdN.below U3 B0
    clear B0 T3 T4 U3
    go_wp2_with fail
    refine (toN_any _ _ _ Y _ (by exact hY.below (Blw.out (by exact HB))) hn2).mono ?_
    rintro e0 w0 ⟨rfl, O0, B0⟩
    replace HB := Blw.next (by exact HB) B0
    have U5 := RdN.below U4 B0
    have U6 := rdN_own O0
    clear O0 B0 U4
    go_wp2_with fail
    refine (eqN_any _ _ _ _ _ Y Y _ (by exact U5) (by exact U6) hn2 (LikeN.refl _ _)).mono ?_
    rintro e0 w6 ⟨rfl, B0⟩
    replace HB := Blw.next (by exact HB) B0
    go_wp2
    go_ret
    exact ⟨rfl, Blw.out (by exact HB)⟩
  · unfold maxLen at hmx hmy
    by_cases hn1 : n ≤ 1048576
    · have hs1 : (0 : Int) ≤ 1048576 - n := by omega
      have h' : (1048576 : Int) - (n : Int) - (n' : Int) < 0 := by omega
      go_enter Try.func11, Try.ntmps11
      go_wp2_with (go_at_call 36; go_in)
      go_ret
      exact ⟨rfl, (Blw.refl W).out⟩
    · have h' : (1048576 : Int) - (n : Int) < 0 := by omega
      go_enter Try.func11, Try.ntmps11
      go_wp2_with (go_at_call 36; go_in)
      go_ret
      exact ⟨rfl, (Blw.refl W).out⟩
set_option maxRecDepth 100000 in
theorem FnExactSameLines_lifted (os : Os) (started : os.Started) (H : Type) (enc : TypeId × Value → H) :
    ReturnsInHanded {} Try.checked os 11 .any (Rows.fnExactSameLinesSpec.pre6 enc Try.prog Try.f11 Rows.fnExactSameLinesRow.domain false) (Rows.fnExactSameLinesSpec.post enc Try.prog Try.f11 false true false false) := by
  refine returnsInHanded_of_change (C := Try.checked) ownKnob_none started (by kernel_rfl) Try.func11
    (ChangeSpec.witness6 (enc := enc) (C := Try.checked) false ⟨#[], #[.slice none 0 0, .slice none 0 0], []⟩ 8 (by kernel_rfl) (by kernel_rfl) (by kernel_rfl) (by kernel_rfl)) ?_
  intro W base args ds gs before hval0 hW _ _
  have hval : ∀ (j : Nat) t v, Try.f11.params[j]? = some t → args[j]? = some v → Value.okWide Try.prog W .any base t v := hval0
  have hW' := hW
  obtain ⟨p, q, hA0, hV, rfl, _, _⟩ := hW
  have hA : DataW.TrodAll enc Try.prog W 0 (fun _ => true) true Try.f11.params.toList args.toList ds p := hA0
  rw [Try.params11] at hA hval
  obtain ⟨v0, v1, d0, d1, p0, p1, rfl, rfl, rfl, h0, h1⟩ := trodAll_two hA
  obtain ⟨rfl, rfl⟩ := trodVars_none hV
  obtain ⟨x0, n0, c0, rfl⟩ := okWide_slice Try.underlying46 (hval 0 46 v0 rfl rfl)
  have k0 := h0
  obtain ⟨lc0, cm0, a0, w0, g0⟩ := open_lins h0
  have b0 : ∀ x ∈ p0, x.block < W.heap.size := fun x hx => by have := hW'.lt x (by simp [hx]); simpa using this
  obtain ⟨x1, n1, c1, rfl⟩ := okWide_slice Try.underlying46 (hval 1 46 v1 rfl rfl)
  have k1 := h1
  obtain ⟨lc1, cm1, a1, w1, g1⟩ := open_lins h1
  have b1 : ∀ x ∈ p1, x.block < W.heap.size := fun x hx => by have := hW'.lt x (by simp [hx]); simpa using this
  clear hA0 hval0
  refine (lawSameLines_any W x0 n0 c0 a0 w0 (Nat.le_trans lc0 cm0) g0 x1 n1 c1 a1 w1 (Nat.le_trans lc1 cm1) g1).mono fun e W' ⟨he, hb⟩ => ?_
  subst he
  have hA2 := trodAll_mk2 (enc := enc) (w := W') (base := 0) (spare := fun b => decide (b < W.heap.size)) (held := true) (Below.trod laidOut (by kernel_rfl) (of_decide_eq_true (by kernel_rfl)) k0 hb b0) (Below.trod laidOut (by kernel_rfl) (of_decide_eq_true (by kernel_rfl)) k1 hb b1)
  exact ⟨_, rfl, _, _, _, [], _, [], hW', trodAll_cons_mk (shut_bool Try.underlying4 _) trodAll_mk0, hA2, rfl, hb.frame _, fun h => by cases h⟩
theorem FnExactSameLines_holds : Rows.FnExactSameLinesSaid :=
  OpenClaim.holds_of_wide 11 Try.f11 rfl rfl rfl rfl rfl rfl rfl ⟨rfl, rfl, rfl, rfl, rfl⟩ rfl rfl rfl rfl rfl (by kernel_rfl) Try.func11 (by kernel_rfl)
    (of_decide_eq_true (by kernel_rfl)) (by unfold Func.isWrapper; first | (rw [if_pos (by decide +kernel)]; kernel_rfl) | (rw [if_neg (by decide +kernel)]; exact ⟨rfl, rfl⟩))
    (fun os started H enc _ => FnExactSameLines_lifted os started H enc)
end Go.Proofs.Ytchpnjihhncfmaa
