/- Of any levels and edges the program says that they are such just where the model does; the edges are not changed: for all arguments. -/
import Derived.Test.YtaobjilnbbpmeabAei
namespace Go.Proofs.Ytaobjilnbbpmeab
open Go Go.ChangeShapes Go.WideShapes Go.ChangeAt Go.RowKit

set_option maxRecDepth 100000 in
set_option maxHeartbeats 800000 in
theorem specAE_any (L : Int) (h : (Lit.int .i64 L).wf = true) (xa : Option Addr) (n cap : Nat) (X : Nat → Ed) (w : World) (hX : RdE w xa n X) (hn : n ≤ 1048576) (R : Bool) (hR : Hid (R = okEds L X n)) :
    Calls Try.prog 43 #[.int .i64 L, .slice xa n cap] w fun e w' => e = .returned (.bool R) ∧ ∃ m, w' = w.drewN m := by
  go_enter Try.func43, Try.ntmps43
  go_wp2_with (go_at_call 92; refine (specEds_any L h _ _ _ X _ hX hn R hR).mono ?_; rintro e w' ⟨rfl, q, rfl⟩)
  go_ret
  exact ⟨rfl, _, rfl⟩
set_option maxRecDepth 100000 in
set_option maxHeartbeats 3200000 in
theorem lawAreEdges_any (W : World) (L : Int) (hL : (Lit.int .i64 L).wf = true) (xa : Option Addr) (n cap : Nat) (X : Nat → Ed) (hX : RdE W xa n X) (hmx : n ≤ maxLen) :
    Calls Try.prog 10 #[.int .i64 L, .slice xa n cap] W fun e w' => e = .returned (.bool true) ∧ Below W.heap.size W w' := by
  by_cases hn : n ≤ 1048576
  · obtain ⟨R, hR⟩ : ∃ R, R = okEds L X n := ⟨_, rfl⟩
    have HS := Lib.hid (fun xa cap w hX => specAE_any L hL xa n cap X w hX hn R (Lib.hid hR))
    have HI := Lib.hid (fun xa cap w hX => implAE_any L hL xa n cap X w hX hn R (Lib.hid hR))
    clear hR
    have hne : (R != R) = false := by simp
    have hs1 : (0 : Int) ≤ 1048576 - n := by omega
    have HB := Blw.refl W
    go_enter Try.func10, Try.ntmps10
    go_wp2_with (go_at_call 42; go_in)
    refine (toE_any _ _ _ X _ (by exact hX.below (Blw.out (by exact HB))) hn).mono ?_
    rintro e0 w0 ⟨rfl, O0, B0⟩
    replace HB := Blw.next (by exact HB) B0
    have T0 := rdE_own O0
    clear O0 B0
    go_wp2_with fail
    refine (HS.out _ _ _ (by exact T0)).mono ?_
    rintro e0 w1 ⟨rfl, q, rfl⟩
    clear T0
    have BD := Below.drewN (Below.refl w0.heap.size w0) q
    replace HB := Blw.next (by exact HB) BD
    clear BD
    go_wp2_with fail
    refine (toE_any _ _ _ X _ (by exact hX.below (Blw.out (by exact HB))) hn).mono ?_
    rintro e0 w2 ⟨rfl, O0, B0⟩
    replace HB := Blw.next (by exact HB) B0
    have T0 := rdE_own O0
    clear O0 B0
    go_wp2_with fail
    refine (HI.out _ _ _ (by exact T0)).mono ?_
    rintro e0 w3 ⟨rfl, B0⟩
    replace HB := Blw.next (by exact HB) B0
    have T1 := RdE.below T0 B0
    clear T0 B0
    go_wp2_with fail
    refine (toE_any _ _ _ X _ (by exact hX.below (Blw.out (by exact HB))) hn).mono ?_
    rintro e0 w4 ⟨rfl, O0, B0⟩
    replace HB := Blw.next (by exact HB) B0
    have T2 := rdE_own O0
    have T3 := RdE.below T1 B0
    clear O0 B0 T1
    go_wp2_with fail
    refine (eqE_any _ _ _ _ _ X _ (by exact T3) (by exact T2) hn).mono ?_
    rintro e0 w5 ⟨rfl, B0⟩
    replace HB := Blw.next (by exact HB) B0
    clear B0 T2 T3
    go_wp2
    go_ret
    exact ⟨rfl, Blw.out (by exact HB)⟩
  · unfold maxLen at hmx
    have h' : (1048576 : Int) - (n : Int) < 0 := by omega
    go_enter Try.func10, Try.ntmps10
    go_wp2_with (go_at_call 42; go_in)
    go_ret
    exact ⟨rfl, (Blw.refl W).out⟩
set_option maxRecDepth 100000 in
theorem FnExactAreEdges_lifted (os : Os) (started : os.Started) (H : Type) (enc : TypeId × Value → H) :
    ReturnsInHanded {} Try.checked os 10 .any (Rows.fnExactAreEdgesSpec.pre6 enc Try.prog Try.f10 Rows.fnExactAreEdgesRow.domain false) (Rows.fnExactAreEdgesSpec.post enc Try.prog Try.f10 false true false false) := by
  refine returnsInHanded_of_change (C := Try.checked) ownKnob_none started (by kernel_rfl) Try.func10
    (ChangeSpec.witness6 (enc := enc) (C := Try.checked) false ⟨#[], #[.int .i64 0, .slice none 0 0], []⟩ 8 (by kernel_rfl) (by kernel_rfl) (by kernel_rfl) (by kernel_rfl)) ?_
  intro W base args ds gs before hval0 hW _ _
  have hval : ∀ (j : Nat) t v, Try.f10.params[j]? = some t → args[j]? = some v → Value.okWide Try.prog W .any base t v := hval0
  have hW' := hW
  obtain ⟨p, q, hA0, hV, rfl, _, _⟩ := hW
  have hA : DataW.TrodAll enc Try.prog W 0 (fun _ => true) true Try.f10.params.toList args.toList ds p := hA0
  rw [Try.params10] at hA hval
  obtain ⟨v0, v1, d0, d1, p0, p1, rfl, rfl, rfl, h0, h1⟩ := trodAll_two hA
  obtain ⟨rfl, rfl⟩ := trodVars_none hV
  obtain ⟨a0, rfl, rfl, rfl, w0⟩ := open_int Try.underlying2 (hval 0 2 v0 rfl rfl) h0
  obtain ⟨x1, n1, c1, rfl⟩ := okWide_slice Try.underlying56 (hval 1 56 v1 rfl rfl)
  have k1 := h1
  obtain ⟨lc1, cm1, a1, w1, g1⟩ := open_eds h1
  have b1 : ∀ x ∈ p1, x.block < W.heap.size := fun x hx => by have := hW'.lt x (by simp [hx]); simpa using this
  clear hA0 hval0
  refine (lawAreEdges_any W a0 w0 x1 n1 c1 a1 w1 (Nat.le_trans lc1 cm1)).mono fun e W' ⟨he, hb⟩ => ?_
  subst he
  have hA2 := trodAll_mk2 (enc := enc) (w := W') (base := 0) (spare := fun b => decide (b < W.heap.size)) (held := true) (shut_int Try.underlying2 w0) (Below.trod laidOut (by kernel_rfl) (of_decide_eq_true (by kernel_rfl)) k1 hb b1)
  exact ⟨_, rfl, _, _, _, [], _, [], hW', trodAll_cons_mk (shut_bool Try.underlying4 _) trodAll_mk0, hA2, rfl, hb.frame _, fun h => by cases h⟩
theorem FnExactAreEdges_holds : Rows.FnExactAreEdgesSaid :=
  OpenClaim.holds_of_wide 10 Try.f10 rfl rfl rfl rfl rfl rfl rfl ⟨rfl, rfl, rfl, rfl, rfl⟩ rfl rfl rfl rfl rfl (by kernel_rfl) Try.func10 (by kernel_rfl)
    (of_decide_eq_true (by kernel_rfl)) (by unfold Func.isWrapper; first | (rw [if_pos (by decide +kernel)]; kernel_rfl) | (rw [if_neg (by decide +kernel)]; exact ⟨rfl, rfl⟩))
    (fun os started H enc _ => FnExactAreEdges_lifted os started H enc)
end Go.Proofs.Ytaobjilnbbpmeab
