/- For any steps and any place the program tells the height just where the model does, and the same; the steps are not changed: for all arguments. -/
import Derived.Test.YtdoaajmojfdjoaaHt
namespace Go.Proofs.Ytdoaajmojfdjoaa
open Go Go.ChangeShapes Go.WideShapes Go.ChangeAt Go.RowKit

set_option maxHeartbeats 3200000 in
theorem lawHeightAt_any (W : World) (xa : Option Addr) (n cx : Nat) (ya : Option Addr) (m cy : Nat) (X Y : Nat → Nat) (h : Rd W xa n X ∧ Rd W ya m Y ∧ n ≤ maxLen ∧ m ≤ maxLen) (x : Nat) (_ : (Lit.float .f32 x).wf = true) :
    Calls Try.prog 5 #[.agg #[.slice xa n cx, .slice ya m cy], .float .f32 x] W fun e w' => e = .returned (.bool true) ∧ Below W.heap.size W w' := by
  obtain ⟨hX, hY, hn, hm⟩ := h
  have HB := Blw.refl W
  by_cases hs : (n : Int) + m ≤ 1048576
  · have h1 : n ≤ 1048576 := by omega
    have h2 : m ≤ 1048576 := by omega
    clear hn hm
    obtain ⟨r, ok, hspec, himpl⟩ : ∃ r ok, (∀ xa ya cx cy w, Rd w xa n X → Rd w ya m Y → Calls Try.prog 22 #[.agg #[.slice xa n cx, .slice ya m cy], .float .f32 x] w (HtRet r ok w)) ∧ (∀ xa ya cx cy w, Rd w xa n X → Rd w ya m Y → Calls Try.prog 23 #[.agg #[.slice xa n cx, .slice ya m cy], .float .f32 x] w (HtRet r ok w)) := by
      by_cases h : stepsOk X n Y m = true ∧ isFin .f32 x = true
      · exact ⟨_, _, fun xa ya cx cy w hX hY => specHt_yes xa ya n m cx cy X Y x w hX hY h.1 h.2, fun xa ya cx cy w hX hY => implHt_yes xa ya n m cx cy X Y x w hX hY h.1 h.2⟩
      · have h' : stepsOk X n Y m = false ∨ isFin .f32 x = false := by
          cases hs1 : stepsOk X n Y m
          · exact .inl rfl
          · cases hs2 : isFin .f32 x
            · exact .inr rfl
            · exact absurd ⟨hs1, hs2⟩ h
        exact ⟨_, _, fun xa ya cx cy w hX hY => specHt_no xa ya n m cx cy X Y x w hX hY h1 h2 h', fun xa ya cx cy w hX hY => implHt_no xa ya n m cx cy X Y x w hX hY h1 h2 h'⟩
    have HS := Lib.hid hspec
    have HI := Lib.hid himpl
    have hcv := fun s t => same64 (rfl : canon .f32 r = canon .f32 r) s t
    clear hspec himpl
    have hs' : (0 : Int) ≤ 1048576 - n - m := by omega
    have HA := Blw.next HB ((Below.refl _ _).alloc (Nat.le_refl _) (.cells #[.slice xa n cx, .slice ya m cy] 24))
    go_enter Try.func5, Try.ntmps5
    go_wp2_with fail
    refine (szSteps_yes _ _ n m cx cy _ _ hs (by omega)).mono ?_
    rintro e0 w0 ⟨rfl, B0⟩
    have HQ := (box2_alloc W (.slice xa n cx) (.slice ya m cy) 24).below B0
    replace hX := (hX.alloc _).below B0
    replace hY := (hY.alloc _).below B0
    replace HB := HA.next B0
    clear B0 HA
    obtain ⟨q0, q1⟩ := HQ
    go_wp2_with fail
    refine (toSteps_any _ _ _ _ _ _ X Y _ hX hY h1 h2).mono ?_
    rintro e0 w1 ⟨g0, g1, rfl, O0, O1, _, B0⟩
    have X1 := rd_own O0
    have Y1 := rd_own O1
    have HQ := Box2.below ⟨q0, q1⟩ B0
    replace hX := hX.below B0
    replace hY := hY.below B0
    replace HB := HB.next B0
    clear B0 O0 O1 q0 q1
    obtain ⟨q0, q1⟩ := HQ
    go_wp2_with fail
    refine (HS.out _ _ _ _ _ X1 Y1).mono ?_
    rintro e0 w2 ⟨rfl, B0⟩
    have HQ := Box2.below ⟨q0, q1⟩ B0
    replace hX := hX.below B0
    replace hY := hY.below B0
    replace HB := HB.next B0
    clear B0 X1 Y1 q0 q1
    obtain ⟨q0, q1⟩ := HQ
    go_wp2_with fail
    refine (toSteps_any _ _ _ _ _ _ X Y _ hX hY h1 h2).mono ?_
    rintro e0 w3 ⟨g2, g3, rfl, O0, O1, _, B0⟩
    have X1 := rd_own O0
    have Y1 := rd_own O1
    have HQ := Box2.below ⟨q0, q1⟩ B0
    replace hX := hX.below B0
    replace hY := hY.below B0
    replace HB := HB.next B0
    clear B0 O0 O1 q0 q1
    obtain ⟨q0, q1⟩ := HQ
    go_wp2_with fail
    have HP := box2_alloc w3 (.slice (some ⟨g2, 0, none⟩) n n) (.slice (some ⟨g3, 0, none⟩) m m) 27
    have HQ := Box2.below ⟨q0, q1⟩ ((Below.refl _ w3).alloc (Nat.le_refl _) (.cells #[.slice (some ⟨g2, 0, none⟩) n n, .slice (some ⟨g3, 0, none⟩) m m] 27))
    have hX3 := hX.alloc (.cells #[.slice (some ⟨g2, 0, none⟩) n n, .slice (some ⟨g3, 0, none⟩) m m] 27)
    have hY3 := hY.alloc (.cells #[.slice (some ⟨g2, 0, none⟩) n n, .slice (some ⟨g3, 0, none⟩) m m] 27)
    have X3 := X1.alloc (.cells #[.slice (some ⟨g2, 0, none⟩) n n, .slice (some ⟨g3, 0, none⟩) m m] 27)
    have Y3 := Y1.alloc (.cells #[.slice (some ⟨g2, 0, none⟩) n n, .slice (some ⟨g3, 0, none⟩) m m] 27)
    replace HB := HB.next ((Below.refl _ w3).alloc (Nat.le_refl _) (.cells #[.slice (some ⟨g2, 0, none⟩) n n, .slice (some ⟨g3, 0, none⟩) m m] 27))
    clear hX hY X1 Y1 q0 q1
    refine (HI.out _ _ _ _ _ X3 Y3).mono ?_
    rintro e0 w4 ⟨rfl, B0⟩
    replace HQ := Box2.below HQ B0
    replace HP := Box2.below HP B0
    replace hX := hX3.below B0
    replace hY := hY3.below B0
    replace X3 := X3.below B0
    replace Y3 := Y3.below B0
    replace HB := HB.next B0
    clear B0 hX3 hY3
    obtain ⟨q0, q1⟩ := HQ
    obtain ⟨p0, p1⟩ := HP
    go_wp2_with (first | ((with_reducible refine wpL_fconv ?_); refine ⟨_, _, _, rfl, Option.isSome_iff_exists.2 ⟨_, Try.underlying32⟩, Try.underlying36, FloatKind.noConfusion, convOk_widen _, fun s n => ?_⟩) | (go_at_call 24; refine (sameFloat_any _ _ _ (hcv _ _)).mono ?_; rintro e w' ⟨rfl, q, rfl⟩))
    go_region_with (first
      | (go_at_call 17; refine (toSteps_any _ _ _ _ _ _ X Y _ (by exact hX) (by exact hY) h1 h2).mono ?_; rintro e0 w5 ⟨g4, g5, rfl, O0, O1, _, B0⟩; have X4 := rd_own O0; have Y4 := rd_own O1; have X5 := Rd.below (by exact X3) B0; have Y5 := Rd.below (by exact Y3) B0; have HB5 := Blw.next (by exact HB) B0; obtain ⟨p2, p3⟩ := Box2.below (by exact ⟨p0, p1⟩) B0; clear B0 O0 O1)
      | (go_at_call 19; refine (eqSteps_any _ _ _ _ _ _ _ _ _ _ X Y _ (by exact X5) (by exact Y5) (by exact X4) (by exact Y4) h1 h2).mono ?_; rintro e0 w6 ⟨rfl, B0⟩; have HB6 := Blw.next (by exact HB5) B0; clear B0))
    all_goals go_wp2
    all_goals go_ret
    all_goals exact ⟨rfl, Blw.out (by exact HB6)⟩
  · have hs' : (1048576 : Int) < (n : Int) + m := by omega
    have HA := Blw.next HB ((Below.refl _ _).alloc (Nat.le_refl _) (.cells #[.slice xa n cx, .slice ya m cy] 24))
    go_enter Try.func5, Try.ntmps5
    go_wp2_with fail
    refine (szSteps_no _ _ n m cx cy _ _ hs' (by omega) (by omega) hn hm).mono ?_
    rintro e0 w0 ⟨rfl, B0⟩
    replace HB := HA.next B0
    go_wp2
    go_ret
    exact ⟨rfl, HB.out⟩
set_option maxRecDepth 100000 in
theorem FnExactHeightAt_lifted (os : Os) (started : os.Started) (H : Type) (enc : TypeId × Value → H) :
    ReturnsInHanded {} Try.checked os 5 .any (Rows.fnExactHeightAtSpec.pre6 enc Try.prog Try.f5 Rows.fnExactHeightAtRow.domain false) (Rows.fnExactHeightAtSpec.post enc Try.prog Try.f5 false true false false) := by
  refine returnsInHanded_of_change (C := Try.checked) ownKnob_none started (by kernel_rfl) Try.func5
    (ChangeSpec.witness6 (enc := enc) (C := Try.checked) false ⟨#[], #[.agg #[.slice none 0 0, .slice none 0 0], .float .f32 0], []⟩ 8 (by kernel_rfl) (by kernel_rfl) (by kernel_rfl) (by kernel_rfl)) ?_
  intro W base args ds gs before hval0 hW _ _
  have hval : ∀ (j : Nat) t v, Try.f5.params[j]? = some t → args[j]? = some v → Value.okWide Try.prog W .any base t v := hval0
  have hW' := hW
  obtain ⟨p, q, hA0, hV, rfl, _, _⟩ := hW
  have hA : DataW.TrodAll enc Try.prog W 0 (fun _ => true) true Try.f5.params.toList args.toList ds p := hA0
  rw [Try.params5] at hA hval
  obtain ⟨v0, v1, d0, d1, p0, p1, rfl, rfl, rfl, h0, h1⟩ := trodAll_two hA
  obtain ⟨rfl, rfl⟩ := trodVars_none hV
  have k0 := h0
  obtain ⟨x0, n0, c0, y0, m0, e0, X0, Y0, rfl, w0⟩ := open_st (hval 0 24 v0 rfl rfl) h0
  have b0 : ∀ x ∈ p0, x.block < W.heap.size := fun x hx => by have := hW'.lt x (by simp [hx]); simpa using this
  obtain ⟨a1, rfl, rfl, rfl, w1⟩ := open_float Try.underlying32 (hval 1 32 v1 rfl rfl) h1
  clear hA0 hval0
  refine (lawHeightAt_any W x0 n0 c0 y0 m0 e0 X0 Y0 w0 a1 w1).mono fun e W' ⟨he, hb⟩ => ?_
  subst he
  have hA2 := trodAll_mk2 (enc := enc) (w := W') (base := 0) (spare := fun b => decide (b < W.heap.size)) (held := true) (Below.trod laidOut (by kernel_rfl) (of_decide_eq_true (by kernel_rfl)) k0 hb b0) (shut_float Try.underlying32 w1)
  exact ⟨_, rfl, _, _, _, [], _, [], hW', trodAll_cons_mk (shut_bool Try.underlying4 _) trodAll_mk0, hA2, rfl, hb.frame _, fun h => by cases h⟩
theorem FnExactHeightAt_holds : Rows.FnExactHeightAtSaid :=
  OpenClaim.holds_of_wide 5 Try.f5 rfl rfl rfl rfl rfl rfl rfl ⟨rfl, rfl, rfl, rfl, rfl⟩ rfl rfl rfl rfl rfl (by kernel_rfl) Try.func5 (by kernel_rfl)
    (of_decide_eq_true (by kernel_rfl)) (by unfold Func.isWrapper; first | (rw [if_pos (by decide +kernel)]; kernel_rfl) | (rw [if_neg (by decide +kernel)]; exact ⟨rfl, rfl⟩))
    (fun os started H enc _ => FnExactHeightAt_lifted os started H enc)
end Go.Proofs.Ytdoaajmojfdjoaa
