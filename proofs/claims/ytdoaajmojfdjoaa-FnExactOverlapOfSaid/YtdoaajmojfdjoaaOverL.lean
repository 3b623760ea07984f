/- Of any two lists of numbers the program tells the sum of their products just where the model tells it, and the same; the lists are not changed: for all arguments. -/
import Derived.Test.YtdoaajmojfdjoaaOver
namespace Go.Proofs.Ytdoaajmojfdjoaa
open Go Go.ChangeShapes Go.WideShapes Go.ChangeAt Go.RowKit

set_option maxHeartbeats 3200000 in
theorem lawOverlapOf_any (W : World) (xa : Option Addr) (n cx : Nat) (X : Nat → Nat) (hX : Rd W xa n X) (ya : Option Addr) (n' cy : Nat) (Y : Nat → Nat) (hY : Rd W ya n' Y) :
    Calls Try.prog 14 #[.slice xa n cx, .slice ya n' cy] W fun e w' => e = .returned (.bool true) ∧ Below W.heap.size W w' := by
  have HB := Blw.refl W
  by_cases h1 : n ≤ 1048576
  · by_cases h2 : n' ≤ 1048576
    · have hc : ∀ R s t, canon .f64 (pick .f64 (fconv .f32 (pick .f32 R s) .f64) t) = canon .f64 (fconv .f32 R .f64) := fun R s t => by rw [canon_pick, fconv_pick]
      go_enter Try.func14, Try.ntmps14
      go_wp2_with fail
      refine (toF_any _ _ _ _ _ (by exact hX) h1).mono ?_
      rintro e0 w0 ⟨rfl, O0, B0⟩
      have X1 := rd_copied O0
      replace hX := Rd.below (by exact hX) B0
      replace hY := Rd.below (by exact hY) B0
      replace HB := Blw.next (by exact HB) B0
      clear O0 B0
      go_wp2_with fail
      refine (toF_any _ _ _ _ _ (by exact hY) h2).mono ?_
      rintro e0 w0 ⟨rfl, O0, B0⟩
      have Y1 := rd_copied O0
      replace hX := Rd.below (by exact hX) B0
      replace hY := Rd.below (by exact hY) B0
      replace X1 := Rd.below (by exact X1) B0
      replace HB := Blw.next (by exact HB) B0
      clear O0 B0
      go_wp2_with fail
      refine (specOver_any _ _ _ _ _ _ X Y _ (by exact X1) (by exact Y1) h1 h2).mono ?_
      rintro e0 w0 ⟨s1, q, rfl, rfl⟩
      clear X1 Y1
      go_wp2_with fail
      refine (toF_any _ _ _ _ _ (by exact hX) h1).mono ?_
      rintro e0 w0 ⟨rfl, O0, B0⟩
      have X2 := rd_copied O0
      replace hX := Rd.below (by exact hX) B0
      replace hY := Rd.below (by exact hY) B0
      replace HB := Blw.next (by exact HB) B0
      clear O0 B0
      go_wp2_with fail
      refine (toF_any _ _ _ _ _ (by exact hY) h2).mono ?_
      rintro e0 w0 ⟨rfl, O0, B0⟩
      have Y2 := rd_copied O0
      replace hX := Rd.below (by exact hX) B0
      replace hY := Rd.below (by exact hY) B0
      replace X2 := Rd.below (by exact X2) B0
      replace HB := Blw.next (by exact HB) B0
      clear O0 B0
      go_wp2_with fail
      refine (implOver_any _ _ _ _ _ _ X Y _ (by exact X2) (by exact Y2) h1 h2).mono ?_
      rintro e0 w0 ⟨s2, q, rfl, rfl⟩
      go_wp2_with (first | ((with_reducible refine wpL_fconv ?_); refine ⟨_, _, _, rfl, Option.isSome_iff_exists.2 ⟨_, Try.underlying32⟩, Try.underlying36, FloatKind.noConfusion, convOk_widen _, fun s n => ?_⟩) | (go_at_call 24; refine (sameFloat_any _ _ _ ((hc _ _ _).trans (hc _ _ _).symm)).mono ?_; rintro e w' ⟨rfl, q, rfl⟩))
      go_wp2_with fail
      refine (toF_any _ _ _ _ _ (by exact hX) h1).mono ?_
      rintro e0 w0 ⟨rfl, O0, B0⟩
      have X3 := rd_copied O0
      replace hX := Rd.below (by exact hX) B0
      replace hY := Rd.below (by exact hY) B0
      replace X2 := Rd.below (by exact X2) B0
      replace Y2 := Rd.below (by exact Y2) B0
      replace HB := Blw.next (by exact HB) B0
      clear O0 B0
      go_wp2_with fail
      refine (eqF_any _ _ _ _ _ X X _ (by exact X2) (by exact X3) h1 (fun _ _ => rfl)).mono ?_
      rintro e0 w0 ⟨rfl, q, rfl⟩
      clear X2 X3
      go_wp2_with fail
      refine (toF_any _ _ _ _ _ (by exact hY) h2).mono ?_
      rintro e0 w0 ⟨rfl, O0, B0⟩
      have Y3 := rd_copied O0
      replace hX := Rd.below (by exact hX) B0
      replace hY := Rd.below (by exact hY) B0
      replace Y2 := Rd.below (by exact Y2) B0
      replace HB := Blw.next (by exact HB) B0
      clear O0 B0
      go_wp2_with fail
      refine (eqF_any _ _ _ _ _ Y Y _ (by exact Y2) (by exact Y3) h2 (fun _ _ => rfl)).mono ?_
      rintro e0 w0 ⟨rfl, q, rfl⟩
      go_wp2
      go_ret
      exact ⟨rfl, Blw.out (by exact HB)⟩
    · have h2' : (1048576 : Int) < (n' : Int) := by omega
      go_enter Try.func14, Try.ntmps14
      go_wp2
      go_ret
      exact ⟨rfl, HB.out⟩
  · have h1' : (1048576 : Int) < (n : Int) := by omega
    go_enter Try.func14, Try.ntmps14
    go_wp2
    go_ret
    exact ⟨rfl, HB.out⟩
set_option maxRecDepth 100000 in
theorem FnExactOverlapOf_lifted (os : Os) (started : os.Started) (H : Type) (enc : TypeId × Value → H) :
    ReturnsInHanded {} Try.checked os 14 .any (Rows.fnExactOverlapOfSpec.pre6 enc Try.prog Try.f14 Rows.fnExactOverlapOfRow.domain false) (Rows.fnExactOverlapOfSpec.post enc Try.prog Try.f14 false true false false) := by
  refine returnsInHanded_of_change (C := Try.checked) ownKnob_none started (by kernel_rfl) Try.func14
    (ChangeSpec.witness6 (enc := enc) (C := Try.checked) false ⟨#[], #[.slice none 0 0, .slice none 0 0], []⟩ 8 (by kernel_rfl) (by kernel_rfl) (by kernel_rfl) (by kernel_rfl)) ?_
  intro W base args ds gs before hval0 hW _ _
  have hval : ∀ (j : Nat) t v, Try.f14.params[j]? = some t → args[j]? = some v → Value.okWide Try.prog W .any base t v := hval0
  have hW' := hW
  obtain ⟨p, q, hA0, hV, rfl, _, _⟩ := hW
  have hA : DataW.TrodAll enc Try.prog W 0 (fun _ => true) true Try.f14.params.toList args.toList ds p := hA0
  rw [Try.params14] at hA hval
  obtain ⟨v0, v1, d0, d1, p0, p1, rfl, rfl, rfl, h0, h1⟩ := trodAll_two hA
  obtain ⟨rfl, rfl⟩ := trodVars_none hV
  obtain ⟨x0, n0, c0, rfl⟩ := okWide_slice Try.underlying22 (hval 0 22 v0 rfl rfl)
  have k0 := h0
  obtain ⟨_, _, a0, w0, _⟩ := open_f32s Try.underlying22 Try.underlying32 cellsF h0
  have b0 : ∀ x ∈ p0, x.block < W.heap.size := fun x hx => by have := hW'.lt x (by simp [hx]); simpa using this
  obtain ⟨x1, n1, c1, rfl⟩ := okWide_slice Try.underlying22 (hval 1 22 v1 rfl rfl)
  have k1 := h1
  obtain ⟨_, _, a1, w1, _⟩ := open_f32s Try.underlying22 Try.underlying32 cellsF h1
  have b1 : ∀ x ∈ p1, x.block < W.heap.size := fun x hx => by have := hW'.lt x (by simp [hx]); simpa using this
  clear hA0 hval0
  refine (lawOverlapOf_any W x0 n0 c0 a0 w0 x1 n1 c1 a1 w1).mono fun e W' ⟨he, hb⟩ => ?_
  subst he
  have hA2 := trodAll_mk2 (Below.trod laidOut (by kernel_rfl) (of_decide_eq_true (by kernel_rfl)) k0 hb b0) (Below.trod laidOut (by kernel_rfl) (of_decide_eq_true (by kernel_rfl)) k1 hb b1)
  exact ⟨_, rfl, _, _, _, [], _, [], hW', trodAll_cons_mk (shut_bool Try.underlying4 _) trodAll_mk0, hA2, rfl, hb.frame _, fun h => by cases h⟩
theorem FnExactOverlapOf_holds : Rows.FnExactOverlapOfSaid :=
  OpenClaim.holds_of_wide 14 Try.f14 rfl rfl rfl rfl rfl rfl rfl ⟨rfl, rfl, rfl, rfl, rfl⟩ rfl rfl rfl rfl rfl (by kernel_rfl) Try.func14 (by kernel_rfl)
    (of_decide_eq_true (by kernel_rfl)) (by unfold Func.isWrapper; first | (rw [if_pos (by decide +kernel)]; kernel_rfl) | (rw [if_neg (by decide +kernel)]; exact ⟨rfl, rfl⟩))
    (fun os started H enc _ => FnExactOverlapOf_lifted os started H enc)
end Go.Proofs.Ytdoaajmojfdjoaa
