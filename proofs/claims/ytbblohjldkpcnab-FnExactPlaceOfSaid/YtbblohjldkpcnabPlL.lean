
/- Of any curve and wave the program tells the same place as the model does; the curve is not changed: for all arguments. -/
import Derived.Test.YtbblohjldkpcnabPlW
import Derived.Test.YtbblohjldkpcnabPlN
import Derived.Test.YtbblohjldkpcnabLiC
import Derived.Test.YtbblohjldkpcnabLaw
namespace Go.Proofs.Ytbblohjldkpcnab
open Go Go.ChangeShapes Go.WideShapes Go.ChangeAt Go.RowKit
set_option linter.all false

set_option maxRecDepth 100000 in
set_option maxHeartbeats 3200000 in
theorem implPl_no (xa : Option Addr) (n cx wave lo hi : Nat) (N : Int) (w : World) (hk : ((isFin .f32 wave && !geF lo hi) && inB N 1 32) = false) :
    Calls Try.prog 35 #[.slice xa n cx, .float .f32 wave, .float .f32 lo, .float .f32 hi, .int .i64 N] w (NRet 0 false w) := by
  have HB : ∀ q, Below w.heap.size w (((w.alloc (Obj.cells #[Value.slice xa n cx] 24)).alloc (Obj.cells #[Value.float FloatKind.f32 wave] 43)).drewN q) := fun q => Below.drewN (((Below.refl _ _).alloc (Nat.le_refl _) _).alloc (by simp) _) q
  cases k2 : isFin .f32 wave
  · clear hk
    go_enter Try.func35, Try.ntmps35
    go_wp2_with fail
    refine (IsFinite_any _ _).mono ?_
    rw [k2]
    rintro e w1 ⟨rfl, q1, rfl⟩
    go_wp2
    go_ret2
    exact ⟨0, by rw [pick_nul]; rfl, HB _⟩
  cases k5 : geF lo hi
  rotate_left
  · have h5 : (FloatKind.f32.format.order lo hi == some .gt || FloatKind.f32.format.order lo hi == some .eq) = true := k5
    clear hk k5
    go_enter Try.func35, Try.ntmps35
    go_wp2_with fail
    refine (IsFinite_any _ _).mono ?_
    rw [k2]
    rintro e w1 ⟨rfl, q1, rfl⟩
    go_wp2
    go_ret2
    exact ⟨0, by rw [pick_nul]; rfl, HB _⟩
  have h5 : (FloatKind.f32.format.order lo hi == some .gt || FloatKind.f32.format.order lo hi == some .eq) = false := k5
  rw [k2, k5] at hk
  have hN : N < 1 ∨ 32 < N := by
    simp only [Bool.not_false, Bool.and_true, Bool.true_and, inB, Bool.and_eq_false_iff, decide_eq_false_iff_not] at hk
    omega
  clear hk k5
  rcases hN with hN | hN
  · go_enter Try.func35, Try.ntmps35
    go_wp2_with fail
    refine (IsFinite_any _ _).mono ?_
    rw [k2]
    rintro e w1 ⟨rfl, q1, rfl⟩
    go_wp2
    go_ret2
    exact ⟨0, by rw [pick_nul]; rfl, HB _⟩
  · go_enter Try.func35, Try.ntmps35
    go_wp2_with fail
    refine (IsFinite_any _ _).mono ?_
    rw [k2]
    rintro e w1 ⟨rfl, q1, rfl⟩
    go_wp2
    go_ret2
    exact ⟨0, by rw [pick_nul]; rfl, HB _⟩
/-- What is told of PlaceOf. -/
def RetPlaceOf (r0 : Nat) (r1 : Bool) (w : World) (e : Ending) (w' : World) : Prop := ∃ (s0 : Nat), e = .returned (.tuple #[.float .f32 (pick .f32 r0 s0), .bool r1]) ∧ Below w.heap.size w w'
theorem NRet.pl {R : Nat} {ok : Bool} {w w' : World} {e : Ending} (h : NRet R ok w e w') : RetPlaceOf R ok w e w' := by
  obtain ⟨s, h1, h2⟩ := h
  exact ⟨s, h1, h2⟩
theorem bothPlaceOf (n0 : Nat) (X0 : Nat → Nat) (h0 : n0 ≤ 1048576) (a1 : Nat) (_ : (Lit.float .f32 a1).wf = true) (a2 : Nat) (_ : (Lit.float .f32 a2).wf = true) (a3 : Nat) (_ : (Lit.float .f32 a3).wf = true) (a4 : Int) (_ : (Lit.int .i64 a4).wf = true) : ∃ (R : Nat) (ok : Bool),
    (∀ (x0 : Option Addr) (c0 : Nat) (w : World), Rd w x0 n0 X0 → Calls Try.prog 34 #[.slice x0 n0 c0, .float .f32 a1, .float .f32 a2, .float .f32 a3, .int .i64 a4] w (RetPlaceOf R ok w)) ∧
    ∀ (x0 : Option Addr) (c0 : Nat) (w : World), Rd w x0 n0 X0 → Calls Try.prog 35 #[.slice x0 n0 c0, .float .f32 a1, .float .f32 a2, .float .f32 a3, .int .i64 a4] w (RetPlaceOf R ok w) := by
  rename_i g1 g2 g3 g4
  have hlo := f32_lt g2
  have hhi := f32_lt g3
  cases hk : ((isFin .f32 a1 && !geF a2 a3) && inB a4 1 32)
  · have hpre : (plQ X0 n0 a1 a2 a3 a4 && plB X0 n0 a1 a2 a3) = false := by
      cases h : plQ X0 n0 a1 a2 a3 a4
      · rfl
      · unfold plQ at h
        simp only [Bool.and_eq_true] at h
        obtain ⟨⟨⟨⟨⟨_, k2⟩, _⟩, _⟩, k5⟩, k6⟩ := h
        rw [k2, k5, k6] at hk
        cases hk
    exact ⟨0, false, fun x0 c0 w hX => (specPl_no x0 n0 c0 a1 a2 a3 a4 X0 w hX h0 hpre).mono fun e w' h => h.pl, fun x0 c0 w hX => (implPl_no x0 n0 c0 a1 a2 a3 a4 w hk).mono fun e w' h => h.pl⟩
  · have hk' := hk
    simp only [Bool.and_eq_true] at hk'
    obtain ⟨⟨k2, k5⟩, k6⟩ := hk'
    have k5' : geF a2 a3 = false := by simpa using k5
    obtain ⟨N, rfl⟩ : ∃ N : Nat, a4 = (N : Int) := ⟨a4.toNat, by simp only [inB, Bool.and_eq_true, decide_eq_true_eq] at k6; omega⟩
    cases hpre : (plQ X0 n0 a1 a2 a3 (N : Int) && plB X0 n0 a1 a2 a3)
    · exact ⟨0, false, fun x0 c0 w hX => (specPl_no x0 n0 c0 a1 a2 a3 N X0 w hX h0 hpre).mono fun e w' h => h.pl,
        fun x0 c0 w hX => (implPl_main x0 n0 c0 a1 a2 a3 N X0 w hX h0 hlo hhi k2 k5' k6 0 false (Lib.hid fun _ => ⟨rfl, rfl⟩) (Lib.hid fun h => by rw [hpre] at h; cases h) (Lib.hid fun h => by rw [hpre] at h; cases h)).mono fun e w' h => h.pl⟩
    · have hp2 := hpre
      rw [Bool.and_eq_true] at hp2
      cases hr : plR X0 n0 a1 (lsF (atW X0 n0 a2 n0) a1) N a2 a3 with
      | none =>
        exact ⟨0, false, fun x0 c0 w hX => (specPl_yes x0 n0 c0 a1 a2 a3 N X0 w hX hp2.1 hp2.2 _ rfl 0 false (Lib.hid (by rw [hr]; exact ⟨rfl, rfl⟩))).mono fun e w' h => h.pl,
          fun x0 c0 w hX => (implPl_main x0 n0 c0 a1 a2 a3 N X0 w hX h0 hlo hhi k2 k5' k6 0 false (Lib.hid fun h => by rw [hpre] at h; cases h) (Lib.hid fun _ _ => ⟨rfl, rfl⟩) (Lib.hid fun _ l h hh => by rw [hr] at hh; cases hh)).mono fun e w' h => h.pl⟩
      | some p =>
        obtain ⟨l, h⟩ := p
        exact ⟨numQ (midF l h), isFin .f32 (midF l h), fun x0 c0 w hX => (specPl_yes x0 n0 c0 a1 a2 a3 N X0 w hX hp2.1 hp2.2 _ rfl _ _ (Lib.hid (by rw [hr]; exact ⟨rfl, rfl⟩))).mono fun e w' h => h.pl,
          fun x0 c0 w hX => (implPl_main x0 n0 c0 a1 a2 a3 N X0 w hX h0 hlo hhi k2 k5' k6 _ _ (Lib.hid fun h => by rw [hpre] at h; cases h) (Lib.hid fun _ hh => by rw [hr] at hh; cases hh) (Lib.hid fun _ l' h' hh => by rw [hr] at hh; cases hh; exact ⟨rfl, rfl⟩)).mono fun e w' h => h.pl⟩
set_option maxRecDepth 100000 in
set_option maxHeartbeats 6400000 in
theorem lawPlaceOf_in (W : World) (x0 : Option Addr) (n0 c0 : Nat) (X0 : Nat → Nat) (hX0 : Rd W x0 n0 X0) (a1 : Nat) (_wf1 : (Lit.float .f32 a1).wf = true) (a2 : Nat) (_wf2 : (Lit.float .f32 a2).wf = true) (a3 : Nat) (_wf3 : (Lit.float .f32 a3).wf = true) (a4 : Int) (_wf4 : (Lit.int .i64 a4).wf = true) (h0 : n0 ≤ 1048576) (r0 : Nat) (r1 : Bool) (HS : Hid (∀ (x0 : Option Addr) (c0 : Nat) (w : World), Rd w x0 n0 X0 → Calls Try.prog 34 #[.slice x0 n0 c0, .float .f32 a1, .float .f32 a2, .float .f32 a3, .int .i64 a4] w (RetPlaceOf r0 r1 w))) (HI : Hid (∀ (x0 : Option Addr) (c0 : Nat) (w : World), Rd w x0 n0 X0 → Calls Try.prog 35 #[.slice x0 n0 c0, .float .f32 a1, .float .f32 a2, .float .f32 a3, .int .i64 a4] w (RetPlaceOf r0 r1 w))) :
    Calls Try.prog 7 #[.slice x0 n0 c0, .float .f32 a1, .float .f32 a2, .float .f32 a3, .int .i64 a4] W fun e w' => e = .returned (.bool true) ∧ Below W.heap.size W w' := by
  have hcv := fun (R : Nat) (s t : Nat) => show canon .f64 (pick .f64 (fconv .f32 (pick .f32 R s) .f64) t) = canon .f64 (fconv .f32 R .f64) by rw [canon_pick, fconv_pick]
  have hcw := fun (R : Nat) (s t : Nat) => show canon .f64 (pick .f64 R s) = canon .f64 (pick .f64 R t) by rw [canon_pick, canon_pick]
  have HCV := Lib.hid hcv
  have HCW := Lib.hid hcw
  clear hcv hcw
  have hnb1 : (r1 != r1) = false := by simp
  have HB := Blw.refl W
  go_enter Try.func7, Try.ntmps7
  go_wp2_with fail
  refine (toF_any _ _ _ X0 _ (by exact hX0.below (Blw.out (by exact HB))) h0).mono ?_
  rintro e0 w0 ⟨rfl, O0, B0⟩
  replace HB := Blw.next (by exact HB) B0
  have C0 := O0
  clear O0 B0
  go_wp2_with fail
  refine (HS.out _ _ _ (rd_own (by exact C0))).mono ?_
  rintro e0 w1 ⟨sw0, rfl, B0⟩
  clear C0
  replace HB := Blw.next (by exact HB) B0
  clear B0
  have Z0 := hX0.below HB.out
  have HL := Blw.refl w1
  have E0 := (Blw.out (by exact HL)).size
  go_wp2_with fail
  refine (toF_any _ _ _ X0 _ (by exact Z0.below (Blw.out (by exact HL))) h0).mono ?_
  rintro e0 w0 ⟨rfl, O0, B0⟩
  replace HL := Blw.next (by exact HL) B0
  have D0 := O0
  clear O0 B0
  have Qg0 := own_lt (by exact D0)
  have Eg := (Blw.out (by exact HL)).size
  go_wp2_with fail
  refine (HI.out _ _ _ (rd_own (by exact D0))).mono ?_
  rintro e0 w2 ⟨sg0, rfl, B0⟩
  replace D0 := own_below (by exact D0) B0
  replace HL := Blw.next (by exact HL) B0
  clear B0
  go_wp2_with (first | ((with_reducible refine wpL_fconv ?_); refine ⟨_, _, _, rfl, Option.isSome_iff_exists.2 ⟨_, Try.underlying43⟩, Try.underlying47, FloatKind.noConfusion, convOk_widen _, fun s n => ?_⟩) | ((with_reducible refine wpL_fconv_g ?_); refine ⟨rfl, _, _, _, rfl, Option.isSome_iff_exists.2 ⟨_, Try.underlying43⟩, Try.underlying47, FloatKind.noConfusion, convOk_widen _, fun s n => ?_⟩))
  refine (sameFloat_any _ _ _ ((HCV.out _ _ _).trans (HCV.out _ _ _).symm)).mono ?_
  rintro e0 w0 ⟨rfl, q, rfl⟩
  go_wp2_with fail
  refine (toF_any _ _ _ X0 _ (by exact Z0.below (Blw.out (by exact HL))) h0).mono ?_
  rintro e0 w0 ⟨rfl, O0, B0⟩
  replace D0 := own_below (by exact D0) B0
  replace HL := Blw.next (by exact HL) B0
  have K0 := O0
  clear O0 B0
  go_wp2_with fail
  refine (eqF_any _ _ _ _ _ X0 X0 _ (by exact rd_own (by exact D0)) (by exact rd_own (by exact K0)) h0 (fun _ _ => rfl)).mono ?_
  rintro e0 w0 ⟨rfl, q, rfl⟩
  clear K0
  go_wp2
  go_ret
  exact ⟨rfl, (Blw.out (by exact HB)).trans ((Blw.out (by exact HL)).mono (Blw.out (by exact HB)).size)⟩
set_option maxRecDepth 100000 in
set_option maxHeartbeats 1600000 in
theorem lawPlaceOf_any (W : World) (x0 : Option Addr) (n0 c0 : Nat) (X0 : Nat → Nat) (hX0 : Rd W x0 n0 X0) (a1 : Nat) (_wf1 : (Lit.float .f32 a1).wf = true) (a2 : Nat) (_wf2 : (Lit.float .f32 a2).wf = true) (a3 : Nat) (_wf3 : (Lit.float .f32 a3).wf = true) (a4 : Int) (_wf4 : (Lit.int .i64 a4).wf = true) :
    Calls Try.prog 7 #[.slice x0 n0 c0, .float .f32 a1, .float .f32 a2, .float .f32 a3, .int .i64 a4] W fun e w' => e = .returned (.bool true) ∧ Below W.heap.size W w' := by
  by_cases h0 : n0 ≤ 1048576
  · skip
    obtain ⟨r0, r1, hs, hi⟩ := bothPlaceOf n0 X0 h0 a1 _wf1 a2 _wf2 a3 _wf3 a4 _wf4
    exact lawPlaceOf_in W x0 n0 c0 X0 hX0 a1 _wf1 a2 _wf2 a3 _wf3 a4 _wf4 h0 r0 r1 (Lib.hid hs) (Lib.hid hi)
  · have h' : (1048576 : Int) < (n0 : Int) := by omega
    go_enter Try.func7, Try.ntmps7
    go_wp2
    go_ret
    exact ⟨rfl, (Blw.refl W).out⟩
set_option maxRecDepth 100000 in
theorem FnExactPlaceOf_lifted (os : Os) (started : os.Started) (H : Type) (enc : TypeId × Value → H) :
    ReturnsInHanded {} Try.checked os 7 .any (Rows.fnExactPlaceOfSpec.pre6 enc Try.prog Try.f7 Rows.fnExactPlaceOfRow.domain false) (Rows.fnExactPlaceOfSpec.post enc Try.prog Try.f7 false true false false) := by
  refine returnsInHanded_of_change (C := Try.checked) ownKnob_none started (by kernel_rfl) Try.func7
    (ChangeSpec.witness6 (enc := enc) (C := Try.checked) false ⟨#[], #[.slice none 0 0, .float .f32 0, .float .f32 0, .float .f32 0, .int .i64 0], []⟩ 8 (by kernel_rfl) (by kernel_rfl) (by kernel_rfl) (by kernel_rfl)) ?_
  intro W base args ds gs before hval0 hW _ _
  have hval : ∀ (j : Nat) t v, Try.f7.params[j]? = some t → args[j]? = some v → Value.okWide Try.prog W .any base t v := hval0
  have hW' := hW
  obtain ⟨p, q, hA0, hV, rfl, _, _⟩ := hW
  have hA : DataW.TrodAll enc Try.prog W 0 (fun _ => true) true Try.f7.params.toList args.toList ds p := hA0
  rw [Try.params7] at hA hval
  obtain ⟨v0, vs0, d0, ds0, p0, q0, e0, rfl, rfl, h0, r0⟩ := trodAll_cons hA
  obtain ⟨v1, vs1, d1, ds1, p1, q1, e1, rfl, rfl, h1, r1⟩ := trodAll_cons r0
  obtain ⟨v2, vs2, d2, ds2, p2, q2, e2, rfl, rfl, h2, r2⟩ := trodAll_cons r1
  obtain ⟨v3, vs3, d3, ds3, p3, q3, e3, rfl, rfl, h3, r3⟩ := trodAll_cons r2
  obtain ⟨v4, vs4, d4, ds4, p4, q4, e4, rfl, rfl, h4, r4⟩ := trodAll_cons r3
  obtain ⟨rfl, rfl, rfl⟩ := trodAll_nil r4
  subst e4
  subst e3
  subst e2
  subst e1
  obtain rfl : args = #[v0, v1, v2, v3, v4] := by cases args; simp_all
  obtain ⟨rfl, rfl⟩ := trodVars_none hV
  obtain ⟨x0, n0, c0, rfl⟩ := okWide_slice Try.underlying24 (hval 0 24 v0 rfl rfl)
  have k0 := h0
  obtain ⟨_, _, a0, w0, _⟩ := open_f32s Try.underlying24 Try.underlying43 cellsF h0
  have b0 : ∀ x ∈ p0, x.block < W.heap.size := fun x hx => by have := hW'.lt x (by simp [hx]); simpa using this
  obtain ⟨a1, rfl, rfl, rfl, w1⟩ := open_float Try.underlying43 (hval 1 43 v1 rfl rfl) h1
  obtain ⟨a2, rfl, rfl, rfl, w2⟩ := open_float Try.underlying43 (hval 2 43 v2 rfl rfl) h2
  obtain ⟨a3, rfl, rfl, rfl, w3⟩ := open_float Try.underlying43 (hval 3 43 v3 rfl rfl) h3
  obtain ⟨a4, rfl, rfl, rfl, w4⟩ := open_int Try.underlying2 (hval 4 2 v4 rfl rfl) h4
  clear hA0 hval0
  refine (lawPlaceOf_any W x0 n0 c0 a0 w0 a1 w1 a2 w2 a3 w3 a4 w4).mono fun e W' ⟨he, hb⟩ => ?_
  subst he
  have hA2 := trodAll_cons_mk (enc := enc) (w := W') (base := 0) (spare := fun b => decide (b < W.heap.size)) (held := true) (Below.trod laidOut (by kernel_rfl) (of_decide_eq_true (by kernel_rfl)) k0 hb b0) (trodAll_cons_mk (enc := enc) (w := W') (base := 0) (spare := fun b => decide (b < W.heap.size)) (held := true) (shut_float Try.underlying43 w1) (trodAll_cons_mk (enc := enc) (w := W') (base := 0) (spare := fun b => decide (b < W.heap.size)) (held := true) (shut_float Try.underlying43 w2) (trodAll_cons_mk (enc := enc) (w := W') (base := 0) (spare := fun b => decide (b < W.heap.size)) (held := true) (shut_float Try.underlying43 w3) (trodAll_cons_mk (enc := enc) (w := W') (base := 0) (spare := fun b => decide (b < W.heap.size)) (held := true) (shut_int Try.underlying2 w4) (trodAll_mk0)))))
  exact ⟨_, rfl, _, _, _, [], _, [], hW', trodAll_cons_mk (shut_bool Try.underlying4 _) trodAll_mk0, hA2, rfl, hb.frame _, fun h => by cases h⟩
theorem FnExactPlaceOf_holds : Rows.FnExactPlaceOfSaid :=
  OpenClaim.holds_of_wide 7 Try.f7 rfl rfl rfl rfl rfl rfl rfl ⟨rfl, rfl, rfl, rfl, rfl⟩ rfl rfl rfl rfl rfl (by kernel_rfl) Try.func7 (by kernel_rfl)
    (of_decide_eq_true (by kernel_rfl)) (by unfold Func.isWrapper; first | (rw [if_pos (by decide +kernel)]; kernel_rfl) | (rw [if_neg (by decide +kernel)]; exact ⟨rfl, rfl⟩))
    (fun os started H enc _ => FnExactPlaceOf_lifted os started H enc)
end Go.Proofs.Ytbblohjldkpcnab
