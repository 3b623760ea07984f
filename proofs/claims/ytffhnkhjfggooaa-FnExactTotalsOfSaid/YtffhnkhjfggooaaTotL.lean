/- For all numbers the program tells all turns that two can make just as the model does; the list is new at each call. -/
import Derived.Test.YtffhnkhjfggooaaPart
namespace Go.Proofs.Ytffhnkhjfggooaa
open Go Go.ChangeShapes Go.WideShapes Go.ChangeAt Go.RowKit

/-- What is told of TotalsOf. -/
def RetTotalsOf (R0 : Nat → Int) (m0 : Nat) (r1 : Bool) (w : World) (e : Ending) (w' : World) : Prop := ∃ (v0 : Value), e = .returned (.tuple #[v0, .bool r1]) ∧ w'.ownsRow w.heap.size 2 1 v0 m0 (rowI R0 m0) ∧ m0 ≤ 1048576 ∧ Below w.heap.size w w'
set_option maxHeartbeats 1600000 in
theorem specTot_yes (a b : Int) (ha : inB a 0 6 = true) (hb : inB b 0 6 = true) (w : World) :
    Calls Try.prog 36 #[.int .i64 a, .int .i64 b] w (RetTotalsOf (totR a b) (totN a b) true w) := by
  obtain ⟨i0, hi, hz0, hz1, hz2⟩ := info_parts infoI
  obtain ⟨a0, a1⟩ := inB_rng ha
  obtain ⟨b0, b1⟩ := inB_rng hb
  have a40 : a ≤ 40 := by omega
  have b40 : b ≤ 40 := by omega
  obtain ⟨g0, g1, g2⟩ := gapI_rng a0 a40 b0 b40
  have hN : totN a b ≤ 100 := by unfold totN cntTwo; omega
  have HLT := Lib.hid (fun (k : Nat) (h : k < totN a b) => cntTwo_lt (show k < cntTwo (gapI a b) (a + b) from h))
  have HGE := Lib.hid (show a + b < gapI a b + 2 * (totN a b : Int) from cntTwo_ge (by omega))
  go_enter Try.func36, Try.ntmps36
  go_wp2_with (first | (go_at_call 50; refine (l03Is_any _ _).mono ?_; rintro e w' ⟨rfl, rfl⟩) | (go_at_call 78; refine (l03Gap_any a b _ a0 a40 b0 b40).mono ?_; rintro e w' ⟨rfl, rfl⟩))
  go_loopw [6, 7] (fun v i wr => ∃ (k : Nat), k ≤ totN a b ∧ i = .int .i64 (gapI a b + 2 * (k : Int)) ∧ wr.ownsRow w.heap.size 2 1 v k (rowI (totR a b) k) ∧ Below w.heap.size w wr) (fun _ i _ => (a + b + 1000 - intOf i).toNat)
  case atStart => exact ⟨0, Nat.zero_le _, by simp, ownI_empty _ _, Below.alloc (Below.refl _ _) (Nat.le_refl _) _⟩
  case round =>
    obtain ⟨k, hk, rfl, hownk, hBk⟩ := hrel
    have hsz := hBk.size
    by_cases hlt : k < totN a b
    · have hle := HLT.out k hlt
      have HR := Lib.hid (rowI_push (totR a b) k (gapI a b + 2 * (k : Int)))
      have HC := Lib.hid (rowI_congr (X := fun j => if j = k then gapI a b + 2 * (k : Int) else totR a b j) (Y := totR a b) (n := k + 1) (fun j _ => by
        by_cases hj : j = k
        · rw [if_pos hj, hj]; rfl
        · rw [if_neg hj]))
      go_wp2_with (first | (at_builtin; refine wpL_pushI hi hz0 hz1 hz2 rfl rfl rfl rfl rfl (by exact hownk) (by omega) (by exact hsz) ?_; intro v' w1 hown' hB'))
      rw [HC.out] at hown'
      go_roundw
      case rel => exact ⟨k + 1, by omega, by go_num, hown', Below.trans hBk hB'⟩
      case measure => simp [intOf]; omega
    · obtain rfl : k = totN a b := by omega
      have hge := HGE.out
      go_wp2
      go_ret2
      exact ⟨_, rfl, hownk, by omega, hBk⟩
theorem specTot_no (a b : Int) (h : (inB a 0 6 && inB b 0 6) = false) (w : World) (R : Nat → Int) :
    Calls Try.prog 36 #[.int .i64 a, .int .i64 b] w (RetTotalsOf R 0 false w) := by
  cases ha : inB a 0 6
  · clear h
    go_enter Try.func36, Try.ntmps36
    go_wp2_with (first | (go_at_call 50; refine (l03Is_any _ _).mono ?_; rintro e w' ⟨rfl, rfl⟩))
    go_ret2
    exact ⟨_, rfl, World.ownsRow_nil _ _ _ _, Nat.zero_le _, Below.refl _ _⟩
  · rw [ha] at h
    have hb : inB b 0 6 = false := h
    clear h
    go_enter Try.func36, Try.ntmps36
    go_wp2_with (first | (go_at_call 50; refine (l03Is_any _ _).mono ?_; rintro e w' ⟨rfl, rfl⟩))
    go_ret2
    exact ⟨_, rfl, World.ownsRow_nil _ _ _ _, Nat.zero_le _, Below.refl _ _⟩
theorem bothTotalsOf (a : Int) (_ : (Lit.int .i64 a).wf = true) (b : Int) (_ : (Lit.int .i64 b).wf = true) :
    ∃ (R : Nat → Int) (n : Nat) (ok : Bool), (∀ (w : World), Calls Try.prog 36 #[.int .i64 a, .int .i64 b] w (RetTotalsOf R n ok w)) ∧ ∀ (w : World), Calls Try.prog 37 #[.int .i64 a, .int .i64 b] w (RetTotalsOf R n ok w) := by
  cases h : (inB a 0 6 && inB b 0 6)
  · exact ⟨fun _ => 0, 0, false, fun w => specTot_no a b h w _, fun w => (implTot_no a b h w _).mono fun _ _ hh => hh⟩
  · rw [Bool.and_eq_true] at h
    exact ⟨_, _, _, fun w => specTot_yes a b h.1 h.2 w, fun w => (implTot_yes a b h.1 h.2 w).mono fun _ _ hh => hh⟩
set_option maxRecDepth 100000 in
set_option maxHeartbeats 6400000 in
theorem lawTotalsOf_in (W : World) (a0 : Int) (_wf0 : (Lit.int .i64 a0).wf = true) (a1 : Int) (_wf1 : (Lit.int .i64 a1).wf = true)  (R0 : Nat → Int) (m0 : Nat) (r1 : Bool) (HS : Hid (∀  (w : World),  Calls Try.prog 36 #[.int .i64 a0, .int .i64 a1] w (RetTotalsOf R0 m0 r1 w))) (HI : Hid (∀  (w : World),  Calls Try.prog 37 #[.int .i64 a0, .int .i64 a1] w (RetTotalsOf R0 m0 r1 w))) :
    Calls Try.prog 12 #[.int .i64 a0, .int .i64 a1] W fun e w' => e = .returned (.bool true) ∧ Below W.heap.size W w' := by
  have hcv := fun (R : Nat) (s t : Nat) => show canon .f64 (pick .f64 (fconv .f32 (pick .f32 R s) .f64) t) = canon .f64 (fconv .f32 R .f64) by rw [canon_pick, fconv_pick]
  have hcw := fun (R : Nat) (s t : Nat) => show canon .f64 (pick .f64 R s) = canon .f64 (pick .f64 R t) by rw [canon_pick, canon_pick]
  have HCV := Lib.hid hcv
  have HCW := Lib.hid hcw
  clear hcv hcw
  have hnb1 : (r1 != r1) = false := by simp
  have HB := Blw.refl W
  go_enter Try.func12, Try.ntmps12
  go_wp2_with fail
  refine (HS.out  _ ).mono ?_
  rintro e0 w1 ⟨vw0, rfl, Ow0, mw0, B0⟩
  replace HB := Blw.next (by exact HB) B0
  clear B0
  obtain ⟨xw0, cw0, rfl, _, _, Rw0⟩ := rdI_of_own Ow0
  clear Ow0
  have HL := Blw.refl w1
  have Eg := (Blw.out (by exact HL)).size
  go_wp2_with fail
  refine (HI.out  _ ).mono ?_
  rintro e0 w2 ⟨vg0, rfl, Og0, mg0, B0⟩
  replace HL := Blw.next (by exact HL) B0
  clear B0
  have O_0 := Og0
  obtain ⟨xg0, cg0, rfl, _, _, Rg0⟩ := rdI_of_own O_0
  clear O_0
  go_wp2_with fail
  refine (eqI_any _ _ _ _ _ R0 _ (by exact Rg0) (by exact Rw0.below (Blw.out (by exact HL))) mw0).mono ?_
  rintro e0 w0 ⟨rfl, q, rfl⟩
  clear Rg0
  go_wp2_with fail
  refine (markI_any _ _ m0 R0 _ _ (by exact Og0) mg0 (by omega) (by omega)).mono ?_
  rintro e0 w0 ⟨rfl, Ok0, B0⟩
  replace HL := Blw.nextB (by exact HL) (B0.mono Eg)
  clear B0 Og0
  have hm1 : (0 : Int) ≤ 1 + (m0 : Int) := by omega
  go_wp2_with fail
  refine (heldI_any _ _ m0 _ _ (by exact Ok0) mg0 (by omega) (by omega)).mono ?_
  rintro e0 w0 ⟨rfl, rfl⟩
  go_wp2_with fail
  refine (HI.out  _ ).mono ?_
  rintro e0 w3 ⟨vh0, rfl, Oh0, mh0, B0⟩
  replace Ok0 := own_below (by exact Ok0) B0
  replace HL := Blw.next (by exact HL) B0
  clear B0
  obtain ⟨xh0, ch0, rfl, _, _, Rh0⟩ := rdI_of_own Oh0
  clear Oh0
  go_wp2_with fail
  refine (eqI_any _ _ _ _ _ R0 _ (by exact Rh0) (by exact Rw0.below (Blw.out (by exact HL))) mw0).mono ?_
  rintro e0 w0 ⟨rfl, q, rfl⟩
  clear Rh0
  go_wp2_with fail
  refine (heldI_any _ _ m0 _ _ (by exact Ok0) mg0 (by omega) (by omega)).mono ?_
  rintro e0 w0 ⟨rfl, rfl⟩
  go_wp2
  go_ret
  exact ⟨rfl, (Blw.out (by exact HB)).trans ((Blw.out (by exact HL)).mono (Blw.out (by exact HB)).size)⟩
set_option maxHeartbeats 1600000 in
theorem lawTotalsOf_any (W : World) (a0 : Int) (_wf0 : (Lit.int .i64 a0).wf = true) (a1 : Int) (_wf1 : (Lit.int .i64 a1).wf = true) :
    Calls Try.prog 12 #[.int .i64 a0, .int .i64 a1] W fun e w' => e = .returned (.bool true) ∧ Below W.heap.size W w' := by
  obtain ⟨R0, m0, r1, hs, hi⟩ := bothTotalsOf a0 _wf0 a1 _wf1
  exact lawTotalsOf_in W a0 _wf0 a1 _wf1  R0 m0 r1 (Lib.hid hs) (Lib.hid hi)
set_option maxRecDepth 100000 in
theorem FnExactTotalsOf_lifted (os : Os) (started : os.Started) (H : Type) (enc : TypeId × Value → H) :
    ReturnsInHanded {} Try.checked os 12 .any (Rows.fnExactTotalsOfSpec.pre6 enc Try.prog Try.f12 Rows.fnExactTotalsOfRow.domain false) (Rows.fnExactTotalsOfSpec.post enc Try.prog Try.f12 false true false false) := by
  refine returnsInHanded_of_change (C := Try.checked) ownKnob_none started (by kernel_rfl) Try.func12
    (ChangeSpec.witness6 (enc := enc) (C := Try.checked) false ⟨#[], #[.int .i64 0, .int .i64 0], []⟩ 8 (by kernel_rfl) (by kernel_rfl) (by kernel_rfl) (by kernel_rfl)) ?_
  intro W base args ds gs before hval0 hW _ _
  have hval : ∀ (j : Nat) t v, Try.f12.params[j]? = some t → args[j]? = some v → Value.okWide Try.prog W .any base t v := hval0
  have hW' := hW
  obtain ⟨p, q, hA0, hV, rfl, _, _⟩ := hW
  have hA : DataW.TrodAll enc Try.prog W 0 (fun _ => true) true Try.f12.params.toList args.toList ds p := hA0
  rw [Try.params12] at hA hval
  obtain ⟨v0, v1, d0, d1, p0, p1, rfl, rfl, rfl, h0, h1⟩ := trodAll_two hA
  obtain ⟨rfl, rfl⟩ := trodVars_none hV
  obtain ⟨a0, rfl, rfl, rfl, w0⟩ := open_int Try.underlying2 (hval 0 2 v0 rfl rfl) h0
  obtain ⟨a1, rfl, rfl, rfl, w1⟩ := open_int Try.underlying2 (hval 1 2 v1 rfl rfl) h1
  clear hA0 hval0
  refine (lawTotalsOf_any W a0 w0 a1 w1).mono fun e W' ⟨he, hb⟩ => ?_
  subst he
  have hA2 := trodAll_mk2 (enc := enc) (w := W') (base := 0) (spare := fun b => decide (b < W.heap.size)) (held := true) (shut_int Try.underlying2 w0) (shut_int Try.underlying2 w1)
  exact ⟨_, rfl, _, _, _, [], _, [], hW', trodAll_cons_mk (shut_bool Try.underlying4 _) trodAll_mk0, hA2, rfl, hb.frame _, fun h => by cases h⟩
theorem FnExactTotalsOf_holds : Rows.FnExactTotalsOfSaid :=
  OpenClaim.holds_of_wide 12 Try.f12 rfl rfl rfl rfl rfl rfl rfl ⟨rfl, rfl, rfl, rfl, rfl⟩ rfl rfl rfl rfl rfl (by kernel_rfl) Try.func12 (by kernel_rfl)
    (of_decide_eq_true (by kernel_rfl)) (by unfold Func.isWrapper; first | (rw [if_pos (by decide +kernel)]; kernel_rfl) | (rw [if_neg (by decide +kernel)]; exact ⟨rfl, rfl⟩))
    (fun os started H enc _ => FnExactTotalsOf_lifted os started H enc)
end Go.Proofs.Ytffhnkhjfggooaa
