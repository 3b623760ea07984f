/- For all turns the program tells whether light can lead from one to another just as the model does. -/
import Derived.Test.YtffhnkhjfggooaaPart
namespace Go.Proofs.Ytffhnkhjfggooaa
open Go Go.ChangeShapes Go.WideShapes Go.ChangeAt Go.RowKit

/-- What is told of CanChange. -/
def RetCanChange (r0 : Bool) (r1 : Bool) (w : World) (e : Ending) (w' : World) : Prop := e = .returned (.tuple #[.bool r0, .bool r1]) ∧ Below w.heap.size w w'
theorem tot_pos {a b : Int} (_h0 : 0 ≤ a) (ht : totB a 2 b = true) : 0 < a + b ∧ a + b ≤ 2 * a + 2 := by
  unfold totB at ht
  rw [Bool.and_eq_true] at ht
  obtain ⟨h1, h2⟩ := inB_rng ht.1
  have : gapI a 2 = if a > 2 then a - 2 else 2 - a := rfl
  rw [this] at h1
  split at h1 <;> omega
theorem specCan_any (a b : Int) (o p : Bool) (w : World) (ha : inB a 0 6 = true) (hb : inB b 0 12 = true) :
    Calls Try.prog 17 #[.int .i64 a, .int .i64 b, .bool o, .bool p] w (RetCanChange ((o != p) && totB a 2 b) true w) := by
  obtain ⟨a0, a1⟩ := inB_rng ha
  obtain ⟨b0, b1⟩ := inB_rng hb
  have a40 : a ≤ 40 := by omega
  cases ht : totB a 2 b
  · cases o <;> cases p
    all_goals
      go_enter Try.func17, Try.ntmps17
      go_wp2_with (first | (go_at_call 50; refine (l03Is_any _ _).mono ?_; rintro e w' ⟨rfl, rfl⟩) | (go_at_call 51; refine (l00In_any _ _ _ _).mono ?_; rintro e w' ⟨rfl, rfl⟩) | (go_at_call 52; refine (l03Total_any a 2 b _ a0 a40 (by omega) (by omega)).mono ?_; rintro e w' ⟨rfl, rfl⟩))
      go_ret2
      exact ⟨rfl, Below.refl _ _⟩
  · obtain ⟨p1, p2⟩ := tot_pos a0 ht
    have d1 : decide (0 < a + b) = true := decide_eq_true p1
    cases o <;> cases p
    all_goals
      go_enter Try.func17, Try.ntmps17
      go_wp2_with (first | (go_at_call 50; refine (l03Is_any _ _).mono ?_; rintro e w' ⟨rfl, rfl⟩) | (go_at_call 51; refine (l00In_any _ _ _ _).mono ?_; rintro e w' ⟨rfl, rfl⟩) | (go_at_call 52; refine (l03Total_any a 2 b _ a0 a40 (by omega) (by omega)).mono ?_; rintro e w' ⟨rfl, rfl⟩))
      go_ret2
      exact ⟨rfl, Below.refl _ _⟩
theorem specCan_no (a b : Int) (o p : Bool) (w : World) (h : (inB a 0 6 && inB b 0 12) = false) :
    Calls Try.prog 17 #[.int .i64 a, .int .i64 b, .bool o, .bool p] w (RetCanChange false false w) := by
  cases ha : inB a 0 6
  · clear h
    go_enter Try.func17, Try.ntmps17
    go_wp2_with (first | (go_at_call 50; refine (l03Is_any _ _).mono ?_; rintro e w' ⟨rfl, rfl⟩) | (go_at_call 51; refine (l00In_any _ _ _ _).mono ?_; rintro e w' ⟨rfl, rfl⟩))
    go_ret2
    exact ⟨rfl, Below.refl _ _⟩
  · rw [ha] at h
    have hb : inB b 0 12 = false := h
    clear h
    go_enter Try.func17, Try.ntmps17
    go_wp2_with (first | (go_at_call 50; refine (l03Is_any _ _).mono ?_; rintro e w' ⟨rfl, rfl⟩) | (go_at_call 51; refine (l00In_any _ _ _ _).mono ?_; rintro e w' ⟨rfl, rfl⟩))
    go_ret2
    exact ⟨rfl, Below.refl _ _⟩
theorem implCan_any (a b : Int) (o p : Bool) (w : World) (ha : inB a 0 6 = true) (hb : inB b 0 12 = true) :
    Calls Try.prog 18 #[.int .i64 a, .int .i64 b, .bool o, .bool p] w (RetCanChange ((o != p) && totB a 2 b) true w) := by
  obtain ⟨b0, b1⟩ := inB_rng hb
  have d1 : decide (b < 0) = false := decide_eq_false (by omega)
  have d2 : decide (12 < b) = false := decide_eq_false (by omega)
  have hrd := rdI_one w a 2
  have ho := tL_one a
  rw [ha] at ho
  have hBa : Below w.heap.size w (w.alloc (.cells #[.int .i64 a] 2)) := (Below.refl _ w).alloc (Nat.le_refl _) _
  have HT := Lib.hid (show isT a 2 b = totB a 2 b by unfold isT; rw [ha]; rfl)
  cases o <;> cases p
  all_goals
    go_enter Try.func18, Try.ntmps18
    go_wp2_with (first | (go_at_call 48; refine (areTurns_any _ _ _ (fun _ => a) _ (by exact hrd) (by omega)).mono ?_; rintro e w' ⟨rfl, rfl⟩) | (go_at_call 53; refine (isTotal_any a 2 b _).mono ?_; rintro e w' ⟨rfl, hb2⟩; rw [HT.out]; clear hrd))
    go_ret2
    first
      | exact ⟨rfl, hBa.trans (hb2.mono hBa.size)⟩
      | exact ⟨rfl, hBa⟩
theorem implCan_no (a b : Int) (o p : Bool) (w : World) (h : (inB a 0 6 && inB b 0 12) = false) :
    Calls Try.prog 18 #[.int .i64 a, .int .i64 b, .bool o, .bool p] w (RetCanChange false false w) := by
  have hrd := rdI_one w a 2
  have ho := tL_one a
  have hBa : Below w.heap.size w (w.alloc (.cells #[.int .i64 a] 2)) := (Below.refl _ w).alloc (Nat.le_refl _) _
  cases ha : inB a 0 6
  · rw [ha] at ho
    clear h
    go_enter Try.func18, Try.ntmps18
    go_wp2_with (first | (go_at_call 48; refine (areTurns_any _ _ _ (fun _ => a) _ (by exact hrd) (by omega)).mono ?_; rintro e w' ⟨rfl, rfl⟩))
    go_ret2
    exact ⟨rfl, hBa⟩
  · rw [ha] at ho h
    have hb : inB b 0 12 = false := h
    clear h
    by_cases h0 : b < 0
    · have d1 : decide (b < 0) = true := decide_eq_true h0
      go_enter Try.func18, Try.ntmps18
      go_wp2_with (first | (go_at_call 48; refine (areTurns_any _ _ _ (fun _ => a) _ (by exact hrd) (by omega)).mono ?_; rintro e w' ⟨rfl, rfl⟩))
      go_ret2
      exact ⟨rfl, hBa⟩
    · have d1 : decide (b < 0) = false := decide_eq_false h0
      have d2 : decide (12 < b) = true := by
        by_cases h1 : 12 < b
        · exact decide_eq_true h1
        · rw [inB_yes (by omega) (by omega)] at hb; cases hb
      go_enter Try.func18, Try.ntmps18
      go_wp2_with (first | (go_at_call 48; refine (areTurns_any _ _ _ (fun _ => a) _ (by exact hrd) (by omega)).mono ?_; rintro e w' ⟨rfl, rfl⟩))
      go_ret2
      exact ⟨rfl, hBa⟩
theorem bothCanChange (a : Int) (_ : (Lit.int .i64 a).wf = true) (b : Int) (_ : (Lit.int .i64 b).wf = true) (o : Bool) (_ : True) (p : Bool) (_ : True) :
    ∃ (r s : Bool), (∀ (w : World), Calls Try.prog 17 #[.int .i64 a, .int .i64 b, .bool o, .bool p] w (RetCanChange r s w)) ∧ ∀ (w : World), Calls Try.prog 18 #[.int .i64 a, .int .i64 b, .bool o, .bool p] w (RetCanChange r s w) := by
  cases h : (inB a 0 6 && inB b 0 12)
  · exact ⟨_, _, fun w => specCan_no a b o p w h, fun w => implCan_no a b o p w h⟩
  · rw [Bool.and_eq_true] at h
    exact ⟨_, _, fun w => specCan_any a b o p w h.1 h.2, fun w => implCan_any a b o p w h.1 h.2⟩
set_option maxRecDepth 100000 in
set_option maxHeartbeats 6400000 in
theorem lawCanChange_in (W : World) (a0 : Int) (_wf0 : (Lit.int .i64 a0).wf = true) (a1 : Int) (_wf1 : (Lit.int .i64 a1).wf = true) (a2 : Bool) (_wf2 : True) (a3 : Bool) (_wf3 : True)  (r0 : Bool) (r1 : Bool) (HS : Hid (∀  (w : World),  Calls Try.prog 17 #[.int .i64 a0, .int .i64 a1, .bool a2, .bool a3] w (RetCanChange r0 r1 w))) (HI : Hid (∀  (w : World),  Calls Try.prog 18 #[.int .i64 a0, .int .i64 a1, .bool a2, .bool a3] w (RetCanChange r0 r1 w))) :
    Calls Try.prog 4 #[.int .i64 a0, .int .i64 a1, .bool a2, .bool a3] W fun e w' => e = .returned (.bool true) ∧ Below W.heap.size W w' := by
  have hcv := fun (R : Nat) (s t : Nat) => show canon .f64 (pick .f64 (fconv .f32 (pick .f32 R s) .f64) t) = canon .f64 (fconv .f32 R .f64) by rw [canon_pick, fconv_pick]
  have hcw := fun (R : Nat) (s t : Nat) => show canon .f64 (pick .f64 R s) = canon .f64 (pick .f64 R t) by rw [canon_pick, canon_pick]
  have HCV := Lib.hid hcv
  have HCW := Lib.hid hcw
  clear hcv hcw
  have hnb0 : (r0 != r0) = false := by simp
  have hnb1 : (r1 != r1) = false := by simp
  have HB := Blw.refl W
  go_enter Try.func4, Try.ntmps4
  go_wp2_with fail
  refine (HS.out  _ ).mono ?_
  rintro e0 w1 ⟨rfl, B0⟩
  replace HB := Blw.next (by exact HB) B0
  clear B0
  have HL := Blw.refl w1
  have Eg := (Blw.out (by exact HL)).size
  go_wp2_with fail
  refine (HI.out  _ ).mono ?_
  rintro e0 w2 ⟨rfl, B0⟩
  replace HL := Blw.next (by exact HL) B0
  clear B0
  go_wp2
  go_ret
  exact ⟨rfl, (Blw.out (by exact HB)).trans ((Blw.out (by exact HL)).mono (Blw.out (by exact HB)).size)⟩
set_option maxHeartbeats 1600000 in
theorem lawCanChange_any (W : World) (a0 : Int) (_wf0 : (Lit.int .i64 a0).wf = true) (a1 : Int) (_wf1 : (Lit.int .i64 a1).wf = true) (a2 : Bool) (_wf2 : True) (a3 : Bool) (_wf3 : True) :
    Calls Try.prog 4 #[.int .i64 a0, .int .i64 a1, .bool a2, .bool a3] W fun e w' => e = .returned (.bool true) ∧ Below W.heap.size W w' := by
  obtain ⟨r0, r1, hs, hi⟩ := bothCanChange a0 _wf0 a1 _wf1 a2 _wf2 a3 _wf3
  exact lawCanChange_in W a0 _wf0 a1 _wf1 a2 _wf2 a3 _wf3  r0 r1 (Lib.hid hs) (Lib.hid hi)
set_option maxRecDepth 100000 in
theorem FnExactCanChange_lifted (os : Os) (started : os.Started) (H : Type) (enc : TypeId × Value → H) :
    ReturnsInHanded {} Try.checked os 4 .any (Rows.fnExactCanChangeSpec.pre6 enc Try.prog Try.f4 Rows.fnExactCanChangeRow.domain false) (Rows.fnExactCanChangeSpec.post enc Try.prog Try.f4 false true false false) := by
  refine returnsInHanded_of_change (C := Try.checked) ownKnob_none started (by kernel_rfl) Try.func4
    (ChangeSpec.witness6 (enc := enc) (C := Try.checked) false ⟨#[], #[.int .i64 0, .int .i64 0, .bool false, .bool false], []⟩ 8 (by kernel_rfl) (by kernel_rfl) (by kernel_rfl) (by kernel_rfl)) ?_
  intro W base args ds gs before hval0 hW _ _
  have hval : ∀ (j : Nat) t v, Try.f4.params[j]? = some t → args[j]? = some v → Value.okWide Try.prog W .any base t v := hval0
  have hW' := hW
  obtain ⟨p, q, hA0, hV, rfl, _, _⟩ := hW
  have hA : DataW.TrodAll enc Try.prog W 0 (fun _ => true) true Try.f4.params.toList args.toList ds p := hA0
  rw [Try.params4] at hA hval
  obtain ⟨v0, v1, v2, v3, d0, d1, d2, d3, p0, p1, p2, p3, rfl, rfl, rfl, h0, h1, h2, h3⟩ := trodAll_four hA
  obtain ⟨rfl, rfl⟩ := trodVars_none hV
  obtain ⟨a0, rfl, rfl, rfl, w0⟩ := open_int Try.underlying2 (hval 0 2 v0 rfl rfl) h0
  obtain ⟨a1, rfl, rfl, rfl, w1⟩ := open_int Try.underlying2 (hval 1 2 v1 rfl rfl) h1
  obtain ⟨a2, rfl, rfl, rfl⟩ := open_bool Try.underlying4 (hval 2 4 v2 rfl rfl) h2
  obtain ⟨a3, rfl, rfl, rfl⟩ := open_bool Try.underlying4 (hval 3 4 v3 rfl rfl) h3
  clear hA0 hval0
  refine (lawCanChange_any W a0 w0 a1 w1 a2 True.intro a3 True.intro).mono fun e W' ⟨he, hb⟩ => ?_
  subst he
  have hA2 := trodAll_mk4 (enc := enc) (w := W') (base := 0) (spare := fun b => decide (b < W.heap.size)) (held := true) (shut_int Try.underlying2 w0) (shut_int Try.underlying2 w1) (shut_bool Try.underlying4 a2) (shut_bool Try.underlying4 a3)
  exact ⟨_, rfl, _, _, _, [], _, [], hW', trodAll_cons_mk (shut_bool Try.underlying4 _) trodAll_mk0, hA2, rfl, hb.frame _, fun h => by cases h⟩
theorem FnExactCanChange_holds : Rows.FnExactCanChangeSaid :=
  OpenClaim.holds_of_wide 4 Try.f4 rfl rfl rfl rfl rfl rfl rfl ⟨rfl, rfl, rfl, rfl, rfl⟩ rfl rfl rfl rfl rfl (by kernel_rfl) Try.func4 (by kernel_rfl)
    (of_decide_eq_true (by kernel_rfl)) (by unfold Func.isWrapper; first | (rw [if_pos (by decide +kernel)]; kernel_rfl) | (rw [if_neg (by decide +kernel)]; exact ⟨rfl, rfl⟩))
    (fun os started H enc _ => FnExactCanChange_lifted os started H enc)
end Go.Proofs.Ytffhnkhjfggooaa
