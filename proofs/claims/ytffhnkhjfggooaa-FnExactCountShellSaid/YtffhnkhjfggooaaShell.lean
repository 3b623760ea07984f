/- For all numbers the program counts the ways of a shell just as the model does. -/
import Derived.Test.YtffhnkhjfggooaaSets
namespace Go.Proofs.Ytffhnkhjfggooaa
open Go Go.ChangeShapes Go.WideShapes Go.ChangeAt Go.RowKit

/-- What is told of CountShell. -/
def RetCountShell (r0 : Int) (r1 : Bool) (w : World) (e : Ending) (w' : World) : Prop := e = .returned (.tuple #[.int .i64 r0, .bool r1]) ∧ Below w.heap.size w w'
def shellB (l n : Int) : Bool := inB l 0 2 && inB n 0 (4 * l + 2)
theorem l03Shell_any (l n : Int) (w : World) : Calls Try.prog 63 #[.int .i64 l, .int .i64 n] w fun e w' => e = .returned (.bool (shellB l n)) ∧ w = w' := by
  cases hl : inB l 0 2
  · have H := Lib.hid (show shellB l n = false by unfold shellB; rw [hl]; rfl)
    go_enter Try.func63, Try.ntmps63
    go_wp2_with (go_at_call 51; refine (l00In_any _ _ _ _).mono ?_; rintro e w' ⟨rfl, rfl⟩)
    go_ret
    exact ⟨ret_bool H.out.symm, rfl⟩
  · have H := Lib.hid (show shellB l n = inB n 0 (4 * l + 2) by unfold shellB; rw [hl]; rfl)
    obtain ⟨h0, h1⟩ := inB_rng hl
    go_enter Try.func63, Try.ntmps63
    go_wp2_with (go_at_call 51; refine (l00In_any _ _ _ _).mono ?_; rintro e w' ⟨rfl, rfl⟩)
    go_ret
    exact ⟨ret_bool H.out.symm, rfl⟩
theorem placesOf_any (l : Int) (w : World) (h0 : 0 ≤ l) (h1 : l ≤ 2) : Calls Try.prog 67 #[.int .i64 l] w fun e w' => e = .returned (.int .i64 (4 * l + 2)) ∧ w = w' := by
  have H := Lib.hid (show 2 * (2 * l + 1) = 4 * l + 2 by omega)
  go_enter Try.func67, Try.ntmps67
  go_wp2
  go_ret
  exact ⟨by rw [← H.out]; rfl, rfl⟩
theorem isShell_any (l n : Int) (w : World) : Calls Try.prog 65 #[.int .i64 l, .int .i64 n] w fun e w' => e = .returned (.bool (shellB l n)) ∧ w = w' := by
  by_cases h0 : 0 ≤ l
  · have d0 : decide (0 ≤ l) = true := decide_eq_true h0
    by_cases h1 : l ≤ 2
    · have d1 : decide (l ≤ 2) = true := decide_eq_true h1
      by_cases h2 : 0 ≤ n
      · have d2 : decide (0 ≤ n) = true := decide_eq_true h2
        have H := Lib.hid (show shellB l n = decide (n ≤ 4 * l + 2) by unfold shellB inB; rw [d0, d1, d2]; rfl)
        go_enter Try.func65, Try.ntmps65
        go_wp2_with (go_at_call 67; refine (placesOf_any l _ h0 h1).mono ?_; rintro e w' ⟨rfl, rfl⟩)
        go_ret
        exact ⟨ret_bool H.out.symm, rfl⟩
      · have d2 : decide (0 ≤ n) = false := decide_eq_false h2
        have H := Lib.hid (show shellB l n = false by unfold shellB inB; rw [d0, d1, d2]; rfl)
        go_enter Try.func65, Try.ntmps65
        go_wp2_with (go_at_call 67; refine (placesOf_any l _ h0 h1).mono ?_; rintro e w' ⟨rfl, rfl⟩)
        go_ret
        exact ⟨ret_bool H.out.symm, rfl⟩
    · have d1 : decide (l ≤ 2) = false := decide_eq_false h1
      have H := Lib.hid (show shellB l n = false by unfold shellB inB; rw [d0, d1]; rfl)
      go_enter Try.func65, Try.ntmps65
      go_wp2_with fail
      go_ret
      exact ⟨ret_bool H.out.symm, rfl⟩
  · have d0 : decide (0 ≤ l) = false := decide_eq_false h0
    have H := Lib.hid (show shellB l n = false by unfold shellB inB; rw [d0]; rfl)
    go_enter Try.func65, Try.ntmps65
    go_wp2_with fail
    go_ret
    exact ⟨ret_bool H.out.symm, rfl⟩
theorem specShell_any (l n : Int) (w : World) : Calls Try.prog 26 #[.int .i64 l, .int .i64 n] w (RetCountShell (if shellB l n = true then setsI (4 * l + 2) n else 0) (shellB l n) w) := by
  cases hs : shellB l n
  · go_enter Try.func26, Try.ntmps26
    go_wp2_with (go_at_call 63; refine (l03Shell_any _ _ _).mono ?_; rintro e w' ⟨rfl, rfl⟩)
    go_ret2
    exact ⟨rfl, Below.refl _ _⟩
  · have h := hs
    unfold shellB at h
    rw [Bool.and_eq_true] at h
    obtain ⟨h0, h1⟩ := inB_rng h.1
    clear h
    have p0 : 0 ≤ 4 * l + 2 := by omega
    have p1 : 4 * l + 2 ≤ 16 := by omega
    go_enter Try.func26, Try.ntmps26
    go_wp2_with (first | (go_at_call 63; refine (l03Shell_any _ _ _).mono ?_; rintro e w' ⟨rfl, rfl⟩) | (go_at_call 64; refine (l03Sets_any (4 * l + 2) n _ p0 p1).mono ?_; rintro e w' ⟨rfl, rfl⟩))
    go_ret2
    exact ⟨rfl, Below.refl _ _⟩
theorem implShell_any (l n : Int) (w : World) : Calls Try.prog 27 #[.int .i64 l, .int .i64 n] w (RetCountShell (if shellB l n = true then setsI (4 * l + 2) n else 0) (shellB l n) w) := by
  cases hs : shellB l n
  · go_enter Try.func27, Try.ntmps27
    go_wp2_with (go_at_call 65; refine (isShell_any _ _ _).mono ?_; rintro e w' ⟨rfl, rfl⟩)
    go_ret2
    exact ⟨rfl, Below.refl _ _⟩
  · have h := hs
    unfold shellB at h
    rw [Bool.and_eq_true] at h
    obtain ⟨h0, h1⟩ := inB_rng h.1
    clear h
    have p0 : 0 ≤ 4 * l + 2 := by omega
    have p1 : 4 * l + 2 ≤ 16 := by omega
    go_enter Try.func27, Try.ntmps27
    go_wp2_with (first | (go_at_call 65; refine (isShell_any _ _ _).mono ?_; rintro e w' ⟨rfl, rfl⟩) | (go_at_call 67; refine (placesOf_any l _ h0 h1).mono ?_; rintro e w' ⟨rfl, rfl⟩) | (go_at_call 66; refine (setsOf_any (4 * l + 2) n _ p0 p1).mono ?_; rintro e w' ⟨rfl, rfl⟩))
    go_ret2
    exact ⟨rfl, Below.refl _ _⟩
theorem bothCountShell (l : Int) (_ : (Lit.int .i64 l).wf = true) (n : Int) (_ : (Lit.int .i64 n).wf = true) :
    ∃ (r : Int) (s : Bool), (∀ (w : World), Calls Try.prog 26 #[.int .i64 l, .int .i64 n] w (RetCountShell r s w)) ∧ ∀ (w : World), Calls Try.prog 27 #[.int .i64 l, .int .i64 n] w (RetCountShell r s w) :=
  ⟨_, _, fun w => specShell_any l n w, fun w => implShell_any l n w⟩
set_option maxRecDepth 100000 in
set_option maxHeartbeats 6400000 in
theorem lawCountShell_in (W : World) (a0 : Int) (_wf0 : (Lit.int .i64 a0).wf = true) (a1 : Int) (_wf1 : (Lit.int .i64 a1).wf = true)  (r0 : Int) (r1 : Bool) (HS : Hid (∀  (w : World),  Calls Try.prog 26 #[.int .i64 a0, .int .i64 a1] w (RetCountShell r0 r1 w))) (HI : Hid (∀  (w : World),  Calls Try.prog 27 #[.int .i64 a0, .int .i64 a1] w (RetCountShell r0 r1 w))) :
    Calls Try.prog 7 #[.int .i64 a0, .int .i64 a1] W fun e w' => e = .returned (.bool true) ∧ Below W.heap.size W w' := by
  have hcv := fun (R : Nat) (s t : Nat) => show canon .f64 (pick .f64 (fconv .f32 (pick .f32 R s) .f64) t) = canon .f64 (fconv .f32 R .f64) by rw [canon_pick, fconv_pick]
  have hcw := fun (R : Nat) (s t : Nat) => show canon .f64 (pick .f64 R s) = canon .f64 (pick .f64 R t) by rw [canon_pick, canon_pick]
  have HCV := Lib.hid hcv
  have HCW := Lib.hid hcw
  clear hcv hcw
  have hnb1 : (r1 != r1) = false := by simp
  have HB := Blw.refl W
  go_enter Try.func7, Try.ntmps7
  go_wp2_with fail
  refine (HS.out  _ ).mono ?_
  rintro e0 w1 ⟨rfl, B0⟩
  replace HB := Blw.next (by exact HB) B0
  clear B0
  have HL := Blw.refl w1
  have Eg := (Blw.out (by exact HL)).size
  go_wp2_with fail
  refine (HI.out  _ ).mono ?_
  rintro e0 w2 ⟨rfl, B0⟩
  replace HL := Blw.next (by exact HL) B0
  clear B0
  go_wp2
  go_ret
  exact ⟨rfl, (Blw.out (by exact HB)).trans ((Blw.out (by exact HL)).mono (Blw.out (by exact HB)).size)⟩
set_option maxHeartbeats 1600000 in
theorem lawCountShell_any (W : World) (a0 : Int) (_wf0 : (Lit.int .i64 a0).wf = true) (a1 : Int) (_wf1 : (Lit.int .i64 a1).wf = true) :
    Calls Try.prog 7 #[.int .i64 a0, .int .i64 a1] W fun e w' => e = .returned (.bool true) ∧ Below W.heap.size W w' := by
  obtain ⟨r0, r1, hs, hi⟩ := bothCountShell a0 _wf0 a1 _wf1
  exact lawCountShell_in W a0 _wf0 a1 _wf1  r0 r1 (Lib.hid hs) (Lib.hid hi)
set_option maxRecDepth 100000 in
theorem FnExactCountShell_lifted (os : Os) (started : os.Started) (H : Type) (enc : TypeId × Value → H) :
    ReturnsInHanded {} Try.checked os 7 .any (Rows.fnExactCountShellSpec.pre6 enc Try.prog Try.f7 Rows.fnExactCountShellRow.domain false) (Rows.fnExactCountShellSpec.post enc Try.prog Try.f7 false true false false) := by
  refine returnsInHanded_of_change (C := Try.checked) ownKnob_none started (by kernel_rfl) Try.func7
    (ChangeSpec.witness6 (enc := enc) (C := Try.checked) false ⟨#[], #[.int .i64 0, .int .i64 0], []⟩ 8 (by kernel_rfl) (by kernel_rfl) (by kernel_rfl) (by kernel_rfl)) ?_
  intro W base args ds gs before hval0 hW _ _
  have hval : ∀ (j : Nat) t v, Try.f7.params[j]? = some t → args[j]? = some v → Value.okWide Try.prog W .any base t v := hval0
  have hW' := hW
  obtain ⟨p, q, hA0, hV, rfl, _, _⟩ := hW
  have hA : DataW.TrodAll enc Try.prog W 0 (fun _ => true) true Try.f7.params.toList args.toList ds p := hA0
  rw [Try.params7] at hA hval
  obtain ⟨v0, v1, d0, d1, p0, p1, rfl, rfl, rfl, h0, h1⟩ := trodAll_two hA
  obtain ⟨rfl, rfl⟩ := trodVars_none hV
  obtain ⟨a0, rfl, rfl, rfl, w0⟩ := open_int Try.underlying2 (hval 0 2 v0 rfl rfl) h0
  obtain ⟨a1, rfl, rfl, rfl, w1⟩ := open_int Try.underlying2 (hval 1 2 v1 rfl rfl) h1
  clear hA0 hval0
  refine (lawCountShell_any W a0 w0 a1 w1).mono fun e W' ⟨he, hb⟩ => ?_
  subst he
  have hA2 := trodAll_mk2 (enc := enc) (w := W') (base := 0) (spare := fun b => decide (b < W.heap.size)) (held := true) (shut_int Try.underlying2 w0) (shut_int Try.underlying2 w1)
  exact ⟨_, rfl, _, _, _, [], _, [], hW', trodAll_cons_mk (shut_bool Try.underlying4 _) trodAll_mk0, hA2, rfl, hb.frame _, fun h => by cases h⟩
theorem FnExactCountShell_holds : Rows.FnExactCountShellSaid :=
  OpenClaim.holds_of_wide 7 Try.f7 rfl rfl rfl rfl rfl rfl rfl ⟨rfl, rfl, rfl, rfl, rfl⟩ rfl rfl rfl rfl rfl (by kernel_rfl) Try.func7 (by kernel_rfl)
    (of_decide_eq_true (by kernel_rfl)) (by unfold Func.isWrapper; first | (rw [if_pos (by decide +kernel)]; kernel_rfl) | (rw [if_neg (by decide +kernel)]; exact ⟨rfl, rfl⟩))
    (fun os started H enc _ => FnExactCountShell_lifted os started H enc)
end Go.Proofs.Ytffhnkhjfggooaa
