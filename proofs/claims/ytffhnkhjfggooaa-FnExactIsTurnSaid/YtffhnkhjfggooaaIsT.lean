/- For all numbers the program tells whether they are a turn and its part just as the model does. -/
import Derived.Test.YtffhnkhjfggooaaPart
namespace Go.Proofs.Ytffhnkhjfggooaa
open Go Go.ChangeShapes Go.WideShapes Go.ChangeAt Go.RowKit

/-- What is told of IsTurn. -/
def RetIsTurn (r0 : Bool) (w : World) (e : Ending) (w' : World) : Prop := e = .returned (.bool r0) ∧ Below w.heap.size w w'
theorem bothIsTurn (a : Int) (_ : (Lit.int .i64 a).wf = true) (x : Int) (_ : (Lit.int .i64 x).wf = true) :
    ∃ (r : Bool), (∀ (w : World), Calls Try.prog 15 #[.int .i64 a, .int .i64 x] w (RetIsTurn r w)) ∧ ∀ (w : World), Calls Try.prog 16 #[.int .i64 a, .int .i64 x] w (RetIsTurn r w) :=
  ⟨turnB a x, fun w => (specIsTurn_any a x w).mono fun _ _ h => h, fun w => (IsTurn_any a x w).mono fun _ _ h => h⟩
set_option maxRecDepth 100000 in
set_option maxHeartbeats 6400000 in
theorem lawIsTurn_in (W : World) (a0 : Int) (_wf0 : (Lit.int .i64 a0).wf = true) (a1 : Int) (_wf1 : (Lit.int .i64 a1).wf = true)  (r0 : Bool) (HS : Hid (∀  (w : World),  Calls Try.prog 15 #[.int .i64 a0, .int .i64 a1] w (RetIsTurn r0 w))) (HI : Hid (∀  (w : World),  Calls Try.prog 16 #[.int .i64 a0, .int .i64 a1] w (RetIsTurn r0 w))) :
    Calls Try.prog 3 #[.int .i64 a0, .int .i64 a1] W fun e w' => e = .returned (.bool true) ∧ Below W.heap.size W w' := by
  have hcv := fun (R : Nat) (s t : Nat) => show canon .f64 (pick .f64 (fconv .f32 (pick .f32 R s) .f64) t) = canon .f64 (fconv .f32 R .f64) by rw [canon_pick, fconv_pick]
  have hcw := fun (R : Nat) (s t : Nat) => show canon .f64 (pick .f64 R s) = canon .f64 (pick .f64 R t) by rw [canon_pick, canon_pick]
  have HCV := Lib.hid hcv
  have HCW := Lib.hid hcw
  clear hcv hcw
  have hnb0 : (r0 != r0) = false := by simp
  have HB := Blw.refl W
  go_enter Try.func3, Try.ntmps3
  go_wp2_with fail
  refine (HS.out  _ ).mono ?_
  rintro e0 w1 ⟨rfl, B0⟩
  replace HB := Blw.next (by exact HB) B0
  clear B0
  have HL := Blw.refl w1
  have Eg := (Blw.out (by exact HL)).size
  go_wp2_with fail
  refine (HI.out  _ ).mono ?_
  rintro e0 w2 ⟨rfl, B0⟩
  replace HL := Blw.next (by exact HL) B0
  clear B0
  go_wp2
  go_ret
  exact ⟨rfl, (Blw.out (by exact HB)).trans ((Blw.out (by exact HL)).mono (Blw.out (by exact HB)).size)⟩
set_option maxHeartbeats 1600000 in
theorem lawIsTurn_any (W : World) (a0 : Int) (_wf0 : (Lit.int .i64 a0).wf = true) (a1 : Int) (_wf1 : (Lit.int .i64 a1).wf = true) :
    Calls Try.prog 3 #[.int .i64 a0, .int .i64 a1] W fun e w' => e = .returned (.bool true) ∧ Below W.heap.size W w' := by
  obtain ⟨r0, hs, hi⟩ := bothIsTurn a0 _wf0 a1 _wf1
  exact lawIsTurn_in W a0 _wf0 a1 _wf1  r0 (Lib.hid hs) (Lib.hid hi)
set_option maxRecDepth 100000 in
theorem FnExactIsTurn_lifted (os : Os) (started : os.Started) (H : Type) (enc : TypeId × Value → H) :
    ReturnsInHanded {} Try.checked os 3 .any (Rows.fnExactIsTurnSpec.pre6 enc Try.prog Try.f3 Rows.fnExactIsTurnRow.domain false) (Rows.fnExactIsTurnSpec.post enc Try.prog Try.f3 false true false false) := by
  refine returnsInHanded_of_change (C := Try.checked) ownKnob_none started (by kernel_rfl) Try.func3
    (ChangeSpec.witness6 (enc := enc) (C := Try.checked) false ⟨#[], #[.int .i64 0, .int .i64 0], []⟩ 8 (by kernel_rfl) (by kernel_rfl) (by kernel_rfl) (by kernel_rfl)) ?_
  intro W base args ds gs before hval0 hW _ _
  have hval : ∀ (j : Nat) t v, Try.f3.params[j]? = some t → args[j]? = some v → Value.okWide Try.prog W .any base t v := hval0
  have hW' := hW
  obtain ⟨p, q, hA0, hV, rfl, _, _⟩ := hW
  have hA : DataW.TrodAll enc Try.prog W 0 (fun _ => true) true Try.f3.params.toList args.toList ds p := hA0
  rw [Try.params3] at hA hval
  obtain ⟨v0, v1, d0, d1, p0, p1, rfl, rfl, rfl, h0, h1⟩ := trodAll_two hA
  obtain ⟨rfl, rfl⟩ := trodVars_none hV
  obtain ⟨a0, rfl, rfl, rfl, w0⟩ := open_int Try.underlying2 (hval 0 2 v0 rfl rfl) h0
  obtain ⟨a1, rfl, rfl, rfl, w1⟩ := open_int Try.underlying2 (hval 1 2 v1 rfl rfl) h1
  clear hA0 hval0
  refine (lawIsTurn_any W a0 w0 a1 w1).mono fun e W' ⟨he, hb⟩ => ?_
  subst he
  have hA2 := trodAll_mk2 (enc := enc) (w := W') (base := 0) (spare := fun b => decide (b < W.heap.size)) (held := true) (shut_int Try.underlying2 w0) (shut_int Try.underlying2 w1)
  exact ⟨_, rfl, _, _, _, [], _, [], hW', trodAll_cons_mk (shut_bool Try.underlying4 _) trodAll_mk0, hA2, rfl, hb.frame _, fun h => by cases h⟩
theorem FnExactIsTurn_holds : Rows.FnExactIsTurnSaid :=
  OpenClaim.holds_of_wide 3 Try.f3 rfl rfl rfl rfl rfl rfl rfl ⟨rfl, rfl, rfl, rfl, rfl⟩ rfl rfl rfl rfl rfl (by kernel_rfl) Try.func3 (by kernel_rfl)
    (of_decide_eq_true (by kernel_rfl)) (by unfold Func.isWrapper; first | (rw [if_pos (by decide +kernel)]; kernel_rfl) | (rw [if_neg (by decide +kernel)]; exact ⟨rfl, rfl⟩))
    (fun os started H enc _ => FnExactIsTurn_lifted os started H enc)
end Go.Proofs.Ytffhnkhjfggooaa
