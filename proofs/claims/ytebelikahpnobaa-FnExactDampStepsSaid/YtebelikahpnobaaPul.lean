/- Of any pulses the program says that they are valid, and the same, just where the model does: pulses as arguments. -/
import Derived.Test.YtebelikahpnobaaNum
import Derived.Test.YtebelikahpnobaaSmA
import Derived.Test.YtebelikahpnobaaLaw
import Derived.Lib.SmallJoins
namespace Go.Proofs.Ytebelikahpnobaa
open Go Go.ChangeShapes Go.WideShapes Go.ChangeAt Go.RowKit

theorem Rd.alloc {w : World} {xa : Option Addr} {n : Nat} {X : Nat → Nat} (h : Rd w xa n X) (o : Obj) : Rd (w.alloc o) xa n X := h.below ((Below.refl _ _).alloc (Nat.le_refl _) o)
def four (a b c d : Nat) (i : Nat) : Nat := if i = 0 then a else if i = 1 then b else if i = 2 then c else d
theorem rd_four (w : World) (a b c d : Nat) (t : TypeId) : Rd (w.alloc (.cells #[.float .f32 a, .float .f32 b, .float .f32 c, .float .f32 d] t)) (some ⟨w.heap.size, 0, none⟩) 4 (four a b c d) := by
  refine ⟨w.heap.size, 0, fun _ => rfl, fun i hi => ?_⟩
  rw [Nat.zero_add, World.cell?_alloc_new]
  rcases (by omega : i = 0 ∨ i = 1 ∨ i = 2 ∨ i = 3) with rfl | rfl | rfl | rfl <;> rfl
set_option maxRecDepth 100000 in
theorem wf_four {a b c d : Nat} (ha : a < 4294967296) (hb : b < 4294967296) (hc : c < 4294967296) (hd : d < 4294967296) : Wf32 (four a b c d) 4 := fun i hi => by
  rcases (by omega : i = 0 ∨ i = 1 ∨ i = 2 ∨ i = 3) with rfl | rfl | rfl | rfl
  · exact ha
  · exact hb
  · exact hc
  · exact hd
section
variable {H : Type} {enc : TypeId × Value → H} {w : World} {base : Nat} {spare : Nat → Bool} {held : Bool}
set_option maxRecDepth 100000 in
/-- An argument that is a pulse. -/
theorem open_pul {r : Reach} {b0 : Nat} {v : Value} {d : DataW H} {p : List MemPlace} (hv : Value.okWide Try.prog w r b0 24 v) (h : DataW.Trod enc Try.prog w base spare held 24 v d p) :
    ∃ (x0 x1 x2 x3 : Nat), v = .agg #[.float .f32 x0, .float .f32 x1, .float .f32 x2, .float .f32 x3] ∧ (x0 < 4294967296 ∧ x1 < 4294967296 ∧ x2 < 4294967296 ∧ x3 < 4294967296) := by
  obtain ⟨v0, v1, v2, v3, y0, y1, y2, y3, k, rfl, _, _, t0, t1, t2, t3⟩ := Joins.open_agg4 Try.underlying24 (by kernel_rfl) (by kernel_rfl) hv h
  obtain ⟨x0, rfl, w0⟩ := trod_float Try.underlying22 t0
  obtain ⟨x1, rfl, w1⟩ := trod_float Try.underlying22 t1
  obtain ⟨x2, rfl, w2⟩ := trod_float Try.underlying22 t2
  obtain ⟨x3, rfl, w3⟩ := trod_float Try.underlying22 t3
  exact ⟨x0, x1, x2, x3, rfl, f32_lt w0, f32_lt w1, f32_lt w2, f32_lt w3⟩
end
def PulRet (a b c d : Nat) (w : World) (e : Ending) (w' : World) : Prop := e = .returned (.agg #[.float .f32 a, .float .f32 b, .float .f32 c, .float .f32 d]) ∧ Below w.heap.size w w'
set_option maxRecDepth 100000 in
set_option maxHeartbeats 800000 in
theorem toPulse_any (a b c d : Nat) (w : World) : Calls Try.prog 16 #[.agg #[.float .f32 a, .float .f32 b, .float .f32 c, .float .f32 d]] w (PulRet a b c d w) := by
  have hst := run_store_f32
  go_enter Try.func16, Try.ntmps16
  go_wp2
  exact bodyPost_ret (v := .agg #[.float .f32 a, .float .f32 b, .float .f32 c, .float .f32 d]) (by simp [results, Try.results16, go_sem]) rfl ⟨rfl, by repeat (first | with_reducible exact Below.refl _ _ | with_reducible refine Below.setCell ?_ (by simp; try omega) _ | with_reducible refine Below.alloc ?_ (by simp; try omega) _)⟩
/-- A variable of four numbers. -/
def Box4 (w : World) (b : Nat) (x y z u : Nat) : Prop := w.cell? ⟨b, 0, none⟩ = some (.float .f32 x) ∧ w.cell? ⟨b, 1, none⟩ = some (.float .f32 y) ∧ w.cell? ⟨b, 2, none⟩ = some (.float .f32 z) ∧ w.cell? ⟨b, 3, none⟩ = some (.float .f32 u)
theorem Box4.below {w w' : World} {b x y z u : Nat} (h : Box4 w b x y z u) (hb : Below w.heap.size w w') : Box4 w' b x y z u :=
  ⟨(hb.cell (p := ⟨b, 0, none⟩) (World.block_lt_of_cell? w _ h.1)).trans h.1, (hb.cell (p := ⟨b, 1, none⟩) (World.block_lt_of_cell? w _ h.2.1)).trans h.2.1,
   (hb.cell (p := ⟨b, 2, none⟩) (World.block_lt_of_cell? w _ h.2.2.1)).trans h.2.2.1, (hb.cell (p := ⟨b, 3, none⟩) (World.block_lt_of_cell? w _ h.2.2.2)).trans h.2.2.2⟩
theorem box4_alloc (w : World) (x y z u : Nat) (t : TypeId) : Box4 (w.alloc (.cells #[.float .f32 x, .float .f32 y, .float .f32 z, .float .f32 u] t)) w.heap.size x y z u := ⟨by simp, by simp, by simp, by simp⟩
def okPul (a b c d : Nat) : Bool := (isG a && isG d) && (isFin .f32 b && isFin .f32 c)
set_option maxRecDepth 100000 in
set_option maxHeartbeats 1600000 in
theorem specVP_any (a b c d : Nat) (w : World) : Calls Try.prog 15 #[.agg #[.float .f32 a, .float .f32 b, .float .f32 c, .float .f32 d]] w fun e w' => e = .returned (.bool (okPul a b c d)) ∧ Below w.heap.size w w' := by
  cases c1 : isG a
  · skip
    have HK := Lib.hid (show okPul a b c d = false by simp [okPul, *])
    go_enter Try.func15, Try.ntmps15
    go_wp2_with (first | (first | (go_at_call 58; refine (l01Finite_any _ _).mono ?_; rintro e w' ⟨rfl, q, rfl⟩) | (go_at_call 54; refine (l02Least_any _ _).mono ?_; rintro e w' ⟨rfl, q, rfl⟩)) | go_in)
    go_ret
    refine ⟨ret_bool HK.out.symm, ?_⟩
    (repeat (first | with_reducible exact Below.refl _ _ | with_reducible refine Below.drewN ?_ _ | with_reducible refine Below.setCell ?_ (by simp; try omega) _ | with_reducible refine Below.alloc ?_ (by simp; try omega) _))
  · skip
    cases c2 : isFin .f32 b
    · skip
      have HK := Lib.hid (show okPul a b c d = false by simp [okPul, *])
      go_enter Try.func15, Try.ntmps15
      go_wp2_with (first | (first | (go_at_call 58; refine (l01Finite_any _ _).mono ?_; rintro e w' ⟨rfl, q, rfl⟩) | (go_at_call 54; refine (l02Least_any _ _).mono ?_; rintro e w' ⟨rfl, q, rfl⟩)) | go_in)
      go_ret
      refine ⟨ret_bool HK.out.symm, ?_⟩
      (repeat (first | with_reducible exact Below.refl _ _ | with_reducible refine Below.drewN ?_ _ | with_reducible refine Below.setCell ?_ (by simp; try omega) _ | with_reducible refine Below.alloc ?_ (by simp; try omega) _))
    · skip
      cases c3 : isFin .f32 c
      · skip
        have HK := Lib.hid (show okPul a b c d = false by simp [okPul, *])
        go_enter Try.func15, Try.ntmps15
        go_wp2_with (first | (first | (go_at_call 58; refine (l01Finite_any _ _).mono ?_; rintro e w' ⟨rfl, q, rfl⟩) | (go_at_call 54; refine (l02Least_any _ _).mono ?_; rintro e w' ⟨rfl, q, rfl⟩)) | go_in)
        go_ret
        refine ⟨ret_bool HK.out.symm, ?_⟩
        (repeat (first | with_reducible exact Below.refl _ _ | with_reducible refine Below.drewN ?_ _ | with_reducible refine Below.setCell ?_ (by simp; try omega) _ | with_reducible refine Below.alloc ?_ (by simp; try omega) _))
      · skip
        have HK := Lib.hid (show okPul a b c d = isG d by simp [okPul, *])
        go_enter Try.func15, Try.ntmps15
        go_wp2_with (first | (first | (go_at_call 58; refine (l01Finite_any _ _).mono ?_; rintro e w' ⟨rfl, q, rfl⟩) | (go_at_call 54; refine (l02Least_any _ _).mono ?_; rintro e w' ⟨rfl, q, rfl⟩)) | go_in)
        go_ret
        refine ⟨ret_bool HK.out.symm, ?_⟩
        (repeat (first | with_reducible exact Below.refl _ _ | with_reducible refine Below.drewN ?_ _ | with_reducible refine Below.setCell ?_ (by simp; try omega) _ | with_reducible refine Below.alloc ?_ (by simp; try omega) _))
set_option maxRecDepth 100000 in
set_option maxHeartbeats 1600000 in
theorem implVP_any (a b c d : Nat) (w : World) : Calls Try.prog 17 #[.agg #[.float .f32 a, .float .f32 b, .float .f32 c, .float .f32 d]] w fun e w' => e = .returned (.bool (okPul a b c d)) ∧ Below w.heap.size w w' := by
  have hg := gL_two a d
  have hf := finL_two b c
  cases c1 : gL (duo a d) 2
  · skip
    have HK := Lib.hid (show okPul a b c d = false by unfold okPul; rw [← hg]; (first | (simp [c1, c2, c3, c4, c5, c6, c7]; done) | (simp [c1, c2, c3, c4, c5, c6]; done) | (simp [c1, c2, c3, c4, c5]; done) | (simp [c1, c2, c3, c4]; done) | (simp [c1, c2, c3]; done) | (simp [c1, c2]; done) | (simp [c1]; done)))
    clear hg hf
    go_enter Try.func17, Try.ntmps17
    go_wp2_with (first | (first | (go_at_call 46; refine (areAtLeastZero_any _ _ _ (duo _ _) _ (by exact rd_two' _ _ _ _ (by simp)) (by omega)).mono ?_; rintro e w' ⟨rfl, q, rfl⟩) | (go_at_call 47; refine (allFinite_any _ _ _ (duo _ _) _ (by exact rd_two' _ _ _ _ (by simp)) (by omega)).mono ?_; rintro e w' ⟨rfl, q, rfl⟩)) | go_in)
    go_ret
    refine ⟨ret_bool HK.out.symm, ?_⟩
    (repeat (first | with_reducible exact Below.refl _ _ | with_reducible refine Below.drewN ?_ _ | with_reducible refine Below.setCell ?_ (by simp; try omega) _ | with_reducible refine Below.alloc ?_ (by simp; try omega) _))
  · skip
    have HK := Lib.hid (show okPul a b c d = finL (duo b c) 2 by unfold okPul; rw [← hg, ← hf]; (first | (simp [c1, c2, c3, c4, c5, c6, c7]; done) | (simp [c1, c2, c3, c4, c5, c6]; done) | (simp [c1, c2, c3, c4, c5]; done) | (simp [c1, c2, c3, c4]; done) | (simp [c1, c2, c3]; done) | (simp [c1, c2]; done) | (simp [c1]; done)))
    clear hg hf
    go_enter Try.func17, Try.ntmps17
    go_wp2_with (first | (first | (go_at_call 46; refine (areAtLeastZero_any _ _ _ (duo _ _) _ (by exact rd_two' _ _ _ _ (by simp)) (by omega)).mono ?_; rintro e w' ⟨rfl, q, rfl⟩) | (go_at_call 47; refine (allFinite_any _ _ _ (duo _ _) _ (by exact rd_two' _ _ _ _ (by simp)) (by omega)).mono ?_; rintro e w' ⟨rfl, q, rfl⟩)) | go_in)
    go_ret
    refine ⟨ret_bool HK.out.symm, ?_⟩
    (repeat (first | with_reducible exact Below.refl _ _ | with_reducible refine Below.drewN ?_ _ | with_reducible refine Below.setCell ?_ (by simp; try omega) _ | with_reducible refine Below.alloc ?_ (by simp; try omega) _))
set_option maxRecDepth 100000 in
set_option maxHeartbeats 1600000 in
theorem lawValidPulse_any (W : World) (a b c d : Nat) (_ : a < 4294967296 ∧ b < 4294967296 ∧ c < 4294967296 ∧ d < 4294967296) :
    Calls Try.prog 3 #[.agg #[.float .f32 a, .float .f32 b, .float .f32 c, .float .f32 d]] W fun e w' => e = .returned (.bool true) ∧ Below W.heap.size W w' := by
  have hne : ∀ z : Bool, (z != z) = false := by simp
  have HB := Blw.next (Blw.refl W) ((Below.refl _ W).alloc (Nat.le_refl _) (.cells #[.float .f32 a, .float .f32 b, .float .f32 c, .float .f32 d] 24))
  have HQ := box4_alloc W a b c d 24
  obtain ⟨q0, q1, q2, q3⟩ := HQ
  go_enter Try.func3, Try.ntmps3
  go_wp2_with fail
  refine (toPulse_any _ _ _ _ _).mono ?_
  rintro e0 w0 ⟨rfl, B0⟩
  have HQ := Box4.below ⟨q0, q1, q2, q3⟩ B0
  clear q0 q1 q2 q3
  obtain ⟨q0, q1, q2, q3⟩ := HQ
  replace HB := Blw.next (by exact HB) B0
  clear B0
  go_wp2_with fail
  refine (specVP_any _ _ _ _ _).mono ?_
  rintro e0 w0 ⟨rfl, B0⟩
  have HQ := Box4.below ⟨q0, q1, q2, q3⟩ B0
  clear q0 q1 q2 q3
  obtain ⟨q0, q1, q2, q3⟩ := HQ
  replace HB := Blw.next (by exact HB) B0
  clear B0
  go_wp2_with fail
  refine (toPulse_any _ _ _ _ _).mono ?_
  rintro e0 w0 ⟨rfl, B0⟩
  have HQ := Box4.below ⟨q0, q1, q2, q3⟩ B0
  clear q0 q1 q2 q3
  obtain ⟨q0, q1, q2, q3⟩ := HQ
  replace HB := Blw.next (by exact HB) B0
  clear B0
  go_wp2_with fail
  refine (implVP_any _ _ _ _ _).mono ?_
  rintro e0 w0 ⟨rfl, B0⟩
  have HQ := Box4.below ⟨q0, q1, q2, q3⟩ B0
  clear q0 q1 q2 q3
  obtain ⟨q0, q1, q2, q3⟩ := HQ
  replace HB := Blw.next (by exact HB) B0
  clear B0
  go_wp2
  go_ret
  exact ⟨rfl, Blw.out (by exact HB)⟩
set_option maxRecDepth 100000 in
theorem FnExactValidPulse_lifted (os : Os) (started : os.Started) (H : Type) (enc : TypeId × Value → H) :
    ReturnsInHanded {} Try.checked os 3 .any (Rows.fnExactValidPulseSpec.pre6 enc Try.prog Try.f3 Rows.fnExactValidPulseRow.domain false) (Rows.fnExactValidPulseSpec.post enc Try.prog Try.f3 false true false false) := by
  refine returnsInHanded_of_change (C := Try.checked) ownKnob_none started (by kernel_rfl) Try.func3
    (ChangeSpec.witness6 (enc := enc) (C := Try.checked) false ⟨#[], #[.agg #[.float .f32 0, .float .f32 0, .float .f32 0, .float .f32 0]], []⟩ 8 (by kernel_rfl) (by kernel_rfl) (by kernel_rfl) (by kernel_rfl)) ?_
  intro W base args ds gs before hval0 hW _ _
  have hval : ∀ (j : Nat) t v, Try.f3.params[j]? = some t → args[j]? = some v → Value.okWide Try.prog W .any base t v := hval0
  have hW' := hW
  obtain ⟨p, q, hA0, hV, rfl, _, _⟩ := hW
  have hA : DataW.TrodAll enc Try.prog W 0 (fun _ => true) true Try.f3.params.toList args.toList ds p := hA0
  rw [Try.params3] at hA hval
  obtain ⟨v0, vs0, d0, ds0, p0, q0, hargs, rfl, rfl, h0, r0⟩ := trodAll_cons hA
  obtain ⟨rfl, rfl, rfl⟩ := trodAll_nil r0
  obtain rfl : args = #[v0] := by cases args; simp_all
  obtain ⟨rfl, rfl⟩ := trodVars_none hV
  have k0 := h0
  obtain ⟨x0, y0, m0, e0, rfl, w0⟩ := open_pul (hval 0 24 v0 rfl rfl) h0
  have b0 : ∀ x ∈ p0, x.block < W.heap.size := fun x hx => by have := hW'.lt x (by simp [hx]); simpa using this
  clear hA0 hval0
  refine (lawValidPulse_any W x0 y0 m0 e0 w0).mono fun e W' ⟨he, hb⟩ => ?_
  subst he
  have hA2 := trodAll_cons_mk (enc := enc) (w := W') (base := 0) (spare := fun b => decide (b < W.heap.size)) (held := true) (Below.trod laidOut (by kernel_rfl) (of_decide_eq_true (by kernel_rfl)) k0 hb b0) trodAll_mk0
  exact ⟨_, rfl, _, _, _, [], _, [], hW', trodAll_cons_mk (shut_bool Try.underlying4 _) trodAll_mk0, hA2, rfl, hb.frame _, fun h => by cases h⟩
theorem FnExactValidPulse_holds : Rows.FnExactValidPulseSaid :=
  OpenClaim.holds_of_wide 3 Try.f3 rfl rfl rfl rfl rfl rfl rfl ⟨rfl, rfl, rfl, rfl, rfl⟩ rfl rfl rfl rfl rfl (by kernel_rfl) Try.func3 (by kernel_rfl)
    (of_decide_eq_true (by kernel_rfl)) (by unfold Func.isWrapper; first | (rw [if_pos (by decide +kernel)]; kernel_rfl) | (rw [if_neg (by decide +kernel)]; exact ⟨rfl, rfl⟩))
    (fun os started H enc _ => FnExactValidPulse_lifted os started H enc)
end Go.Proofs.Ytebelikahpnobaa
