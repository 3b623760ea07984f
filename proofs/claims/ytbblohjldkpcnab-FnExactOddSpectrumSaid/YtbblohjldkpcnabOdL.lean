
/- Of any spectra the program tells the one that is least like the mean just where the model does, and the same; they are not changed: for all arguments. -/
import Derived.Test.YtbblohjldkpcnabSame
import Derived.Test.YtbblohjldkpcnabMg8
namespace Go.Proofs.Ytbblohjldkpcnab
open Go Go.ChangeShapes Go.WideShapes Go.ChangeAt Go.RowKit

/-- What is told of OddSpectrum. -/
def RetOddSpectrum (r0 : Int) (r1 : Bool) (w : World) (e : Ending) (w' : World) : Prop := e = .returned (.tuple #[.int .i64 r0, .bool r1]) ∧ Below w.heap.size w w'
theorem bothOddSpectrum (K : Nat) (N : Nat → Nat) (X : Nat → Nat → Nat) (h : K + totN N K ≤ 1048576) :
    ∃ (R : Int) (ok : Bool), (∀ (xa : Option Addr) (c : Nat) (w : World), RdR w xa K N X → Calls Try.prog 24 #[.slice xa K c] w (RetOddSpectrum R ok w)) ∧
      ∀ (xa : Option Addr) (c : Nat) (w : World), RdR w xa K N X → Calls Try.prog 25 #[.slice xa K c] w (RetOddSpectrum R ok w) :=
  ⟨_, _, fun xa c w hX => specOdd_any xa K c N X w hX h _ (Lib.hid rfl) _ (Lib.hid rfl), fun xa c w hX => implOdd_any xa K c N X w hX h _ (Lib.hid rfl) _ (Lib.hid rfl)⟩
set_option maxRecDepth 100000 in
set_option maxHeartbeats 6400000 in
theorem lawOddSpectrum_in (W : World) (x0 : Option Addr) (n0 c0 : Nat) (N0 : Nat → Nat) (X0 : Nat → Nat → Nat) (hX0 : RdR W x0 n0 N0 X0) (_hm0 : n0 ≤ maxLen) (_hN0 : ∀ j, j < n0 → N0 j ≤ maxLen) (h0 : n0 + totN N0 n0 ≤ 1048576) (r0 : Int) (r1 : Bool) (HS : Hid (∀ (x0 : Option Addr) (c0 : Nat) (w : World), RdR w x0 n0 N0 X0 → Calls Try.prog 24 #[.slice x0 n0 c0] w (RetOddSpectrum r0 r1 w))) (HI : Hid (∀ (x0 : Option Addr) (c0 : Nat) (w : World), RdR w x0 n0 N0 X0 → Calls Try.prog 25 #[.slice x0 n0 c0] w (RetOddSpectrum r0 r1 w))) :
    Calls Try.prog 4 #[.slice x0 n0 c0] W fun e w' => e = .returned (.bool true) ∧ Below W.heap.size W w' := by
  have hcv := fun (R : Nat) (s t : Nat) => show canon .f64 (pick .f64 (fconv .f32 (pick .f32 R s) .f64) t) = canon .f64 (fconv .f32 R .f64) by rw [canon_pick, fconv_pick]
  have hcw := fun (R : Nat) (s t : Nat) => show canon .f64 (pick .f64 R s) = canon .f64 (pick .f64 R t) by rw [canon_pick, canon_pick]
  have HCV := Lib.hid hcv
  have HCW := Lib.hid hcw
  clear hcv hcw
  have hnb1 : (r1 != r1) = false := by simp
  have HB := Blw.refl W
  have hz0 : (0 : Int) ≤ 1048576 - (n0 : Int) - (totN N0 n0 : Int) := by omega
  go_enter Try.func4, Try.ntmps4
  go_wp2_with fail
  refine (szFF_yes _ _ _ N0 X0 _ (by exact hX0) h0).mono ?_
  rintro e0 w0 ⟨rfl, rfl⟩
  go_wp2_with fail
  refine (toFF_any _ _ _ N0 X0 _ (by exact hX0.below (Blw.out (by exact HB))) h0).mono ?_
  rintro e0 w0 ⟨_, _, rfl, O0, B0⟩
  replace HB := Blw.next (by exact HB) B0
  have C0 := O0
  clear O0 B0
  go_wp2_with fail
  refine (HS.out _ _ _ (OwnRR.rd (by exact C0))).mono ?_
  rintro e0 w1 ⟨rfl, B0⟩
  clear C0
  replace HB := Blw.next (by exact HB) B0
  clear B0
  have Z0 := hX0.below HB.out
  have HL := Blw.refl w1
  have E0 := (Blw.out (by exact HL)).size
  go_wp2_with fail
  refine (toFF_any _ _ _ N0 X0 _ (by exact Z0.below (Blw.out (by exact HL))) h0).mono ?_
  rintro e0 w0 ⟨_, _, rfl, O0, B0⟩
  replace HL := Blw.next (by exact HL) B0
  have D0 := O0
  clear O0 B0
  have Qg0 := (fun j hj => OwnRR.lt (by exact D0) (i := j) hj)
  have Eg := (Blw.out (by exact HL)).size
  go_wp2_with fail
  refine (HI.out _ _ _ (OwnRR.rd (by exact D0))).mono ?_
  rintro e0 w2 ⟨rfl, B0⟩
  replace D0 := OwnRR.below (by exact D0) B0
  replace HL := Blw.next (by exact HL) B0
  clear B0
  go_wp2_with fail
  refine (toFF_any _ _ _ N0 X0 _ (by exact Z0.below (Blw.out (by exact HL))) h0).mono ?_
  rintro e0 w0 ⟨_, _, rfl, O0, B0⟩
  replace D0 := OwnRR.below (by exact D0) B0
  replace HL := Blw.next (by exact HL) B0
  have K0 := O0
  clear O0 B0
  go_wp2_with fail
  refine (eqFF_any _ _ _ _ _ N0 X0 _ (by exact OwnRR.rd (by exact D0)) (by exact OwnRR.rd (by exact K0)) h0).mono ?_
  rintro e0 w0 ⟨rfl, q, rfl⟩
  clear K0
  go_wp2
  go_ret
  exact ⟨rfl, (Blw.out (by exact HB)).trans ((Blw.out (by exact HL)).mono (Blw.out (by exact HB)).size)⟩
set_option maxRecDepth 100000 in
set_option maxHeartbeats 1600000 in
theorem lawOddSpectrum_any (W : World) (x0 : Option Addr) (n0 c0 : Nat) (N0 : Nat → Nat) (X0 : Nat → Nat → Nat) (hX0 : RdR W x0 n0 N0 X0) (_hm0 : n0 ≤ maxLen) (_hN0 : ∀ j, j < n0 → N0 j ≤ maxLen) :
    Calls Try.prog 4 #[.slice x0 n0 c0] W fun e w' => e = .returned (.bool true) ∧ Below W.heap.size W w' := by
  by_cases h0 : n0 + totN N0 n0 ≤ 1048576
  · skip
    obtain ⟨r0, r1, hs, hi⟩ := bothOddSpectrum n0 N0 X0 h0
    exact lawOddSpectrum_in W x0 n0 c0 N0 X0 hX0 _hm0 _hN0 h0 r0 r1 (Lib.hid hs) (Lib.hid hi)
  · go_enter Try.func4, Try.ntmps4
    go_wp2_with (go_at_call 15; refine (szFF_no _ _ _ N0 X0 _ (by exact hX0) _hm0 _hN0 (by omega)).mono ?_; rintro e0 w0 ⟨rfl, rfl⟩)
    go_ret
    exact ⟨rfl, (Blw.refl _).out⟩
set_option maxRecDepth 100000 in
theorem FnExactOddSpectrum_lifted (os : Os) (started : os.Started) (H : Type) (enc : TypeId × Value → H) :
    ReturnsInHanded {} Try.checked os 4 .any (Rows.fnExactOddSpectrumSpec.pre6 enc Try.prog Try.f4 Rows.fnExactOddSpectrumRow.domain false) (Rows.fnExactOddSpectrumSpec.post enc Try.prog Try.f4 false true false false) := by
  refine returnsInHanded_of_change (C := Try.checked) ownKnob_none started (by kernel_rfl) Try.func4
    (ChangeSpec.witness6 (enc := enc) (C := Try.checked) false ⟨#[], #[.slice none 0 0], []⟩ 8 (by kernel_rfl) (by kernel_rfl) (by kernel_rfl) (by kernel_rfl)) ?_
  intro W base args ds gs before hval0 hW _ _
  have hval : ∀ (j : Nat) t v, Try.f4.params[j]? = some t → args[j]? = some v → Value.okWide Try.prog W .any base t v := hval0
  have hW' := hW
  obtain ⟨p, q, hA0, hV, rfl, _, _⟩ := hW
  have hA : DataW.TrodAll enc Try.prog W 0 (fun _ => true) true Try.f4.params.toList args.toList ds p := hA0
  rw [Try.params4] at hA hval
  obtain ⟨v0, vs0, d0, ds0, p0, q0, hargs, rfl, rfl, h0, r0⟩ := trodAll_cons hA
  obtain ⟨rfl, rfl, rfl⟩ := trodAll_nil r0
  obtain rfl : args = #[v0] := by cases args; simp_all
  obtain ⟨rfl, rfl⟩ := trodVars_none hV
  obtain ⟨x0, n0, c0, rfl⟩ := okWide_slice Try.underlying22 (hval 0 22 v0 rfl rfl)
  have k0 := h0
  obtain ⟨lc0, cm0, N0, X0, w0, g0, _⟩ := open_ffs h0
  have b0 : ∀ x ∈ p0, x.block < W.heap.size := fun x hx => by have := hW'.lt x (by simp [hx]); simpa using this
  clear hA0 hval0
  refine (lawOddSpectrum_any W x0 n0 c0 N0 X0 w0 (Nat.le_trans lc0 cm0) g0).mono fun e W' ⟨he, hb⟩ => ?_
  subst he
  have hA2 := trodAll_cons_mk (enc := enc) (w := W') (base := 0) (spare := fun b => decide (b < W.heap.size)) (held := true) (Below.trod laidOut (by kernel_rfl) (of_decide_eq_true (by kernel_rfl)) k0 hb b0) trodAll_mk0
  exact ⟨_, rfl, _, _, _, [], _, [], hW', trodAll_cons_mk (shut_bool Try.underlying4 _) trodAll_mk0, hA2, rfl, hb.frame _, fun h => by cases h⟩
theorem FnExactOddSpectrum_holds : Rows.FnExactOddSpectrumSaid :=
  OpenClaim.holds_of_wide 4 Try.f4 rfl rfl rfl rfl rfl rfl rfl ⟨rfl, rfl, rfl, rfl, rfl⟩ rfl rfl rfl rfl rfl (by kernel_rfl) Try.func4 (by kernel_rfl)
    (of_decide_eq_true (by kernel_rfl)) (by unfold Func.isWrapper; first | (rw [if_pos (by decide +kernel)]; kernel_rfl) | (rw [if_neg (by decide +kernel)]; exact ⟨rfl, rfl⟩))
    (fun os started H enc _ => FnExactOddSpectrum_lifted os started H enc)
end Go.Proofs.Ytbblohjldkpcnab
