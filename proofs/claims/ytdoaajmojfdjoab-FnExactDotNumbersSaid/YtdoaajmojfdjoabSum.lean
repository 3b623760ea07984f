/- Of any list of numbers, and of any two, the program tells the sum and the sum of the products just where the model tells them, and the same; the lists are not changed: for all arguments. -/
import Derived.Test.YtdoaajmojfdjoabDot
namespace Go.Proofs.Ytdoaajmojfdjoab
open Go Go.ChangeShapes Go.WideShapes Go.ChangeAt Go.RowKit

def sumW (X : Nat → Nat) : Nat → Nat
  | 0 => 0
  | k + 1 => fbin .add .f32 (sumW X k) (X k)
theorem sumW_succ (X : Nat → Nat) (k : Nat) : fbin .add .f32 (sumW X k) (X k) = sumW X (k + 1) := rfl
set_option maxHeartbeats 1600000 in
theorem l01Sum_any (xa : Option Addr) (n cx : Nat) (X : Nat → Nat) (w : World) (hX : Rd w xa n X) (hn : n ≤ 1048576) :
    Calls Try.prog 67 #[.slice xa n cx] w (FltRet (sumW X n) w) := by
  obtain ⟨xb, xo, hxa, hcx⟩ := hX
  have HX := Lib.hid hcx
  clear hcx
  go_enter Try.func67, Try.ntmps67
  go_wp2
  go_loopw [3, 4] (fun q i wr => ∃ k m s : Nat, k ≤ n ∧ i = .int .i64 k ∧ wr = w.drewN m ∧ q = .float .f32 (pick .f32 (sumW X k) s)) (fun _ i _ => n - (intOf i).toNat)
  case atStart => exact ⟨0, 0, 0, Nat.zero_le _, rfl, rfl, by rw [show sumW X 0 = 0 from rfl, pick_zero]⟩
  case round =>
    obtain ⟨k, m, s, hk, rfl, rfl, rfl⟩ := hrel
    by_cases hlt : k < n
    · have e := hxa (by omega)
      subst e
      have h1 := HX.out k hlt
      have hp := fbin_pick_l .add .f32
      have hd := sumW_succ X k
      obtain ⟨D, hD⟩ : ∃ D, D = sumW X k := ⟨_, rfl⟩
      rw [← hD] at hd
      have HD := Lib.hid hD
      have HE := Lib.hid hd
      rw [← HD.out]
      clear hD hd
      go_wp2_with ((with_reducible refine wpL_fbin ?_); refine ⟨_, _, _, rfl, rfl, rfl, fun s n => ?_⟩)
      go_roundw
      case rel => exact ⟨k + 1, _, _, by omega, by go_num, rfl, by rw [HE.out]⟩
      case measure => simp [intOf]; omega
    · have hkn : k = n := by omega
      subst hkn
      go_wp2
      go_ret
      exact ⟨s, m, rfl, rfl⟩
set_option maxHeartbeats 1600000 in
theorem SumNumbers_any (xa : Option Addr) (n cx : Nat) (X : Nat → Nat) (w : World) (hX : Rd w xa n X) (hn : n ≤ 256) :
    Calls Try.prog 17 #[.slice xa n cx] w (NumRet (sumW X n) true w) := by
  obtain ⟨xb, xo, hxa, hcx⟩ := hX
  have HX := Lib.hid hcx
  clear hcx
  go_enter Try.func17, Try.ntmps17
  go_wp2
  go_loopw [4, 12] (fun q i wr => ∃ k m s : Nat, k ≤ n ∧ i = .int .i64 k ∧ wr = w.drewN m ∧ q = .float .f32 (pick .f32 (sumW X k) s)) (fun _ i _ => n - (intOf i).toNat)
  case atStart => exact ⟨0, 0, 0, Nat.zero_le _, rfl, rfl, by rw [show sumW X 0 = 0 from rfl, pick_zero]⟩
  case round =>
    obtain ⟨k, m, s, hk, rfl, rfl, rfl⟩ := hrel
    by_cases hlt : k < n
    · have e := hxa (by omega)
      subst e
      have h1 := HX.out k hlt
      have hp := fbin_pick_l .add .f32
      have hd := sumW_succ X k
      obtain ⟨D, hD⟩ : ∃ D, D = sumW X k := ⟨_, rfl⟩
      rw [← hD] at hd
      have HD := Lib.hid hD
      have HE := Lib.hid hd
      rw [← HD.out]
      clear hD hd
      go_wp2_with ((with_reducible refine wpL_fbin ?_); refine ⟨_, _, _, rfl, rfl, rfl, fun s n => ?_⟩)
      go_roundw
      case rel => exact ⟨k + 1, _, _, by omega, by go_num, rfl, by rw [HE.out]⟩
      case measure => simp [intOf]; omega
    · have hkn : k = n := by omega
      subst hkn
      go_wp2
      go_ret2
      exact ⟨s, m, rfl, rfl⟩
theorem SumNumbers_no (xa : Option Addr) (n cx : Nat) (w : World) (h : 256 < n) (hn : n ≤ 1048576) :
    Calls Try.prog 17 #[.slice xa n cx] w (NumRet 0 false w) := by
  have h' : (256 : Int) < (n : Int) := by omega
  clear h
  go_enter Try.func17, Try.ntmps17
  go_wp2
  go_ret2
  exact NumRet.no w
set_option maxHeartbeats 800000 in
theorem specSum_any (xa : Option Addr) (n cx : Nat) (X : Nat → Nat) (w : World) (hX : Rd w xa n X) (hn : n ≤ 256) :
    Calls Try.prog 15 #[.slice xa n cx] w (NumRet (sumW X n) true w) := by
  have h1 : decide ((n : Int) ≤ (256 : Int)) = true := decide_eq_true (by omega)
  go_enter Try.func15, Try.ntmps15
  go_wp2_with (first | (go_at_call 67; refine (l01Sum_any _ _ _ X _ hX (by omega)).mono ?_; rintro e w' ⟨s, q, rfl, rfl⟩) | (go_at_call 66; go_in))
  go_ret2
  exact ⟨_, _, rfl, rfl⟩
theorem specSum_no (xa : Option Addr) (n cx : Nat) (w : World) (h : 256 < n) (hn : n ≤ 1048576) :
    Calls Try.prog 15 #[.slice xa n cx] w (NumRet 0 false w) := by
  have h1 : decide ((n : Int) ≤ (256 : Int)) = false := decide_eq_false (by omega)
  clear h
  go_enter Try.func15, Try.ntmps15
  go_wp2_with (go_at_call 66; go_in)
  go_ret2
  exact NumRet.no w
set_option maxHeartbeats 800000 in
theorem specDot_any (xa ya : Option Addr) (n cx cy : Nat) (X Y : Nat → Nat) (w : World) (hX : Rd w xa n X) (hY : Rd w ya n Y) (hn : n ≤ 256) :
    Calls Try.prog 20 #[.slice xa n cx, .slice ya n cy] w (NumRet (dotW X Y n) true w) := by
  have h1 : decide ((n : Int) ≤ (256 : Int)) = true := decide_eq_true (by omega)
  go_enter Try.func20, Try.ntmps20
  go_wp2_with (first | (go_at_call 68; refine (l01Dot_any _ _ _ _ _ X Y _ hX hY (by omega)).mono ?_; rintro e w' ⟨s, q, rfl, rfl⟩) | (go_at_call 66; go_in))
  go_ret2
  exact ⟨_, _, rfl, rfl⟩
theorem specDot_no (xa ya : Option Addr) (n n' cx cy : Nat) (w : World) (h : 256 < n ∨ n ≠ n') (hn : n ≤ 1048576) :
    Calls Try.prog 20 #[.slice xa n cx, .slice ya n' cy] w (NumRet 0 false w) := by
  by_cases h1 : 256 < n
  · have hd : decide ((n : Int) ≤ (256 : Int)) = false := decide_eq_false (by omega)
    clear h h1
    go_enter Try.func20, Try.ntmps20
    go_wp2_with (go_at_call 66; go_in)
    go_ret2
    exact NumRet.no w
  · have h2 : ¬ n = n' := by omega
    have h3 : ((n : Int) != (n' : Int)) = true := by simpa using (by omega : ¬ (n : Int) = (n' : Int))
    have hd : decide ((n : Int) ≤ (256 : Int)) = true := decide_eq_true (by omega)
    clear h h1
    go_enter Try.func20, Try.ntmps20
    go_wp2_with (go_at_call 66; go_in)
    go_ret2
    exact NumRet.no w

/-- Both sides of a law, told as one: what they tell, and whether. -/
theorem conv_same (R s t : Nat) : canon .f64 (pick .f64 (fconv .f32 (pick .f32 R s) .f64) t) = canon .f64 (fconv .f32 R .f64) := by rw [canon_pick, fconv_pick]
set_option maxHeartbeats 3200000 in
theorem lawSumNumbers_any (W : World) (xa : Option Addr) (n cx : Nat) (X : Nat → Nat) (hX : Rd W xa n X) :
    Calls Try.prog 3 #[.slice xa n cx] W fun e w' => e = .returned (.bool true) ∧ Below W.heap.size W w' := by
  have HB := Blw.refl W
  have hc := conv_same
  by_cases h1 : n ≤ 1048576
  · obtain ⟨R, ok, hspec, himpl⟩ : ∃ R ok, (∀ xa cx w, Rd w xa n X → Calls Try.prog 15 #[.slice xa n cx] w (NumRet R ok w)) ∧ (∀ xa cx w, Rd w xa n X → Calls Try.prog 17 #[.slice xa n cx] w (NumRet R ok w)) := by
      by_cases h2 : n ≤ 256
      · exact ⟨_, _, fun xa cx w h => specSum_any xa n cx X w h h2, fun xa cx w h => SumNumbers_any xa n cx X w h h2⟩
      · exact ⟨_, _, fun xa cx w _ => specSum_no xa n cx w (by omega) h1, fun xa cx w _ => SumNumbers_no xa n cx w (by omega) h1⟩
    have HS := Lib.hid hspec
    have HI := Lib.hid himpl
    clear hspec himpl
    go_enter Try.func3, Try.ntmps3
    go_wp2_with fail
    refine (toF_any _ _ _ _ _ (by exact hX) h1).mono ?_
    rintro e0 w0 ⟨rfl, O0, B0⟩
    have X1 := rd_copied O0
    replace hX := Rd.below (by exact hX) B0
    replace HB := Blw.next (by exact HB) B0
    clear O0 B0
    go_wp2_with fail
    refine (HS.out _ _ _ (by exact X1)).mono ?_
    rintro e0 w0 ⟨s1, q, rfl, rfl⟩
    clear X1
    go_wp2_with fail
    refine (toF_any _ _ _ _ _ (by exact hX) h1).mono ?_
    rintro e0 w0 ⟨rfl, O0, B0⟩
    have X2 := rd_copied O0
    replace hX := Rd.below (by exact hX) B0
    replace HB := Blw.next (by exact HB) B0
    clear O0 B0
    go_wp2_with fail
    refine (HI.out _ _ _ (by exact X2)).mono ?_
    rintro e0 w0 ⟨s2, q, rfl, rfl⟩
    go_wp2_with (first | ((with_reducible refine wpL_fconv ?_); refine ⟨_, _, _, rfl, Option.isSome_iff_exists.2 ⟨_, Try.underlying23⟩, Try.underlying28, FloatKind.noConfusion, convOk_widen _, fun s n => ?_⟩) | (go_at_call 18; refine (sameFloat_any _ _ _ ((hc _ _ _).trans (hc _ _ _).symm)).mono ?_; rintro e w' ⟨rfl, q, rfl⟩))
    go_wp2_with fail
    refine (toF_any _ _ _ _ _ (by exact hX) h1).mono ?_
    rintro e0 w0 ⟨rfl, O0, B0⟩
    have X3 := rd_copied O0
    replace hX := Rd.below (by exact hX) B0
    replace X2 := Rd.below (by exact X2) B0
    replace HB := Blw.next (by exact HB) B0
    clear O0 B0
    go_wp2_with fail
    refine (eqF_any _ _ _ _ _ X X _ (by exact X2) (by exact X3) h1 (fun _ _ => rfl)).mono ?_
    rintro e0 w0 ⟨rfl, q, rfl⟩
    go_wp2
    go_ret
    exact ⟨rfl, Blw.out (by exact HB)⟩
  · have h1' : (1048576 : Int) < (n : Int) := by omega
    go_enter Try.func3, Try.ntmps3
    go_wp2
    go_ret
    exact ⟨rfl, HB.out⟩
set_option maxRecDepth 100000 in
theorem FnExactSumNumbers_lifted (os : Os) (started : os.Started) (H : Type) (enc : TypeId × Value → H) :
    ReturnsInHanded {} Try.checked os 3 .any (Rows.fnExactSumNumbersSpec.pre6 enc Try.prog Try.f3 Rows.fnExactSumNumbersRow.domain false) (Rows.fnExactSumNumbersSpec.post enc Try.prog Try.f3 false true false false) := by
  refine returnsInHanded_of_change (C := Try.checked) ownKnob_none started (by kernel_rfl) Try.func3
    (ChangeSpec.witness6 (enc := enc) (C := Try.checked) false ⟨#[], #[.slice none 0 0], []⟩ 8 (by kernel_rfl) (by kernel_rfl) (by kernel_rfl) (by kernel_rfl)) ?_
  intro W base args ds gs before hval0 hW _ _
  have hval : ∀ (j : Nat) t v, Try.f3.params[j]? = some t → args[j]? = some v → Value.okWide Try.prog W .any base t v := hval0
  have hW' := hW
  obtain ⟨p, q, hA0, hV, rfl, _, _⟩ := hW
  have hA : DataW.TrodAll enc Try.prog W 0 (fun _ => true) true Try.f3.params.toList args.toList ds p := hA0
  rw [Try.params3] at hA hval
  obtain ⟨v0, vs0, d0, ds0, p0, q0, hargs, rfl, rfl, h0, r0⟩ := trodAll_cons hA
  obtain ⟨rfl, rfl, rfl⟩ := trodAll_nil r0
  obtain rfl : args = #[v0] := by cases args; simp_all
  obtain ⟨rfl, rfl⟩ := trodVars_none hV
  obtain ⟨x0, n0, c0, rfl⟩ := okWide_slice Try.underlying22 (hval 0 22 v0 rfl rfl)
  have k0 := h0
  obtain ⟨_, _, a0, w0, _⟩ := open_f32s Try.underlying22 Try.underlying23 cellsF h0
  have b0 : ∀ x ∈ p0, x.block < W.heap.size := fun x hx => by have := hW'.lt x (by simp [hx]); simpa using this
  clear hA0 hval0
  refine (lawSumNumbers_any W x0 n0 c0 a0 w0).mono fun e W' ⟨he, hb⟩ => ?_
  subst he
  have hA2 := (trodAll_cons_mk (Below.trod laidOut (by kernel_rfl) (of_decide_eq_true (by kernel_rfl)) k0 hb b0) trodAll_mk0)
  exact ⟨_, rfl, _, _, _, [], _, [], hW', trodAll_cons_mk (shut_bool Try.underlying4 _) trodAll_mk0, hA2, rfl, hb.frame _, fun h => by cases h⟩
theorem FnExactSumNumbers_holds : Rows.FnExactSumNumbersSaid :=
  OpenClaim.holds_of_wide 3 Try.f3 rfl rfl rfl rfl rfl rfl rfl ⟨rfl, rfl, rfl, rfl, rfl⟩ rfl rfl rfl rfl rfl (by kernel_rfl) Try.func3 (by kernel_rfl)
    (of_decide_eq_true (by kernel_rfl)) (by unfold Func.isWrapper; first | (rw [if_pos (by decide +kernel)]; kernel_rfl) | (rw [if_neg (by decide +kernel)]; exact ⟨rfl, rfl⟩))
    (fun os started H enc _ => FnExactSumNumbers_lifted os started H enc)
set_option maxHeartbeats 3200000 in
theorem lawDotNumbers_any (W : World) (xa : Option Addr) (n cx : Nat) (X : Nat → Nat) (hX : Rd W xa n X) (ya : Option Addr) (n' cy : Nat) (Y : Nat → Nat) (hY : Rd W ya n' Y) :
    Calls Try.prog 4 #[.slice xa n cx, .slice ya n' cy] W fun e w' => e = .returned (.bool true) ∧ Below W.heap.size W w' := by
  have HB := Blw.refl W
  have hc := conv_same
  by_cases h1 : n ≤ 1048576
  · by_cases h2 : n' ≤ 1048576
    · obtain ⟨R, ok, hspec, himpl⟩ : ∃ R ok, (∀ xa ya cx cy w, Rd w xa n X → Rd w ya n' Y → Calls Try.prog 20 #[.slice xa n cx, .slice ya n' cy] w (NumRet R ok w)) ∧ (∀ xa ya cx cy w, Rd w xa n X → Rd w ya n' Y → Calls Try.prog 21 #[.slice xa n cx, .slice ya n' cy] w (NumRet R ok w)) := by
        by_cases h3 : n ≤ 256 ∧ n = n'
        · obtain ⟨h3, rfl⟩ := h3
          exact ⟨_, _, fun xa ya cx cy w h h' => specDot_any xa ya n cx cy X Y w h h' h3, fun xa ya cx cy w h h' => DotNumbers_any xa ya n cx cy X Y w h h' h3⟩
        · exact ⟨_, _, fun xa ya cx cy w _ _ => specDot_no xa ya n n' cx cy w (by omega) h1, fun xa ya cx cy w _ _ => DotNumbers_no xa ya n n' cx cy w (by omega) h1⟩
      have HS := Lib.hid hspec
      have HI := Lib.hid himpl
      clear hspec himpl
      go_enter Try.func4, Try.ntmps4
      go_wp2_with fail
      refine (toF_any _ _ _ _ _ (by exact hX) h1).mono ?_
      rintro e0 w0 ⟨rfl, O0, B0⟩
      have X1 := rd_copied O0
      replace hX := Rd.below (by exact hX) B0
      replace hY := Rd.below (by exact hY) B0
      replace HB := Blw.next (by exact HB) B0
      clear O0 B0
      go_wp2_with fail
      refine (toF_any _ _ _ _ _ (by exact hY) h2).mono ?_
      rintro e0 w0 ⟨rfl, O0, B0⟩
      have Y1 := rd_copied O0
      replace hX := Rd.below (by exact hX) B0
      replace hY := Rd.below (by exact hY) B0
      replace X1 := Rd.below (by exact X1) B0
      replace HB := Blw.next (by exact HB) B0
      clear O0 B0
      go_wp2_with fail
      refine (HS.out _ _ _ _ _ (by exact X1) (by exact Y1)).mono ?_
      rintro e0 w0 ⟨s1, q, rfl, rfl⟩
      clear X1 Y1
      go_wp2_with fail
      refine (toF_any _ _ _ _ _ (by exact hX) h1).mono ?_
      rintro e0 w0 ⟨rfl, O0, B0⟩
      have X2 := rd_copied O0
      replace hX := Rd.below (by exact hX) B0
      replace hY := Rd.below (by exact hY) B0
      replace HB := Blw.next (by exact HB) B0
      clear O0 B0
      go_wp2_with fail
      refine (toF_any _ _ _ _ _ (by exact hY) h2).mono ?_
      rintro e0 w0 ⟨rfl, O0, B0⟩
      have Y2 := rd_copied O0
      replace hX := Rd.below (by exact hX) B0
      replace hY := Rd.below (by exact hY) B0
      replace X2 := Rd.below (by exact X2) B0
      replace HB := Blw.next (by exact HB) B0
      clear O0 B0
      go_wp2_with fail
      refine (HI.out _ _ _ _ _ (by exact X2) (by exact Y2)).mono ?_
      rintro e0 w0 ⟨s2, q, rfl, rfl⟩
      go_wp2_with (first | ((with_reducible refine wpL_fconv ?_); refine ⟨_, _, _, rfl, Option.isSome_iff_exists.2 ⟨_, Try.underlying23⟩, Try.underlying28, FloatKind.noConfusion, convOk_widen _, fun s n => ?_⟩) | (go_at_call 18; refine (sameFloat_any _ _ _ ((hc _ _ _).trans (hc _ _ _).symm)).mono ?_; rintro e w' ⟨rfl, q, rfl⟩))
      go_wp2_with fail
      refine (toF_any _ _ _ _ _ (by exact hX) h1).mono ?_
      rintro e0 w0 ⟨rfl, O0, B0⟩
      have X3 := rd_copied O0
      replace hX := Rd.below (by exact hX) B0
      replace hY := Rd.below (by exact hY) B0
      replace X2 := Rd.below (by exact X2) B0
      replace Y2 := Rd.below (by exact Y2) B0
      replace HB := Blw.next (by exact HB) B0
      clear O0 B0
      go_wp2_with fail
      refine (eqF_any _ _ _ _ _ X X _ (by exact X2) (by exact X3) h1 (fun _ _ => rfl)).mono ?_
      rintro e0 w0 ⟨rfl, q, rfl⟩
      clear X2 X3
      go_wp2_with fail
      refine (toF_any _ _ _ _ _ (by exact hY) h2).mono ?_
      rintro e0 w0 ⟨rfl, O0, B0⟩
      have Y3 := rd_copied O0
      replace hX := Rd.below (by exact hX) B0
      replace hY := Rd.below (by exact hY) B0
      replace Y2 := Rd.below (by exact Y2) B0
      replace HB := Blw.next (by exact HB) B0
      clear O0 B0
      go_wp2_with fail
      refine (eqF_any _ _ _ _ _ Y Y _ (by exact Y2) (by exact Y3) h2 (fun _ _ => rfl)).mono ?_
      rintro e0 w0 ⟨rfl, q, rfl⟩
      go_wp2
      go_ret
      exact ⟨rfl, Blw.out (by exact HB)⟩
    · have h2' : (1048576 : Int) < (n' : Int) := by omega
      go_enter Try.func4, Try.ntmps4
      go_wp2
      go_ret
      exact ⟨rfl, HB.out⟩
  · have h1' : (1048576 : Int) < (n : Int) := by omega
    go_enter Try.func4, Try.ntmps4
    go_wp2
    go_ret
    exact ⟨rfl, HB.out⟩
set_option maxRecDepth 100000 in
theorem FnExactDotNumbers_lifted (os : Os) (started : os.Started) (H : Type) (enc : TypeId × Value → H) :
    ReturnsInHanded {} Try.checked os 4 .any (Rows.fnExactDotNumbersSpec.pre6 enc Try.prog Try.f4 Rows.fnExactDotNumbersRow.domain false) (Rows.fnExactDotNumbersSpec.post enc Try.prog Try.f4 false true false false) := by
  refine returnsInHanded_of_change (C := Try.checked) ownKnob_none started (by kernel_rfl) Try.func4
    (ChangeSpec.witness6 (enc := enc) (C := Try.checked) false ⟨#[], #[.slice none 0 0, .slice none 0 0], []⟩ 8 (by kernel_rfl) (by kernel_rfl) (by kernel_rfl) (by kernel_rfl)) ?_
  intro W base args ds gs before hval0 hW _ _
  have hval : ∀ (j : Nat) t v, Try.f4.params[j]? = some t → args[j]? = some v → Value.okWide Try.prog W .any base t v := hval0
  have hW' := hW
  obtain ⟨p, q, hA0, hV, rfl, _, _⟩ := hW
  have hA : DataW.TrodAll enc Try.prog W 0 (fun _ => true) true Try.f4.params.toList args.toList ds p := hA0
  rw [Try.params4] at hA hval
  obtain ⟨v0, v1, d0, d1, p0, p1, rfl, rfl, rfl, h0, h1⟩ := trodAll_two hA
  obtain ⟨rfl, rfl⟩ := trodVars_none hV
  obtain ⟨x0, n0, c0, rfl⟩ := okWide_slice Try.underlying22 (hval 0 22 v0 rfl rfl)
  have k0 := h0
  obtain ⟨_, _, a0, w0, _⟩ := open_f32s Try.underlying22 Try.underlying23 cellsF h0
  have b0 : ∀ x ∈ p0, x.block < W.heap.size := fun x hx => by have := hW'.lt x (by simp [hx]); simpa using this
  obtain ⟨x1, n1, c1, rfl⟩ := okWide_slice Try.underlying22 (hval 1 22 v1 rfl rfl)
  have k1 := h1
  obtain ⟨_, _, a1, w1, _⟩ := open_f32s Try.underlying22 Try.underlying23 cellsF h1
  have b1 : ∀ x ∈ p1, x.block < W.heap.size := fun x hx => by have := hW'.lt x (by simp [hx]); simpa using this
  clear hA0 hval0
  refine (lawDotNumbers_any W x0 n0 c0 a0 w0 x1 n1 c1 a1 w1).mono fun e W' ⟨he, hb⟩ => ?_
  subst he
  have hA2 := trodAll_mk2 (Below.trod laidOut (by kernel_rfl) (of_decide_eq_true (by kernel_rfl)) k0 hb b0) (Below.trod laidOut (by kernel_rfl) (of_decide_eq_true (by kernel_rfl)) k1 hb b1)
  exact ⟨_, rfl, _, _, _, [], _, [], hW', trodAll_cons_mk (shut_bool Try.underlying4 _) trodAll_mk0, hA2, rfl, hb.frame _, fun h => by cases h⟩
theorem FnExactDotNumbers_holds : Rows.FnExactDotNumbersSaid :=
  OpenClaim.holds_of_wide 4 Try.f4 rfl rfl rfl rfl rfl rfl rfl ⟨rfl, rfl, rfl, rfl, rfl⟩ rfl rfl rfl rfl rfl (by kernel_rfl) Try.func4 (by kernel_rfl)
    (of_decide_eq_true (by kernel_rfl)) (by unfold Func.isWrapper; first | (rw [if_pos (by decide +kernel)]; kernel_rfl) | (rw [if_neg (by decide +kernel)]; exact ⟨rfl, rfl⟩))
    (fun os started H enc _ => FnExactDotNumbers_lifted os started H enc)
end Go.Proofs.Ytdoaajmojfdjoab
