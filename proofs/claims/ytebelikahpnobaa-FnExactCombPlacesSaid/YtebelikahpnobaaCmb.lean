/- For all numbers and counts the program tells the places of a comb just where the model does, and the same; the list is new at each call: for all arguments. -/
import Derived.Test.YtebelikahpnobaaVec
import Derived.Test.YtebelikahpnobaaLev
import Derived.Test.YtebelikahpnobaaNum
import Derived.Test.YtebelikahpnobaaPushS
import Derived.Test.YtebelikahpnobaaIn
import Derived.Test.YtebelikahpnobaaArr
namespace Go.Proofs.Ytebelikahpnobaa
open Go Go.ChangeShapes Go.WideShapes Go.ChangeAt Go.RowKit

def cmbR (a b : Nat) (k : Nat) : Nat := fbin .add .f32 a (fbin .mul .f32 (floatOfInt .f32 (k : Int)) b)
set_option maxRecDepth 100000 in
set_option maxHeartbeats 3200000 in
theorem specCmb_yes (a b : Nat) (c : Nat) (w : World) (ha : isFin .f32 a = true) (hb : isP b = true) (h1 : 1 ≤ c) (h2 : c ≤ 32) :
    Calls Try.prog 25 #[.float .f32 a, .float .f32 b, .int .i64 (c : Int)] w (LevRet (cmbR a b) c w) := by
  obtain ⟨i0, hi, hz0, hz1, hz2⟩ := info_parts infoF
  have d1 : inB (c : Int) 1 32 = true := inB_yes (by omega) (by omega)
  have hp := fun op => fbin_pick_l op .f32
  have hq := fun op => fbin_pick_r op .f32
  go_enter Try.func25, Try.ntmps25
  go_wp2_with (first | (go_at_call 58; refine (l01Finite_any _ _).mono ?_; rintro e w' ⟨rfl, q, rfl⟩) | (go_at_call 50; refine (l02Above_any _ _).mono ?_; rintro e w' ⟨rfl, q, rfl⟩) | (go_at_call 59; refine (l00In_any _ _ _ _).mono ?_; rintro e w' ⟨rfl, rfl⟩))
  go_loopw [8, 9] (fun v i wr => ∃ (k : Nat) (X : Nat → Nat), k ≤ c ∧ i = .int .i64 (k : Int) ∧ wr.ownsRow w.heap.size 22 1 v k (rowOf X k) ∧ Like X (cmbR a b) k ∧ Below w.heap.size w wr) (fun _ i _ => c - (intOf i).toNat)
  case atStart => exact ⟨0, fun _ => 0, Nat.zero_le _, rfl, own_empty _ _, fun _ h => absurd h (Nat.not_lt_zero _), Below.alloc (Below.drewN (Below.refl _ _) _) (Nat.le_refl _) _⟩
  case round =>
    obtain ⟨k, X, hk, rfl, hownk, hL, hBk⟩ := hrel
    have hsz := hBk.size
    by_cases hlt : k < c
    · skip
      go_wp2_with (first | ((with_reducible refine wpL_fbin ?_); refine ⟨_, _, _, rfl, rfl, rfl, fun s n => ?_⟩) | (at_builtin; refine wpL_push hi hz0 hz1 hz2 rfl rfl rfl rfl (by exact hownk) (by omega) (by exact hsz) ?_; intro v' w1 hown' hB'))
      go_roundw
      case rel => exact ⟨k + 1, _, by omega, by go_num, hown', like_push hL rfl, Below.trans (Below.drewN hBk _) hB'⟩
      case measure => simp [intOf]; omega
    · have hkc : k = c := by omega
      subst hkc
      cases hf : finL X k
      · go_wp2_with (go_at_call 60; refine (l02List_any _ w.heap.size k X _ hownk (by omega)).mono ?_; rintro e w' ⟨rfl, q, rfl⟩)
        go_ret2
        exact levRet_no hf hL hBk
      · go_wp2_with (go_at_call 60; refine (l02List_any _ w.heap.size k X _ hownk (by omega)).mono ?_; rintro e w' ⟨rfl, q, rfl⟩)
        go_ret2
        exact levRet_yes hf hL hownk hBk
set_option maxRecDepth 100000 in
theorem specCmb_no (a b : Nat) (c : Int) (w : World) (R : Nat → Nat) (h : isFin .f32 a = false ∨ isP b = false ∨ inB c 1 32 = false) :
    Calls Try.prog 25 #[.float .f32 a, .float .f32 b, .int .i64 c] w (OutRet R 0 false w) := by
  cases c1 : isFin .f32 a
  · skip
    clear h
    go_enter Try.func25, Try.ntmps25
    go_wp2_with (first | (go_at_call 58; refine (l01Finite_any _ _).mono ?_; rintro e w' ⟨rfl, q, rfl⟩) | (go_at_call 50; refine (l02Above_any _ _).mono ?_; rintro e w' ⟨rfl, q, rfl⟩) | (go_at_call 59; refine (l00In_any _ _ _ _).mono ?_; rintro e w' ⟨rfl, rfl⟩))
    go_ret2
    refine OutRet.no ?_
    (repeat (first | with_reducible exact Below.refl _ _ | with_reducible refine Below.drewN ?_ _ | with_reducible refine Below.setCell ?_ (by simp; try omega) _ | with_reducible refine Below.alloc ?_ (by simp; try omega) _))
  · skip
    cases c2 : isP b
    · skip
      clear h
      go_enter Try.func25, Try.ntmps25
      go_wp2_with (first | (go_at_call 58; refine (l01Finite_any _ _).mono ?_; rintro e w' ⟨rfl, q, rfl⟩) | (go_at_call 50; refine (l02Above_any _ _).mono ?_; rintro e w' ⟨rfl, q, rfl⟩) | (go_at_call 59; refine (l00In_any _ _ _ _).mono ?_; rintro e w' ⟨rfl, rfl⟩))
      go_ret2
      refine OutRet.no ?_
      (repeat (first | with_reducible exact Below.refl _ _ | with_reducible refine Below.drewN ?_ _ | with_reducible refine Below.setCell ?_ (by simp; try omega) _ | with_reducible refine Below.alloc ?_ (by simp; try omega) _))
    · skip
      cases c3 : inB c 1 32
      · skip
        clear h
        go_enter Try.func25, Try.ntmps25
        go_wp2_with (first | (go_at_call 58; refine (l01Finite_any _ _).mono ?_; rintro e w' ⟨rfl, q, rfl⟩) | (go_at_call 50; refine (l02Above_any _ _).mono ?_; rintro e w' ⟨rfl, q, rfl⟩) | (go_at_call 59; refine (l00In_any _ _ _ _).mono ?_; rintro e w' ⟨rfl, rfl⟩))
        go_ret2
        refine OutRet.no ?_
        (repeat (first | with_reducible exact Below.refl _ _ | with_reducible refine Below.drewN ?_ _ | with_reducible refine Below.setCell ?_ (by simp; try omega) _ | with_reducible refine Below.alloc ?_ (by simp; try omega) _))
      · skip
        simp_all
set_option maxRecDepth 100000 in
set_option maxHeartbeats 3200000 in
theorem implCmb_yes (a b : Nat) (c : Nat) (w : World) (ha : isFin .f32 a = true) (hb : isP b = true) (h1 : 1 ≤ c) (h2 : c ≤ 32) :
    Calls Try.prog 26 #[.float .f32 a, .float .f32 b, .int .i64 (c : Int)] w (LevRet (cmbR a b) c w) := by
  obtain ⟨i0, hi, hz0, hz1, hz2⟩ := info_parts infoF
  have dl : decide ((c : Int) < 1) = false := decide_eq_false (by omega)
  have dg : decide (32 < (c : Int)) = false := decide_eq_false (by omega)
  have hp := fun op => fbin_pick_l op .f32
  have hq := fun op => fbin_pick_r op .f32
  have hm : c ≤ maxLen := by unfold maxLen; omega
  have hbz : i0.bytes * c ≤ 281474976710656 := by rw [hz2]; omega
  have hsm : ∀ q, w.heap.size ≤ (w.drewN q).heap.size := fun q => Nat.le_refl _
  have hBm : ∀ q, Below w.heap.size w (w.drewN q) := fun q => Below.drewN (Below.refl _ _) q
  go_enter Try.func26, Try.ntmps26
  go_wp2_with (first | (first | (go_at_call 61; refine (IsFinite_any _ _).mono ?_; rintro e w' ⟨rfl, q, rfl⟩) | (go_at_call 52; refine (isPositive_any _ _).mono ?_; rintro e w' ⟨rfl, q, rfl⟩)) | (at_make; refine wpList_make_full _ rfl _ _ 68 rfl w.heap.size 22 i0 (.float .f32 0) 1 Try.underlying68 hi hz0 hz1 _ _ _ _ c rfl rfl rfl rfl hbz hm (by exact hsm _) ?_))
  intro w1 hown hgr
  rw [madeF] at hown
  have hB : Below w.heap.size w w1 := (hBm _).grown hgr (hsm _) (fun _ h => by cases h)
  clear hgr hbz hm hi hz0 hz1 hz2 hBm hsm
  go_wp2
  go_loopw [9, 30] (fun _ i wr => ∃ (k : Nat) (X : Nat → Nat), k ≤ c ∧ i = .int .i64 k ∧ wr.ownsRow w.heap.size 22 1 (.slice (some ⟨w.heap.size, 0, none⟩) c c) c (rowOf X c) ∧ Like X (cmbR a b) k ∧ Below w.heap.size w wr) (fun _ i _ => c - (intOf i).toNat)
  case atStart => exact ⟨0, fun _ => 0, Nat.zero_le _, rfl, hown, fun _ h => absurd h (Nat.not_lt_zero _), hB⟩
  case round =>
    obtain ⟨k, X, hk, rfl, hownk, hL, hBk⟩ := hrel
    clear hown hB
    by_cases hlt : k < c
    · skip
      have st := fun q u => own_store hownk hlt q u
      have HO := Lib.hid hownk
      clear hownk
      go_wp2_with ((with_reducible refine wpL_fbin ?_); refine ⟨_, _, _, rfl, rfl, rfl, fun s n => ?_⟩)
      go_roundw
      case rel => exact ⟨k + 1, _, by omega, by go_num, own_stored (own_drew HO.out _) k _, like_push hL rfl, Below.setCell (Below.drewN hBk _) (Nat.le_refl _) _⟩
      case measure => simp [intOf]; omega
    · have hkc : k = c := by omega
      subst hkc
      cases hf : finL X k
      · go_wp2_with (go_at_call 62; refine (vecIf_any _ w.heap.size k X _ hownk (by omega)).mono ?_; rintro e w' ⟨rfl, q, rfl⟩)
        go_ret2
        exact levRet_no hf hL hBk
      · go_wp2_with (go_at_call 62; refine (vecIf_any _ w.heap.size k X _ hownk (by omega)).mono ?_; rintro e w' ⟨rfl, q, rfl⟩)
        go_ret2
        exact levRet_yes hf hL hownk hBk
set_option maxRecDepth 100000 in
theorem implCmb_no (a b : Nat) (c : Int) (w : World) (R : Nat → Nat) (h : isFin .f32 a = false ∨ isP b = false ∨ inB c 1 32 = false) :
    Calls Try.prog 26 #[.float .f32 a, .float .f32 b, .int .i64 c] w (OutRet R 0 false w) := by
  cases c1 : isFin .f32 a
  · skip
    clear h
    go_enter Try.func26, Try.ntmps26
    go_wp2_with (first | (go_at_call 61; refine (IsFinite_any _ _).mono ?_; rintro e w' ⟨rfl, q, rfl⟩) | (go_at_call 52; refine (isPositive_any _ _).mono ?_; rintro e w' ⟨rfl, q, rfl⟩))
    go_ret2
    refine OutRet.no ?_
    (repeat (first | with_reducible exact Below.refl _ _ | with_reducible refine Below.drewN ?_ _ | with_reducible refine Below.setCell ?_ (by simp; try omega) _ | with_reducible refine Below.alloc ?_ (by simp; try omega) _))
  · skip
    cases c2 : isP b
    · skip
      clear h
      go_enter Try.func26, Try.ntmps26
      go_wp2_with (first | (go_at_call 61; refine (IsFinite_any _ _).mono ?_; rintro e w' ⟨rfl, q, rfl⟩) | (go_at_call 52; refine (isPositive_any _ _).mono ?_; rintro e w' ⟨rfl, q, rfl⟩))
      go_ret2
      refine OutRet.no ?_
      (repeat (first | with_reducible exact Below.refl _ _ | with_reducible refine Below.drewN ?_ _ | with_reducible refine Below.setCell ?_ (by simp; try omega) _ | with_reducible refine Below.alloc ?_ (by simp; try omega) _))
    · skip
      cases c3 : decide (c < 1)
      rotate_left
      · skip
        clear h
        go_enter Try.func26, Try.ntmps26
        go_wp2_with (first | (go_at_call 61; refine (IsFinite_any _ _).mono ?_; rintro e w' ⟨rfl, q, rfl⟩) | (go_at_call 52; refine (isPositive_any _ _).mono ?_; rintro e w' ⟨rfl, q, rfl⟩))
        go_ret2
        refine OutRet.no ?_
        (repeat (first | with_reducible exact Below.refl _ _ | with_reducible refine Below.drewN ?_ _ | with_reducible refine Below.setCell ?_ (by simp; try omega) _ | with_reducible refine Below.alloc ?_ (by simp; try omega) _))
      · skip
        cases c4 : decide (32 < c)
        rotate_left
        · skip
          clear h
          go_enter Try.func26, Try.ntmps26
          go_wp2_with (first | (go_at_call 61; refine (IsFinite_any _ _).mono ?_; rintro e w' ⟨rfl, q, rfl⟩) | (go_at_call 52; refine (isPositive_any _ _).mono ?_; rintro e w' ⟨rfl, q, rfl⟩))
          go_ret2
          refine OutRet.no ?_
          (repeat (first | with_reducible exact Below.refl _ _ | with_reducible refine Below.drewN ?_ _ | with_reducible refine Below.setCell ?_ (by simp; try omega) _ | with_reducible refine Below.alloc ?_ (by simp; try omega) _))
        · skip
          have hc := inB_yes (n := c) (a := 1) (b := 32) (by simpa using c3) (by simpa using c4)
          simp_all
/-- What is told of CombPlaces. -/
def RetCombPlaces (R0 : Nat → Nat) (m0 : Nat) (r1 : Bool) (w : World) (e : Ending) (w' : World) : Prop := ∃ (v0 : Value) (Y0 : Nat → Nat), e = .returned (.tuple #[v0, .bool r1]) ∧ w'.ownsRow w.heap.size 22 1 v0 m0 (rowOf Y0 m0) ∧ Like Y0 R0 m0 ∧ m0 ≤ 1048576 ∧ Below w.heap.size w w'
theorem bothCombPlaces (a : Nat) (_ : (Lit.float .f32 a).wf = true) (b : Nat) (_ : (Lit.float .f32 b).wf = true) (c : Int) (_ : (Lit.int .i64 c).wf = true) : ∃ (R : Nat → Nat) (m : Nat) (ok : Bool),
    (∀ (w : World), Calls Try.prog 25 #[.float .f32 a, .float .f32 b, .int .i64 c] w (RetCombPlaces R m ok w)) ∧ ∀ (w : World), Calls Try.prog 26 #[.float .f32 a, .float .f32 b, .int .i64 c] w (RetCombPlaces R m ok w) := by
  have conv : ∀ {R : Nat → Nat} {n : Nat} {ok : Bool} {w : World} {e : Ending} {w' : World}, n ≤ 1048576 → OutRet R n ok w e w' → RetCombPlaces R n ok w e w' := fun hn ⟨v, X, he, ho, hL, hB⟩ => ⟨v, X, he, ho, hL, hn, hB⟩
  by_cases h : isFin .f32 a = true ∧ isP b = true ∧ inB c 1 32 = true
  · obtain ⟨ha, hb, hc⟩ := h
    have h12 : 1 ≤ c ∧ c ≤ 32 := by simpa [inB] using hc
    obtain ⟨k, rfl⟩ : ∃ k : Nat, c = (k : Int) := ⟨c.toNat, by omega⟩
    have hk : (if finL (cmbR a b) k = true then k else 0) ≤ 1048576 := by split <;> omega
    exact ⟨_, _, _, fun w => (specCmb_yes a b k w ha hb (by omega) (by omega)).mono fun e w' h => conv hk h, fun w => (implCmb_yes a b k w ha hb (by omega) (by omega)).mono fun e w' h => conv hk h⟩
  · have h' : isFin .f32 a = false ∨ isP b = false ∨ inB c 1 32 = false := by
      cases c1 : isFin .f32 a <;> cases c2 : isP b <;> cases c3 : inB c 1 32 <;> simp_all
    exact ⟨fun _ => 0, 0, false, fun w => (specCmb_no a b c w _ h').mono fun e w' h => conv (by omega) h, fun w => (implCmb_no a b c w _ h').mono fun e w' h => conv (by omega) h⟩
set_option maxRecDepth 100000 in
set_option maxHeartbeats 6400000 in
theorem lawCombPlaces_in (W : World) (a0 : Nat) (_wf0 : (Lit.float .f32 a0).wf = true) (a1 : Nat) (_wf1 : (Lit.float .f32 a1).wf = true) (a2 : Int) (_wf2 : (Lit.int .i64 a2).wf = true)  (R0 : Nat → Nat) (m0 : Nat) (r1 : Bool) (HS : Hid (∀  (w : World),  Calls Try.prog 25 #[.float .f32 a0, .float .f32 a1, .int .i64 a2] w (RetCombPlaces R0 m0 r1 w))) (HI : Hid (∀  (w : World),  Calls Try.prog 26 #[.float .f32 a0, .float .f32 a1, .int .i64 a2] w (RetCombPlaces R0 m0 r1 w))) :
    Calls Try.prog 7 #[.float .f32 a0, .float .f32 a1, .int .i64 a2] W fun e w' => e = .returned (.bool true) ∧ Below W.heap.size W w' := by
  have hcv := fun (R : Nat) (s t : Nat) => show canon .f64 (pick .f64 (fconv .f32 (pick .f32 R s) .f64) t) = canon .f64 (fconv .f32 R .f64) by rw [canon_pick, fconv_pick]
  have hcw := fun (R : Nat) (s t : Nat) => show canon .f64 (pick .f64 R s) = canon .f64 (pick .f64 R t) by rw [canon_pick, canon_pick]
  have HCV := Lib.hid hcv
  have HCW := Lib.hid hcw
  clear hcv hcw
  have hnb1 : (r1 != r1) = false := by simp
  have HB := Blw.refl W
  go_enter Try.func7, Try.ntmps7
  go_wp2_with fail
  refine (HS.out  _ ).mono ?_
  rintro e0 w1 ⟨vw0, Yw0, rfl, Ow0, Lw0, mw0, B0⟩
  replace HB := Blw.next (by exact HB) B0
  clear B0
  obtain ⟨xw0, cw0, rfl, _, _, Rw0⟩ := rd_of_own Ow0
  clear Ow0
  have HL := Blw.refl w1
  have Eg := (Blw.out (by exact HL)).size
  go_wp2_with fail
  refine (HI.out  _ ).mono ?_
  rintro e0 w2 ⟨vg0, Yg0, rfl, Og0, Lg0, mg0, B0⟩
  replace HL := Blw.next (by exact HL) B0
  clear B0
  have O_0 := Og0
  obtain ⟨xg0, cg0, rfl, _, _, Rg0⟩ := rd_of_own O_0
  clear O_0
  go_wp2_with fail
  refine (eqF_any _ _ _ _ _ Yg0 Yw0 _ (by exact Rg0) (by exact Rw0.below (Blw.out (by exact HL))) mw0 (fun i hi => (Lg0 i hi).trans (Lw0 i hi).symm)).mono ?_
  rintro e0 w0 ⟨rfl, q, rfl⟩
  clear Rg0
  go_wp2_with fail
  refine (markF_any _ _ m0 Yg0 _ _ (by exact Og0) mg0 (by omega) (by omega)).mono ?_
  rintro e0 w0 ⟨rfl, Ok0, B0⟩
  replace HL := Blw.nextB (by exact HL) (B0.mono Eg)
  clear B0 Og0
  have hm1 : (0 : Int) ≤ 1 + (m0 : Int) := by omega
  go_wp2_with fail
  refine (heldF_any _ _ m0 _ _ (by exact Ok0) mg0 (by omega) (by omega)).mono ?_
  rintro e0 w0 ⟨rfl, rfl⟩
  go_wp2_with fail
  refine (HI.out  _ ).mono ?_
  rintro e0 w3 ⟨vh0, Yh0, rfl, Oh0, Lh0, mh0, B0⟩
  replace Ok0 := own_below (by exact Ok0) B0
  replace HL := Blw.next (by exact HL) B0
  clear B0
  obtain ⟨xh0, ch0, rfl, _, _, Rh0⟩ := rd_of_own Oh0
  clear Oh0
  go_wp2_with fail
  refine (eqF_any _ _ _ _ _ Yh0 Yw0 _ (by exact Rh0) (by exact Rw0.below (Blw.out (by exact HL))) mw0 (fun i hi => (Lh0 i hi).trans (Lw0 i hi).symm)).mono ?_
  rintro e0 w0 ⟨rfl, q, rfl⟩
  clear Rh0
  go_wp2_with fail
  refine (heldF_any _ _ m0 _ _ (by exact Ok0) mg0 (by omega) (by omega)).mono ?_
  rintro e0 w0 ⟨rfl, rfl⟩
  go_wp2
  go_ret
  exact ⟨rfl, (Blw.out (by exact HB)).trans ((Blw.out (by exact HL)).mono (Blw.out (by exact HB)).size)⟩
set_option maxHeartbeats 1600000 in
theorem lawCombPlaces_any (W : World) (a0 : Nat) (_wf0 : (Lit.float .f32 a0).wf = true) (a1 : Nat) (_wf1 : (Lit.float .f32 a1).wf = true) (a2 : Int) (_wf2 : (Lit.int .i64 a2).wf = true) :
    Calls Try.prog 7 #[.float .f32 a0, .float .f32 a1, .int .i64 a2] W fun e w' => e = .returned (.bool true) ∧ Below W.heap.size W w' := by
  obtain ⟨R0, m0, r1, hs, hi⟩ := bothCombPlaces a0 _wf0 a1 _wf1 a2 _wf2
  exact lawCombPlaces_in W a0 _wf0 a1 _wf1 a2 _wf2  R0 m0 r1 (Lib.hid hs) (Lib.hid hi)
set_option maxRecDepth 100000 in
theorem FnExactCombPlaces_lifted (os : Os) (started : os.Started) (H : Type) (enc : TypeId × Value → H) :
    ReturnsInHanded {} Try.checked os 7 .any (Rows.fnExactCombPlacesSpec.pre6 enc Try.prog Try.f7 Rows.fnExactCombPlacesRow.domain false) (Rows.fnExactCombPlacesSpec.post enc Try.prog Try.f7 false true false false) := by
  refine returnsInHanded_of_change (C := Try.checked) ownKnob_none started (by kernel_rfl) Try.func7
    (ChangeSpec.witness6 (enc := enc) (C := Try.checked) false ⟨#[], #[.float .f32 0, .float .f32 0, .int .i64 0], []⟩ 8 (by kernel_rfl) (by kernel_rfl) (by kernel_rfl) (by kernel_rfl)) ?_
  intro W base args ds gs before hval0 hW _ _
  have hval : ∀ (j : Nat) t v, Try.f7.params[j]? = some t → args[j]? = some v → Value.okWide Try.prog W .any base t v := hval0
  have hW' := hW
  obtain ⟨p, q, hA0, hV, rfl, _, _⟩ := hW
  have hA : DataW.TrodAll enc Try.prog W 0 (fun _ => true) true Try.f7.params.toList args.toList ds p := hA0
  rw [Try.params7] at hA hval
  obtain ⟨v0, v1, v2, d0, d1, d2, p0, p1, p2, rfl, rfl, rfl, h0, h1, h2⟩ := trodAll_three hA
  obtain ⟨rfl, rfl⟩ := trodVars_none hV
  obtain ⟨a0, rfl, rfl, rfl, w0⟩ := open_float Try.underlying22 (hval 0 22 v0 rfl rfl) h0
  obtain ⟨a1, rfl, rfl, rfl, w1⟩ := open_float Try.underlying22 (hval 1 22 v1 rfl rfl) h1
  obtain ⟨a2, rfl, rfl, rfl, w2⟩ := open_int Try.underlying2 (hval 2 2 v2 rfl rfl) h2
  clear hA0 hval0
  refine (lawCombPlaces_any W a0 w0 a1 w1 a2 w2).mono fun e W' ⟨he, hb⟩ => ?_
  subst he
  have hA2 := trodAll_mk3 (enc := enc) (w := W') (base := 0) (spare := fun b => decide (b < W.heap.size)) (held := true) (shut_float Try.underlying22 w0) (shut_float Try.underlying22 w1) (shut_int Try.underlying2 w2)
  exact ⟨_, rfl, _, _, _, [], _, [], hW', trodAll_cons_mk (shut_bool Try.underlying4 _) trodAll_mk0, hA2, rfl, hb.frame _, fun h => by cases h⟩
theorem FnExactCombPlaces_holds : Rows.FnExactCombPlacesSaid :=
  OpenClaim.holds_of_wide 7 Try.f7 rfl rfl rfl rfl rfl rfl rfl ⟨rfl, rfl, rfl, rfl, rfl⟩ rfl rfl rfl rfl rfl (by kernel_rfl) Try.func7 (by kernel_rfl)
    (of_decide_eq_true (by kernel_rfl)) (by unfold Func.isWrapper; first | (rw [if_pos (by decide +kernel)]; kernel_rfl) | (rw [if_neg (by decide +kernel)]; exact ⟨rfl, rfl⟩))
    (fun os started H enc _ => FnExactCombPlaces_lifted os started H enc)
end Go.Proofs.Ytebelikahpnobaa
