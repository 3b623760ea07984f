/- Of any list and index the program tells how wide the peak is at half just where the model does, and the same; the list is not changed: for all arguments. -/
import Derived.Test.YtaobjilnbbpmeaaHwi
namespace Go.Proofs.Ytaobjilnbbpmeaa
open Go Go.ChangeShapes Go.WideShapes Go.ChangeAt Go.RowKit

def okHw (X : Nat → Nat) (N : Nat) (i : Int) : Bool := okLst X N && (inB i 0 ((N : Int) - 1) && gtF (X i.toNat) 0)
set_option maxRecDepth 100000 in
set_option maxHeartbeats 3200000 in
theorem specHw_no (xa : Option Addr) (N cap : Nat) (X : Nat → Nat) (i : Int) (w : World) (hX : Rd w xa N X) (hN : N ≤ 1048576) (hk : okHw X N i = false) :
    Calls Try.prog 35 #[.slice xa N cap, .int .i64 i] w (NRet 0 false w) := by
  obtain ⟨v, hv⟩ : ∃ v, v = okLst X N := ⟨_, rfl⟩
  have HL := Lib.hid (fun w hX => specLst_any xa N cap X w hX hN v (Lib.hid hv))
  cases v
  · clear hk hv
    go_enter Try.func35, Try.ntmps35
    go_wp2_with (first | (go_at_call 54; refine (HL.out _ (by exact hX)).mono ?_; rintro e w' ⟨rfl, q, rfl⟩))
    go_ret2
    refine hpNo ?_
    (repeat (first | with_reducible exact Below.refl _ _ | with_reducible refine Below.drewN ?_ _ | with_reducible refine Below.setCell ?_ (by simp; try omega) _ | with_reducible refine Below.alloc ?_ (by simp; try omega) _))
  · rw [okHw, ← hv, Bool.true_and] at hk
    cases c : inB i 0 ((N : Int) - 1)
    · clear hk hv
      go_enter Try.func35, Try.ntmps35
      go_wp2_with (first | (first | (go_at_call 61; refine (l00In_any _ _ _ _).mono ?_; rintro e w' ⟨rfl, rfl⟩)) | (go_at_call 54; refine (HL.out _ (by exact hX)).mono ?_; rintro e w' ⟨rfl, q, rfl⟩))
      go_ret2
      refine hpNo ?_
      (repeat (first | with_reducible exact Below.refl _ _ | with_reducible refine Below.drewN ?_ _ | with_reducible refine Below.setCell ?_ (by simp; try omega) _ | with_reducible refine Below.alloc ?_ (by simp; try omega) _))
    · rw [c, Bool.true_and] at hk
      have hr := inB_rng c
      obtain ⟨I, rfl⟩ : ∃ I : Nat, i = (I : Int) := ⟨i.toNat, by omega⟩
      rw [Int.toNat_natCast] at hk
      have hg : (FloatKind.f32.format.order (X I) 0 == some .gt) = false := hk
      have HRX := hX
      obtain ⟨xb, xo, hxa, hcx⟩ := hX
      have e := hxa (by omega)
      subst e
      have ri := hcx I (by omega)
      have hii : (I : Int) < (N : Int) := by omega
      clear hcx hxa hv hk hr
      go_enter Try.func35, Try.ntmps35
      go_wp2_with (first | (first | (go_at_call 61; refine (l00In_any _ _ _ _).mono ?_; rintro e w' ⟨rfl, rfl⟩)) | (go_at_call 54; refine (HL.out _ (by exact HRX)).mono ?_; rintro e w' ⟨rfl, q, rfl⟩))
      go_ret2
      refine hpNo ?_
      (repeat (first | with_reducible exact Below.refl _ _ | with_reducible refine Below.drewN ?_ _ | with_reducible refine Below.setCell ?_ (by simp; try omega) _ | with_reducible refine Below.alloc ?_ (by simp; try omega) _))
set_option maxRecDepth 100000 in
set_option maxHeartbeats 3200000 in
theorem implHw_no (xa : Option Addr) (N cap : Nat) (X : Nat → Nat) (i : Int) (w : World) (hX : Rd w xa N X) (hN : N ≤ 1048576) (hk : okHw X N i = false) :
    Calls Try.prog 36 #[.slice xa N cap, .int .i64 i] w (NRet 0 false w) := by
  obtain ⟨v, hv⟩ : ∃ v, v = okLst X N := ⟨_, rfl⟩
  have HL := Lib.hid (fun w hX => implLst_any xa N cap X w hX hN v (Lib.hid hv))
  cases v
  · clear hk hv
    go_enter Try.func36, Try.ntmps36
    go_wp2_with (first | (go_at_call 57; refine (HL.out _ (by exact hX)).mono ?_; rintro e w' ⟨rfl, q, rfl⟩))
    go_ret2
    refine hpNo ?_
    (repeat (first | with_reducible exact Below.refl _ _ | with_reducible refine Below.drewN ?_ _ | with_reducible refine Below.setCell ?_ (by simp; try omega) _ | with_reducible refine Below.alloc ?_ (by simp; try omega) _))
  · have hf := (okLst_at hv.symm).1
    rw [okHw, ← hv, Bool.true_and] at hk
    by_cases h0 : i < 0
    · have d0 : decide (i < 0) = true := decide_eq_true h0
      clear hk hv
      go_enter Try.func36, Try.ntmps36
      go_wp2_with (first | (go_at_call 57; refine (HL.out _ (by exact hX)).mono ?_; rintro e w' ⟨rfl, q, rfl⟩))
      go_ret2
      refine hpNo ?_
      (repeat (first | with_reducible exact Below.refl _ _ | with_reducible refine Below.drewN ?_ _ | with_reducible refine Below.setCell ?_ (by simp; try omega) _ | with_reducible refine Below.alloc ?_ (by simp; try omega) _))
    · have d0 : decide (i < 0) = false := decide_eq_false h0
      by_cases h1 : (N : Int) ≤ i
      · have d1 : decide ((N : Int) ≤ i) = true := decide_eq_true h1
        clear hk hv
        go_enter Try.func36, Try.ntmps36
        go_wp2_with (first | (go_at_call 57; refine (HL.out _ (by exact hX)).mono ?_; rintro e w' ⟨rfl, q, rfl⟩))
        go_ret2
        refine hpNo ?_
        (repeat (first | with_reducible exact Below.refl _ _ | with_reducible refine Below.drewN ?_ _ | with_reducible refine Below.setCell ?_ (by simp; try omega) _ | with_reducible refine Below.alloc ?_ (by simp; try omega) _))
      · have d1 : decide ((N : Int) ≤ i) = false := decide_eq_false h1
        rw [inB_yes (by omega) (by omega), Bool.true_and] at hk
        obtain ⟨I, rfl⟩ : ∃ I : Nat, i = (I : Int) := ⟨i.toNat, by omega⟩
        rw [Int.toNat_natCast] at hk
        have hle : (FloatKind.f32.format.order (X I) 0 == some .lt || FloatKind.f32.format.order (X I) 0 == some .eq) = true := by
          have h2 := le_gt (x := X I) (y := 0) (num_fin (finL_at hf I (by omega))) (by decide +kernel)
          rw [hk] at h2
          exact h2
        have HRX := hX
        obtain ⟨xb, xo, hxa, hcx⟩ := hX
        have e := hxa (by omega)
        subst e
        have ri := hcx I (by omega)
        have hii : (I : Int) < (N : Int) := by omega
        clear hcx hxa hv hk hf
        go_enter Try.func36, Try.ntmps36
        go_wp2_with (first | (go_at_call 57; refine (HL.out _ (by exact HRX)).mono ?_; rintro e w' ⟨rfl, q, rfl⟩))
        go_ret2
        refine hpNo ?_
        (repeat (first | with_reducible exact Below.refl _ _ | with_reducible refine Below.drewN ?_ _ | with_reducible refine Below.setCell ?_ (by simp; try omega) _ | with_reducible refine Below.alloc ?_ (by simp; try omega) _))
/-- What is told of HalfWidth. -/
def RetHalfWidth (r0 : Nat) (r1 : Bool) (w : World) (e : Ending) (w' : World) : Prop := ∃ (s0 : Nat), e = .returned (.tuple #[.float .f32 (pick .f32 r0 s0), .bool r1]) ∧ Below w.heap.size w w'
theorem bothHalfWidth (N : Nat) (X : Nat → Nat) (hN : N ≤ 1048576) (i : Int) (_ : (Lit.int .i64 i).wf = true) :
    ∃ (r : Nat) (ok : Bool), (∀ (xa : Option Addr) (c : Nat) (w : World), Rd w xa N X → Calls Try.prog 35 #[.slice xa N c, .int .i64 i] w (RetHalfWidth r ok w)) ∧
      ∀ (xa : Option Addr) (c : Nat) (w : World), Rd w xa N X → Calls Try.prog 36 #[.slice xa N c, .int .i64 i] w (RetHalfWidth r ok w) := by
  have conv : ∀ {r : Nat} {ok : Bool} {w : World} {e : Ending} {w' : World}, NRet r ok w e w' → RetHalfWidth r ok w e w' := fun ⟨s, he, hb⟩ => ⟨s, he, hb⟩
  cases hk : okHw X N i
  · exact ⟨0, false, fun xa c w hX => (specHw_no xa N c X i w hX hN hk).mono fun e w' h => conv h, fun xa c w hX => (implHw_no xa N c X i w hX hN hk).mono fun e w' h => conv h⟩
  · simp only [okHw, Bool.and_eq_true] at hk
    obtain ⟨hv, hi, hg⟩ := hk
    have hr := inB_rng hi
    obtain ⟨I, rfl⟩ : ∃ I : Nat, i = (I : Int) := ⟨i.toNat, by omega⟩
    rw [Int.toNat_natCast] at hg
    have hIN : I < N := by omega
    obtain ⟨k, hk⟩ := stopR_ex X (fbin .mul .f32 1056964608 (X I)) N I hIN
    obtain ⟨l, hl⟩ := stopL_ex X (fbin .mul .f32 1056964608 (X I)) I
    exact ⟨_, _, fun xa c w hX => (specHw_yes xa N c X I k l _ w hX hN hv hIN hg rfl hk hl _ _ _ rfl rfl rfl).mono fun e w' h => conv h, fun xa c w hX => (implHw_yes xa N c X I k l _ w hX hN hv hIN hg rfl hk hl _ _ _ rfl rfl rfl).mono fun e w' h => conv h⟩
set_option maxRecDepth 100000 in
set_option maxHeartbeats 6400000 in
theorem lawHalfWidth_in (W : World) (x0 : Option Addr) (n0 c0 : Nat) (X0 : Nat → Nat) (hX0 : Rd W x0 n0 X0) (a1 : Int) (_wf1 : (Lit.int .i64 a1).wf = true) (h0 : n0 ≤ 1048576) (r0 : Nat) (r1 : Bool) (HS : Hid (∀ (x0 : Option Addr) (c0 : Nat) (w : World), Rd w x0 n0 X0 → Calls Try.prog 35 #[.slice x0 n0 c0, .int .i64 a1] w (RetHalfWidth r0 r1 w))) (HI : Hid (∀ (x0 : Option Addr) (c0 : Nat) (w : World), Rd w x0 n0 X0 → Calls Try.prog 36 #[.slice x0 n0 c0, .int .i64 a1] w (RetHalfWidth r0 r1 w))) :
    Calls Try.prog 8 #[.slice x0 n0 c0, .int .i64 a1] W fun e w' => e = .returned (.bool true) ∧ Below W.heap.size W w' := by
  have hcv := fun (R : Nat) (s t : Nat) => show canon .f64 (pick .f64 (fconv .f32 (pick .f32 R s) .f64) t) = canon .f64 (fconv .f32 R .f64) by rw [canon_pick, fconv_pick]
  have hcw := fun (R : Nat) (s t : Nat) => show canon .f64 (pick .f64 R s) = canon .f64 (pick .f64 R t) by rw [canon_pick, canon_pick]
  have HCV := Lib.hid hcv
  have HCW := Lib.hid hcw
  clear hcv hcw
  have hnb1 : (r1 != r1) = false := by simp
  have HB := Blw.refl W
  go_enter Try.func8, Try.ntmps8
  go_wp2_with fail
  refine (toF_any _ _ _ X0 _ (by exact hX0.below (Blw.out (by exact HB))) h0).mono ?_
  rintro e0 w0 ⟨rfl, O0, B0⟩
  replace HB := Blw.next (by exact HB) B0
  have C0 := O0
  clear O0 B0
  go_wp2_with fail
  refine (HS.out _ _ _ (rd_own (by exact C0))).mono ?_
  rintro e0 w1 ⟨sw0, rfl, B0⟩
  clear C0
  replace HB := Blw.next (by exact HB) B0
  clear B0
  have Z0 := hX0.below HB.out
  have HL := Blw.refl w1
  have E0 := (Blw.out (by exact HL)).size
  go_wp2_with fail
  refine (toF_any _ _ _ X0 _ (by exact Z0.below (Blw.out (by exact HL))) h0).mono ?_
  rintro e0 w0 ⟨rfl, O0, B0⟩
  replace HL := Blw.next (by exact HL) B0
  have D0 := O0
  clear O0 B0
  have Qg0 := own_lt (by exact D0)
  have Eg := (Blw.out (by exact HL)).size
  go_wp2_with fail
  refine (HI.out _ _ _ (rd_own (by exact D0))).mono ?_
  rintro e0 w2 ⟨sg0, rfl, B0⟩
  replace D0 := own_below (by exact D0) B0
  replace HL := Blw.next (by exact HL) B0
  clear B0
  go_wp2_with (first | ((with_reducible refine wpL_fconv ?_); refine ⟨_, _, _, rfl, Option.isSome_iff_exists.2 ⟨_, Try.underlying22⟩, Try.underlying32, FloatKind.noConfusion, convOk_widen _, fun s n => ?_⟩) | ((with_reducible refine wpL_fconv_g ?_); refine ⟨rfl, _, _, _, rfl, Option.isSome_iff_exists.2 ⟨_, Try.underlying22⟩, Try.underlying32, FloatKind.noConfusion, convOk_widen _, fun s n => ?_⟩))
  refine (sameFloat_any _ _ _ ((HCV.out _ _ _).trans (HCV.out _ _ _).symm)).mono ?_
  rintro e0 w0 ⟨rfl, q, rfl⟩
  go_wp2_with fail
  refine (toF_any _ _ _ X0 _ (by exact Z0.below (Blw.out (by exact HL))) h0).mono ?_
  rintro e0 w0 ⟨rfl, O0, B0⟩
  replace D0 := own_below (by exact D0) B0
  replace HL := Blw.next (by exact HL) B0
  have K0 := O0
  clear O0 B0
  go_wp2_with fail
  refine (eqF_any _ _ _ _ _ X0 X0 _ (by exact rd_own (by exact D0)) (by exact rd_own (by exact K0)) h0 (fun _ _ => rfl)).mono ?_
  rintro e0 w0 ⟨rfl, q, rfl⟩
  clear K0
  go_wp2
  go_ret
  exact ⟨rfl, (Blw.out (by exact HB)).trans ((Blw.out (by exact HL)).mono (Blw.out (by exact HB)).size)⟩
set_option maxHeartbeats 1600000 in
theorem lawHalfWidth_any (W : World) (x0 : Option Addr) (n0 c0 : Nat) (X0 : Nat → Nat) (hX0 : Rd W x0 n0 X0) (a1 : Int) (_wf1 : (Lit.int .i64 a1).wf = true) :
    Calls Try.prog 8 #[.slice x0 n0 c0, .int .i64 a1] W fun e w' => e = .returned (.bool true) ∧ Below W.heap.size W w' := by
  by_cases h0 : n0 ≤ 1048576
  · skip
    obtain ⟨r0, r1, hs, hi⟩ := bothHalfWidth n0 X0 h0 a1 _wf1
    exact lawHalfWidth_in W x0 n0 c0 X0 hX0 a1 _wf1 h0 r0 r1 (Lib.hid hs) (Lib.hid hi)
  · have h' : (1048576 : Int) < (n0 : Int) := by omega
    go_enter Try.func8, Try.ntmps8
    go_wp2
    go_ret
    exact ⟨rfl, (Blw.refl W).out⟩
set_option maxRecDepth 100000 in
theorem FnExactHalfWidth_lifted (os : Os) (started : os.Started) (H : Type) (enc : TypeId × Value → H) :
    ReturnsInHanded {} Try.checked os 8 .any (Rows.fnExactHalfWidthSpec.pre6 enc Try.prog Try.f8 Rows.fnExactHalfWidthRow.domain false) (Rows.fnExactHalfWidthSpec.post enc Try.prog Try.f8 false true false false) := by
  refine returnsInHanded_of_change (C := Try.checked) ownKnob_none started (by kernel_rfl) Try.func8
    (ChangeSpec.witness6 (enc := enc) (C := Try.checked) false ⟨#[], #[.slice none 0 0, .int .i64 0], []⟩ 8 (by kernel_rfl) (by kernel_rfl) (by kernel_rfl) (by kernel_rfl)) ?_
  intro W base args ds gs before hval0 hW _ _
  have hval : ∀ (j : Nat) t v, Try.f8.params[j]? = some t → args[j]? = some v → Value.okWide Try.prog W .any base t v := hval0
  have hW' := hW
  obtain ⟨p, q, hA0, hV, rfl, _, _⟩ := hW
  have hA : DataW.TrodAll enc Try.prog W 0 (fun _ => true) true Try.f8.params.toList args.toList ds p := hA0
  rw [Try.params8] at hA hval
  obtain ⟨v0, v1, d0, d1, p0, p1, rfl, rfl, rfl, h0, h1⟩ := trodAll_two hA
  obtain ⟨rfl, rfl⟩ := trodVars_none hV
  obtain ⟨x0, n0, c0, rfl⟩ := okWide_slice Try.underlying37 (hval 0 37 v0 rfl rfl)
  have k0 := h0
  obtain ⟨_, _, a0, w0, _⟩ := open_f32s Try.underlying37 Try.underlying22 cellsF h0
  have b0 : ∀ x ∈ p0, x.block < W.heap.size := fun x hx => by have := hW'.lt x (by simp [hx]); simpa using this
  obtain ⟨a1, rfl, rfl, rfl, w1⟩ := open_int Try.underlying2 (hval 1 2 v1 rfl rfl) h1
  clear hA0 hval0
  refine (lawHalfWidth_any W x0 n0 c0 a0 w0 a1 w1).mono fun e W' ⟨he, hb⟩ => ?_
  subst he
  have hA2 := trodAll_mk2 (enc := enc) (w := W') (base := 0) (spare := fun b => decide (b < W.heap.size)) (held := true) (Below.trod laidOut (by kernel_rfl) (of_decide_eq_true (by kernel_rfl)) k0 hb b0) (shut_int Try.underlying2 w1)
  exact ⟨_, rfl, _, _, _, [], _, [], hW', trodAll_cons_mk (shut_bool Try.underlying4 _) trodAll_mk0, hA2, rfl, hb.frame _, fun h => by cases h⟩
theorem FnExactHalfWidth_holds : Rows.FnExactHalfWidthSaid :=
  OpenClaim.holds_of_wide 8 Try.f8 rfl rfl rfl rfl rfl rfl rfl ⟨rfl, rfl, rfl, rfl, rfl⟩ rfl rfl rfl rfl rfl (by kernel_rfl) Try.func8 (by kernel_rfl)
    (of_decide_eq_true (by kernel_rfl)) (by unfold Func.isWrapper; first | (rw [if_pos (by decide +kernel)]; kernel_rfl) | (rw [if_neg (by decide +kernel)]; exact ⟨rfl, rfl⟩))
    (fun os started H enc _ => FnExactHalfWidth_lifted os started H enc)
end Go.Proofs.Ytaobjilnbbpmeaa
