
/- Of any places, catalog and window the program tells the same matches as the model does; its answer owns its memory and the lists are not changed: for all arguments. -/
import Derived.Test.YtogmcinaoemnpabMli
import Derived.Test.YtogmcinaoemnpabMls
import Derived.Test.YtogmcinaoemnpabIntL
import Derived.Test.YtogmcinaoemnpabLiC
import Derived.Test.YtogmcinaoemnpabLaw
namespace Go.Proofs.Ytogmcinaoemnpab
set_option linter.all false
open Go Go.ChangeShapes Go.WideShapes Go.ChangeAt Go.RowKit

set_option maxRecDepth 100000 in
set_option maxHeartbeats 3200000 in
theorem specMl_pre (xa : Option Addr) (n cx : Nat) (X : Nat → Nat) (ya : Option Addr) (m cy : Nat) (C : Nat → Nat) (W : Nat) (w : World) (R : Nat → Int) (hn : n ≤ 1048576) (hm : m ≤ 1048576)
    (hk : (!decide ((128 : Int) < (n : Int)) && (!decide ((128 : Int) < (m : Int)) && (isFin .f32 W && !ltZ W))) = false) :
    Calls Try.prog 36 #[.slice xa n cx, .slice ya m cy, .float .f32 W] w (RetMatchLines R 0 false w) := by
  cases c1 : decide ((128 : Int) < (n : Int))
  rotate_left
  · skip
    try (have d4 : (FloatKind.f32.format.order W 0 == some .lt) = true := c4)
    clear hk
    go_enter Try.func36, Try.ntmps36
    go_wp2_with (first | (go_at_call 56; refine (l01Finite_any _ _).mono ?_; rintro e w' ⟨rfl, q, rfl⟩))
    go_ret2
    refine mlNo ?_
    (repeat (first | with_reducible exact Below.refl _ _ | with_reducible refine Below.drewN ?_ _ | with_reducible refine Below.setCell ?_ (by simp; try omega) _ | with_reducible refine Below.alloc ?_ (by simp; try omega) _))
  · skip
    cases c2 : decide ((128 : Int) < (m : Int))
    rotate_left
    · skip
      try (have d4 : (FloatKind.f32.format.order W 0 == some .lt) = true := c4)
      clear hk
      go_enter Try.func36, Try.ntmps36
      go_wp2_with (first | (go_at_call 56; refine (l01Finite_any _ _).mono ?_; rintro e w' ⟨rfl, q, rfl⟩))
      go_ret2
      refine mlNo ?_
      (repeat (first | with_reducible exact Below.refl _ _ | with_reducible refine Below.drewN ?_ _ | with_reducible refine Below.setCell ?_ (by simp; try omega) _ | with_reducible refine Below.alloc ?_ (by simp; try omega) _))
    · skip
      cases c3 : isFin .f32 W
      · skip
        try (have d4 : (FloatKind.f32.format.order W 0 == some .lt) = true := c4)
        clear hk
        go_enter Try.func36, Try.ntmps36
        go_wp2_with (first | (go_at_call 56; refine (l01Finite_any _ _).mono ?_; rintro e w' ⟨rfl, q, rfl⟩))
        go_ret2
        refine mlNo ?_
        (repeat (first | with_reducible exact Below.refl _ _ | with_reducible refine Below.drewN ?_ _ | with_reducible refine Below.setCell ?_ (by simp; try omega) _ | with_reducible refine Below.alloc ?_ (by simp; try omega) _))
      · skip
        cases c4 : ltZ W
        rotate_left
        · skip
          try (have d4 : (FloatKind.f32.format.order W 0 == some .lt) = true := c4)
          clear hk
          go_enter Try.func36, Try.ntmps36
          go_wp2_with (first | (go_at_call 56; refine (l01Finite_any _ _).mono ?_; rintro e w' ⟨rfl, q, rfl⟩))
          go_ret2
          refine mlNo ?_
          (repeat (first | with_reducible exact Below.refl _ _ | with_reducible refine Below.drewN ?_ _ | with_reducible refine Below.setCell ?_ (by simp; try omega) _ | with_reducible refine Below.alloc ?_ (by simp; try omega) _))
        · skip
          exfalso
          rw [c1, c2, c3, c4] at hk
          cases hk
set_option maxRecDepth 100000 in
set_option maxHeartbeats 3200000 in
theorem implMl_no (xa : Option Addr) (n cx : Nat) (X : Nat → Nat) (ya : Option Addr) (m cy : Nat) (C : Nat → Nat) (W : Nat) (w : World) (R : Nat → Int) (hX : Rd w xa n X) (hY : Rd w ya m C) (hn : n ≤ 1048576) (hm : m ≤ 1048576)
    (hk : (!decide ((128 : Int) < (n : Int)) && (!decide ((128 : Int) < (m : Int)) && (isG W && (finL X n && finL C m)))) = false) :
    Calls Try.prog 37 #[.slice xa n cx, .slice ya m cy, .float .f32 W] w (RetMatchLines R 0 false w) := by
  have HG := Lib.hid (fun g w hX => areAtLeastZero_any g 1 1 (fun _ => W) w hX (by omega))
  rw [gL_one] at HG
  have HFX := Lib.hid (fun cx w hX => allFinite_any xa n cx X w hX hn)
  have HFC := Lib.hid (fun cy w hX => allFinite_any ya m cy C w hX hm)
  have HX := Lib.hid hX
  have HY := Lib.hid hY
  have tokX : True := trivial
  have tokY : True := trivial
  clear hX hY
  cases c1 : decide ((128 : Int) < (n : Int))
  rotate_left
  · skip
    clear hk
    go_enter Try.func37, Try.ntmps37
    go_wp2_with (first | (go_at_call 51; refine (HG.out _ _ (by exact rd_one' _ _ _ (by simp))).mono ?_; rintro e w' ⟨rfl, q, rfl⟩) | (go_at_call 66; have _t := tokX; refine (HFX.out _ _ (by exact HX.out.below (by (repeat (first | with_reducible exact Below.refl _ _ | with_reducible refine Below.drewN ?_ _ | with_reducible refine Below.setCell ?_ (by simp; try omega) _ | with_reducible refine Below.alloc ?_ (by simp; try omega) _))))).mono ?_; rintro e w' ⟨rfl, q2, rfl⟩; clear tokX) | (go_at_call 66; have _t := tokY; refine (HFC.out _ _ (by exact HY.out.below (by (repeat (first | with_reducible exact Below.refl _ _ | with_reducible refine Below.drewN ?_ _ | with_reducible refine Below.setCell ?_ (by simp; try omega) _ | with_reducible refine Below.alloc ?_ (by simp; try omega) _))))).mono ?_; rintro e w' ⟨rfl, q3, rfl⟩; clear tokY))
    go_ret2
    refine mlNo ?_
    (repeat (first | with_reducible exact Below.refl _ _ | with_reducible refine Below.drewN ?_ _ | with_reducible refine Below.setCell ?_ (by simp; try omega) _ | with_reducible refine Below.alloc ?_ (by simp; try omega) _))
  · skip
    cases c2 : decide ((128 : Int) < (m : Int))
    rotate_left
    · skip
      clear hk
      go_enter Try.func37, Try.ntmps37
      go_wp2_with (first | (go_at_call 51; refine (HG.out _ _ (by exact rd_one' _ _ _ (by simp))).mono ?_; rintro e w' ⟨rfl, q, rfl⟩) | (go_at_call 66; have _t := tokX; refine (HFX.out _ _ (by exact HX.out.below (by (repeat (first | with_reducible exact Below.refl _ _ | with_reducible refine Below.drewN ?_ _ | with_reducible refine Below.setCell ?_ (by simp; try omega) _ | with_reducible refine Below.alloc ?_ (by simp; try omega) _))))).mono ?_; rintro e w' ⟨rfl, q2, rfl⟩; clear tokX) | (go_at_call 66; have _t := tokY; refine (HFC.out _ _ (by exact HY.out.below (by (repeat (first | with_reducible exact Below.refl _ _ | with_reducible refine Below.drewN ?_ _ | with_reducible refine Below.setCell ?_ (by simp; try omega) _ | with_reducible refine Below.alloc ?_ (by simp; try omega) _))))).mono ?_; rintro e w' ⟨rfl, q3, rfl⟩; clear tokY))
      go_ret2
      refine mlNo ?_
      (repeat (first | with_reducible exact Below.refl _ _ | with_reducible refine Below.drewN ?_ _ | with_reducible refine Below.setCell ?_ (by simp; try omega) _ | with_reducible refine Below.alloc ?_ (by simp; try omega) _))
    · skip
      cases c3 : isG W
      · skip
        clear hk
        go_enter Try.func37, Try.ntmps37
        go_wp2_with (first | (go_at_call 51; refine (HG.out _ _ (by exact rd_one' _ _ _ (by simp))).mono ?_; rintro e w' ⟨rfl, q, rfl⟩) | (go_at_call 66; have _t := tokX; refine (HFX.out _ _ (by exact HX.out.below (by (repeat (first | with_reducible exact Below.refl _ _ | with_reducible refine Below.drewN ?_ _ | with_reducible refine Below.setCell ?_ (by simp; try omega) _ | with_reducible refine Below.alloc ?_ (by simp; try omega) _))))).mono ?_; rintro e w' ⟨rfl, q2, rfl⟩; clear tokX) | (go_at_call 66; have _t := tokY; refine (HFC.out _ _ (by exact HY.out.below (by (repeat (first | with_reducible exact Below.refl _ _ | with_reducible refine Below.drewN ?_ _ | with_reducible refine Below.setCell ?_ (by simp; try omega) _ | with_reducible refine Below.alloc ?_ (by simp; try omega) _))))).mono ?_; rintro e w' ⟨rfl, q3, rfl⟩; clear tokY))
        go_ret2
        refine mlNo ?_
        (repeat (first | with_reducible exact Below.refl _ _ | with_reducible refine Below.drewN ?_ _ | with_reducible refine Below.setCell ?_ (by simp; try omega) _ | with_reducible refine Below.alloc ?_ (by simp; try omega) _))
      · skip
        cases c4 : finL X n
        · skip
          clear hk
          go_enter Try.func37, Try.ntmps37
          go_wp2_with (first | (go_at_call 51; refine (HG.out _ _ (by exact rd_one' _ _ _ (by simp))).mono ?_; rintro e w' ⟨rfl, q, rfl⟩) | (go_at_call 66; have _t := tokX; refine (HFX.out _ _ (by exact HX.out.below (by (repeat (first | with_reducible exact Below.refl _ _ | with_reducible refine Below.drewN ?_ _ | with_reducible refine Below.setCell ?_ (by simp; try omega) _ | with_reducible refine Below.alloc ?_ (by simp; try omega) _))))).mono ?_; rintro e w' ⟨rfl, q2, rfl⟩; clear tokX) | (go_at_call 66; have _t := tokY; refine (HFC.out _ _ (by exact HY.out.below (by (repeat (first | with_reducible exact Below.refl _ _ | with_reducible refine Below.drewN ?_ _ | with_reducible refine Below.setCell ?_ (by simp; try omega) _ | with_reducible refine Below.alloc ?_ (by simp; try omega) _))))).mono ?_; rintro e w' ⟨rfl, q3, rfl⟩; clear tokY))
          go_ret2
          refine mlNo ?_
          (repeat (first | with_reducible exact Below.refl _ _ | with_reducible refine Below.drewN ?_ _ | with_reducible refine Below.setCell ?_ (by simp; try omega) _ | with_reducible refine Below.alloc ?_ (by simp; try omega) _))
        · skip
          cases c5 : finL C m
          · skip
            clear hk
            go_enter Try.func37, Try.ntmps37
            go_wp2_with (first | (go_at_call 51; refine (HG.out _ _ (by exact rd_one' _ _ _ (by simp))).mono ?_; rintro e w' ⟨rfl, q, rfl⟩) | (go_at_call 66; have _t := tokX; refine (HFX.out _ _ (by exact HX.out.below (by (repeat (first | with_reducible exact Below.refl _ _ | with_reducible refine Below.drewN ?_ _ | with_reducible refine Below.setCell ?_ (by simp; try omega) _ | with_reducible refine Below.alloc ?_ (by simp; try omega) _))))).mono ?_; rintro e w' ⟨rfl, q2, rfl⟩; clear tokX) | (go_at_call 66; have _t := tokY; refine (HFC.out _ _ (by exact HY.out.below (by (repeat (first | with_reducible exact Below.refl _ _ | with_reducible refine Below.drewN ?_ _ | with_reducible refine Below.setCell ?_ (by simp; try omega) _ | with_reducible refine Below.alloc ?_ (by simp; try omega) _))))).mono ?_; rintro e w' ⟨rfl, q3, rfl⟩; clear tokY))
            go_ret2
            refine mlNo ?_
            (repeat (first | with_reducible exact Below.refl _ _ | with_reducible refine Below.drewN ?_ _ | with_reducible refine Below.setCell ?_ (by simp; try omega) _ | with_reducible refine Below.alloc ?_ (by simp; try omega) _))
          · skip
            exfalso
            rw [c1, c2, c3, c4, c5] at hk
            cases hk
theorem isG_split (W : Nat) : isG W = (isFin .f32 W && !ltZ W) := by
  cases hf : isFin .f32 W
  · rw [isG_no hf]; rfl
  · rw [isG_fin hf]; rfl
theorem bothMatchLines (n : Nat) (X : Nat → Nat) (hn : n ≤ 1048576) (m : Nat) (C : Nat → Nat) (hm : m ≤ 1048576) (W : Nat) (hw : (Lit.float .f32 W).wf = true) :
    ∃ (R : Nat → Int) (c : Nat) (ok : Bool), (∀ (xa : Option Addr) (cx : Nat) (ya : Option Addr) (cy : Nat) (w : World), Rd w xa n X → Rd w ya m C → Calls Try.prog 36 #[.slice xa n cx, .slice ya m cy, .float .f32 W] w (RetMatchLines R c ok w)) ∧
      ∀ (xa : Option Addr) (cx : Nat) (ya : Option Addr) (cy : Nat) (w : World), Rd w xa n X → Rd w ya m C → Calls Try.prog 37 #[.slice xa n cx, .slice ya m cy, .float .f32 W] w (RetMatchLines R c ok w) := by
  have hW : W < 4294967296 := by simpa [Lit.wf] using hw
  cases hp : (!decide ((128 : Int) < (n : Int)) && (!decide ((128 : Int) < (m : Int)) && (isFin .f32 W && !ltZ W)))
  · refine ⟨fun _ => 0, 0, false, fun xa cx ya cy w hX hY => specMl_pre xa n cx X ya m cy C W w _ hn hm hp, fun xa cx ya cy w hX hY => implMl_no xa n cx X ya m cy C W w _ hX hY hn hm ?_⟩
    rw [isG_split]
    revert hp
    cases decide ((128 : Int) < (n : Int)) <;> cases decide ((128 : Int) < (m : Int)) <;> cases isFin .f32 W <;> cases ltZ W <;> simp
  · have hp' := hp
    simp only [Bool.and_eq_true, Bool.not_eq_true', decide_eq_false_iff_not] at hp'
    obtain ⟨h1, h2, h3, h4⟩ := hp'
    cases hk : (finL X n && finL C m)
    · refine ⟨mlR X C n m W, 0, false, fun xa cx ya cy w hX hY => specMl_main xa n cx X ya m cy C W w hX hY hW (by omega) (by omega) h3 h4 false 0 (Lib.hid hk.symm) (Lib.hid rfl), fun xa cx ya cy w hX hY => implMl_no xa n cx X ya m cy C W w _ hX hY hn hm ?_⟩
      rw [hk]
      cases decide ((128 : Int) < (n : Int)) <;> cases decide ((128 : Int) < (m : Int)) <;> cases isG W <;> rfl
    · have hk' : okMl X C n m W = true := by
        unfold okMl
        rw [hk, isG_split, h3, h4, decide_eq_true (show n ≤ 128 by omega), decide_eq_true (show m ≤ 128 by omega)]
        rfl
      exact ⟨mlR X C n m W, n, true, fun xa cx ya cy w hX hY => specMl_main xa n cx X ya m cy C W w hX hY hW (by omega) (by omega) h3 h4 true n (Lib.hid hk.symm) (Lib.hid rfl), fun xa cx ya cy w hX hY => (implMl_yes xa n cx X ya m cy C W w hX hY hk').mono fun e w' ⟨v, he, ho, hb⟩ => ⟨v, he, ho, hn, hb⟩⟩
set_option maxRecDepth 100000 in
set_option maxHeartbeats 6400000 in
theorem lawMatchLines_in (W : World) (x0 : Option Addr) (n0 c0 : Nat) (X0 : Nat → Nat) (hX0 : Rd W x0 n0 X0) (x1 : Option Addr) (n1 c1 : Nat) (X1 : Nat → Nat) (hX1 : Rd W x1 n1 X1) (a2 : Nat) (_wf2 : (Lit.float .f32 a2).wf = true) (h0 : n0 ≤ 1048576) (h1 : n1 ≤ 1048576) (R0 : Nat → Int) (m0 : Nat) (r1 : Bool) (HS : Hid (∀ (x0 : Option Addr) (c0 : Nat) (x1 : Option Addr) (c1 : Nat) (w : World), Rd w x0 n0 X0 → Rd w x1 n1 X1 → Calls Try.prog 36 #[.slice x0 n0 c0, .slice x1 n1 c1, .float .f32 a2] w (RetMatchLines R0 m0 r1 w))) (HI : Hid (∀ (x0 : Option Addr) (c0 : Nat) (x1 : Option Addr) (c1 : Nat) (w : World), Rd w x0 n0 X0 → Rd w x1 n1 X1 → Calls Try.prog 37 #[.slice x0 n0 c0, .slice x1 n1 c1, .float .f32 a2] w (RetMatchLines R0 m0 r1 w))) :
    Calls Try.prog 9 #[.slice x0 n0 c0, .slice x1 n1 c1, .float .f32 a2] W fun e w' => e = .returned (.bool true) ∧ Below W.heap.size W w' := by
  have hcv := fun (R : Nat) (s t : Nat) => show canon .f64 (pick .f64 (fconv .f32 (pick .f32 R s) .f64) t) = canon .f64 (fconv .f32 R .f64) by rw [canon_pick, fconv_pick]
  have hcw := fun (R : Nat) (s t : Nat) => show canon .f64 (pick .f64 R s) = canon .f64 (pick .f64 R t) by rw [canon_pick, canon_pick]
  have HCV := Lib.hid hcv
  have HCW := Lib.hid hcw
  clear hcv hcw
  have hnb1 : (r1 != r1) = false := by simp
  have HB := Blw.refl W
  go_enter Try.func9, Try.ntmps9
  go_wp2_with fail
  refine (toF_any _ _ _ X0 _ (by exact hX0.below (Blw.out (by exact HB))) h0).mono ?_
  rintro e0 w0 ⟨rfl, O0, B0⟩
  replace HB := Blw.next (by exact HB) B0
  have C0 := O0
  clear O0 B0
  go_wp2_with fail
  refine (toF_any _ _ _ X1 _ (by exact hX1.below (Blw.out (by exact HB))) h1).mono ?_
  rintro e0 w0 ⟨rfl, O0, B0⟩
  replace C0 := own_below (by exact C0) B0
  replace HB := Blw.next (by exact HB) B0
  have C1 := O0
  clear O0 B0
  go_wp2_with fail
  refine (HS.out _ _ _ _ _ (rd_own (by exact C0)) (rd_own (by exact C1))).mono ?_
  rintro e0 w1 ⟨vw0, rfl, Ow0, mw0, B0⟩
  clear C0
  clear C1
  replace HB := Blw.next (by exact HB) B0
  clear B0
  have Z0 := hX0.below HB.out
  have Z1 := hX1.below HB.out
  obtain ⟨xw0, cw0, rfl, _, _, Rw0⟩ := rdI_of_own Ow0
  clear Ow0
  have HL := Blw.refl w1
  have E0 := (Blw.out (by exact HL)).size
  go_wp2_with fail
  refine (toF_any _ _ _ X0 _ (by exact Z0.below (Blw.out (by exact HL))) h0).mono ?_
  rintro e0 w0 ⟨rfl, O0, B0⟩
  replace HL := Blw.next (by exact HL) B0
  have D0 := O0
  clear O0 B0
  have E1 := (Blw.out (by exact HL)).size
  have Q0_1 := own_lt (by exact D0)
  go_wp2_with fail
  refine (toF_any _ _ _ X1 _ (by exact Z1.below (Blw.out (by exact HL))) h1).mono ?_
  rintro e0 w0 ⟨rfl, O0, B0⟩
  replace D0 := own_below (by exact D0) B0
  replace HL := Blw.next (by exact HL) B0
  have D1 := O0
  clear O0 B0
  have Qg0 := own_lt (by exact D0)
  have Qg1 := own_lt (by exact D1)
  have Eg := (Blw.out (by exact HL)).size
  go_wp2_with fail
  refine (HI.out _ _ _ _ _ (rd_own (by exact D0)) (rd_own (by exact D1))).mono ?_
  rintro e0 w2 ⟨vg0, rfl, Og0, mg0, B0⟩
  replace D0 := own_below (by exact D0) B0
  replace D1 := own_below (by exact D1) B0
  replace HL := Blw.next (by exact HL) B0
  clear B0
  have O_0 := Og0
  obtain ⟨xg0, cg0, rfl, _, _, Rg0⟩ := rdI_of_own O_0
  clear O_0
  go_wp2_with fail
  refine (eqI_any _ _ _ _ _ R0 _ (by exact Rg0) (by exact Rw0.below (Blw.out (by exact HL))) mw0).mono ?_
  rintro e0 w0 ⟨rfl, q, rfl⟩
  go_wp2_with fail
  refine (toF_any _ _ _ X0 _ (by exact Z0.below (Blw.out (by exact HL))) h0).mono ?_
  rintro e0 w0 ⟨rfl, O0, B0⟩
  replace D0 := own_below (by exact D0) B0
  replace D1 := own_below (by exact D1) B0
  replace Og0 := own_below (by exact Og0) B0
  replace HL := Blw.next (by exact HL) B0
  have K0 := O0
  clear O0 B0
  go_wp2_with fail
  refine (eqF_any _ _ _ _ _ X0 X0 _ (by exact rd_own (by exact D0)) (by exact rd_own (by exact K0)) h0 (fun _ _ => rfl)).mono ?_
  rintro e0 w0 ⟨rfl, q, rfl⟩
  clear K0
  go_wp2_with fail
  refine (toF_any _ _ _ X1 _ (by exact Z1.below (Blw.out (by exact HL))) h1).mono ?_
  rintro e0 w0 ⟨rfl, O0, B0⟩
  replace D0 := own_below (by exact D0) B0
  replace D1 := own_below (by exact D1) B0
  replace Og0 := own_below (by exact Og0) B0
  replace HL := Blw.next (by exact HL) B0
  have K1 := O0
  clear O0 B0
  go_wp2_with fail
  refine (eqF_any _ _ _ _ _ X1 X1 _ (by exact rd_own (by exact D1)) (by exact rd_own (by exact K1)) h1 (fun _ _ => rfl)).mono ?_
  rintro e0 w0 ⟨rfl, q, rfl⟩
  clear K1
  go_wp2_with fail
  refine (markX_any _ _ n0 _ X0 _ _ (by exact D0) h0 (by omega) (by omega)).mono ?_
  rintro e0 w0 ⟨rfl, NM⟩
  replace D1 := own_only (by exact D1) (by exact Q0_1) NM
  replace Og0 := own_only (by exact Og0) (by exact Qg0) NM
  replace HL := Blw.only (by exact HL) E0 NM
  clear NM D0
  go_wp2_with fail
  refine (markX_any _ _ n1 _ X1 _ _ (by exact D1) h1 (by omega) (by omega)).mono ?_
  rintro e0 w0 ⟨rfl, NM⟩
  replace Og0 := own_only (by exact Og0) (by exact Qg1) NM
  replace HL := Blw.only (by exact HL) E1 NM
  clear NM D1
  have hk1 : (0 : Int) ≤ 1 + (n0 : Int) + (n1 : Int) := by omega
  replace Rg0 := rdI_own' (by exact Og0)
  go_wp2_with fail
  refine (eqI_any _ _ _ _ _ R0 _ (by exact Rg0) (by exact Rw0.below (Blw.out (by exact HL))) mw0).mono ?_
  rintro e0 w0 ⟨rfl, q, rfl⟩
  clear Rg0
  go_wp2_with fail
  refine (markI_any _ _ m0 R0 _ _ (by exact Og0) mg0 (by omega) (by omega)).mono ?_
  rintro e0 w0 ⟨rfl, Ok0, B0⟩
  replace HL := Blw.nextB (by exact HL) (B0.mono Eg)
  clear B0 Og0
  have hm1 : (0 : Int) ≤ 1 + (m0 : Int) := by omega
  go_wp2_with fail
  refine (heldI_any _ _ m0 _ _ (by exact Ok0) mg0 (by omega) (by omega)).mono ?_
  rintro e0 w0 ⟨rfl, rfl⟩
  go_wp2_with fail
  refine (toF_any _ _ _ X0 _ (by exact Z0.below (Blw.out (by exact HL))) h0).mono ?_
  rintro e0 w0 ⟨rfl, O0, B0⟩
  replace Ok0 := own_below (by exact Ok0) B0
  replace HL := Blw.next (by exact HL) B0
  have C0 := O0
  clear O0 B0
  go_wp2_with fail
  refine (toF_any _ _ _ X1 _ (by exact Z1.below (Blw.out (by exact HL))) h1).mono ?_
  rintro e0 w0 ⟨rfl, O0, B0⟩
  replace C0 := own_below (by exact C0) B0
  replace Ok0 := own_below (by exact Ok0) B0
  replace HL := Blw.next (by exact HL) B0
  have C1 := O0
  clear O0 B0
  go_wp2_with fail
  refine (HI.out _ _ _ _ _ (rd_own (by exact C0)) (rd_own (by exact C1))).mono ?_
  rintro e0 w3 ⟨vh0, rfl, Oh0, mh0, B0⟩
  replace Ok0 := own_below (by exact Ok0) B0
  clear C0
  clear C1
  replace HL := Blw.next (by exact HL) B0
  clear B0
  obtain ⟨xh0, ch0, rfl, _, _, Rh0⟩ := rdI_of_own Oh0
  clear Oh0
  go_wp2_with fail
  refine (eqI_any _ _ _ _ _ R0 _ (by exact Rh0) (by exact Rw0.below (Blw.out (by exact HL))) mw0).mono ?_
  rintro e0 w0 ⟨rfl, q, rfl⟩
  clear Rh0
  go_wp2_with fail
  refine (heldI_any _ _ m0 _ _ (by exact Ok0) mg0 (by omega) (by omega)).mono ?_
  rintro e0 w0 ⟨rfl, rfl⟩
  go_wp2
  go_ret
  exact ⟨rfl, (Blw.out (by exact HB)).trans ((Blw.out (by exact HL)).mono (Blw.out (by exact HB)).size)⟩
set_option maxRecDepth 100000 in
set_option maxHeartbeats 1600000 in
theorem lawMatchLines_any (W : World) (x0 : Option Addr) (n0 c0 : Nat) (X0 : Nat → Nat) (hX0 : Rd W x0 n0 X0) (x1 : Option Addr) (n1 c1 : Nat) (X1 : Nat → Nat) (hX1 : Rd W x1 n1 X1) (a2 : Nat) (_wf2 : (Lit.float .f32 a2).wf = true) :
    Calls Try.prog 9 #[.slice x0 n0 c0, .slice x1 n1 c1, .float .f32 a2] W fun e w' => e = .returned (.bool true) ∧ Below W.heap.size W w' := by
  by_cases h0 : n0 ≤ 1048576
  · skip
    by_cases h1 : n1 ≤ 1048576
    · skip
      obtain ⟨R0, m0, r1, hs, hi⟩ := bothMatchLines n0 X0 h0 n1 X1 h1 a2 _wf2
      exact lawMatchLines_in W x0 n0 c0 X0 hX0 x1 n1 c1 X1 hX1 a2 _wf2 h0 h1 R0 m0 r1 (Lib.hid hs) (Lib.hid hi)
    · have h' : (1048576 : Int) < (n1 : Int) := by omega
      go_enter Try.func9, Try.ntmps9
      go_wp2
      go_ret
      exact ⟨rfl, (Blw.refl W).out⟩
  · have h' : (1048576 : Int) < (n0 : Int) := by omega
    go_enter Try.func9, Try.ntmps9
    go_wp2
    go_ret
    exact ⟨rfl, (Blw.refl W).out⟩
end Go.Proofs.Ytogmcinaoemnpab
