/- For all numbers the program tells how much has swung over just where the model does, and the same: for all arguments. -/
import Derived.Test.YtebelikahpnobaaSame
import Derived.Test.YtebelikahpnobaaPhaA
import Derived.Test.YtebelikahpnobaaNum
import Derived.Test.YtebelikahpnobaaRootC
import Derived.Test.YtebelikahpnobaaLaw
namespace Go.Proofs.Ytebelikahpnobaa
open Go Go.ChangeShapes Go.WideShapes Go.ChangeAt Go.RowKit

theorem mul_comm32 (x y : Nat) : fbin .mul .f32 x y = fbin .mul .f32 y x := by
  have h : ∀ a b : Ieee.Datum, a.product b = b.product a := by
    intro a b
    cases a <;> cases b <;> simp [Ieee.Datum.product, Bool.xor_comm, Nat.mul_comm, Int.add_comm]
  simp [fbin, floatBits, Ieee.Format.mul, h]
theorem phaT_pick (Y s : Nat) : phaT (pick .f64 Y s) = phaT Y := by
  cases hn : isNaN .f64 Y
  · rw [pick_num hn]
  · have hf : isFin .f64 Y = false := by unfold isFin; unfold isNaN at hn; rw [hn]; rfl
    have hf' : isFin .f64 (pick .f64 Y s) = false := by rw [isFin_pick, hf]
    unfold phaT
    rw [if_neg (by rw [hf']; simp), if_neg (by rw [hf]; simp)]
def whR (r o : Nat) : Nat := rootT (fbin .add .f32 (fbin .mul .f32 r r) (fbin .mul .f32 o o))
def tuR (w t : Nat) : Nat := fbin .quo .f64 (fconv .f32 (fbin .mul .f32 (fbin .mul .f32 1056964608 t) w) .f64) 4618760256179416344
def swR (r w t : Nat) : Nat := fbin .mul .f32 (fbin .quo .f32 (fbin .mul .f32 r r) (fbin .mul .f32 w w)) (fbin .mul .f32 (phaT (tuR w t)).2 (phaT (tuR w t)).2)
def okSwh (r o t : Nat) : Bool := (isFin .f32 r && isFin .f32 o) && isG t
theorem tu_lt (w t s : Nat) : pick .f64 (tuR w t) s < 18446744073709551616 := f64_lt (pick_wf (fbin_wf _ _ _ _) s)
set_option maxRecDepth 100000 in
set_option maxHeartbeats 3200000 in
theorem specSwh_no (r o t : Nat) (w : World) (hk : okSwh r o t = false) : Calls Try.prog 34 #[.float .f32 r, .float .f32 o, .float .f32 t] w (NRet 0 false w) := by
  cases c1 : isFin .f32 r
  · skip
    clear hk
    go_enter Try.func34, Try.ntmps34
    go_wp2_with (first | (go_at_call 58; refine (l01Finite_any _ _).mono ?_; rintro e w' ⟨rfl, q, rfl⟩) | (go_at_call 54; refine (l02Least_any _ _).mono ?_; rintro e w' ⟨rfl, q, rfl⟩))
    go_ret2
    refine ⟨0, by rw [pick_nul]; rfl, ?_⟩
    (repeat (first | with_reducible exact Below.refl _ _ | with_reducible refine Below.drewN ?_ _ | with_reducible refine Below.setCell ?_ (by simp; try omega) _ | with_reducible refine Below.alloc ?_ (by simp; try omega) _))
  · skip
    cases c2 : isFin .f32 o
    · skip
      clear hk
      go_enter Try.func34, Try.ntmps34
      go_wp2_with (first | (go_at_call 58; refine (l01Finite_any _ _).mono ?_; rintro e w' ⟨rfl, q, rfl⟩) | (go_at_call 54; refine (l02Least_any _ _).mono ?_; rintro e w' ⟨rfl, q, rfl⟩))
      go_ret2
      refine ⟨0, by rw [pick_nul]; rfl, ?_⟩
      (repeat (first | with_reducible exact Below.refl _ _ | with_reducible refine Below.drewN ?_ _ | with_reducible refine Below.setCell ?_ (by simp; try omega) _ | with_reducible refine Below.alloc ?_ (by simp; try omega) _))
    · skip
      cases c3 : isG t
      · skip
        clear hk
        go_enter Try.func34, Try.ntmps34
        go_wp2_with (first | (go_at_call 58; refine (l01Finite_any _ _).mono ?_; rintro e w' ⟨rfl, q, rfl⟩) | (go_at_call 54; refine (l02Least_any _ _).mono ?_; rintro e w' ⟨rfl, q, rfl⟩))
        go_ret2
        refine ⟨0, by rw [pick_nul]; rfl, ?_⟩
        (repeat (first | with_reducible exact Below.refl _ _ | with_reducible refine Below.drewN ?_ _ | with_reducible refine Below.setCell ?_ (by simp; try omega) _ | with_reducible refine Below.alloc ?_ (by simp; try omega) _))
      · skip
        exfalso
        simp [okSwh, *] at hk
set_option maxRecDepth 100000 in
set_option maxHeartbeats 3200000 in
theorem implSwh_no (r o t : Nat) (w : World) (hk : okSwh r o t = false) : Calls Try.prog 35 #[.float .f32 r, .float .f32 o, .float .f32 t] w (NRet 0 false w) := by
  have hf := finL_two r o
  have hg := gL_one t
  cases c1 : finL (duo r o) 2
  · skip
    clear hk hf hg
    go_enter Try.func35, Try.ntmps35
    go_wp2_with (first | (go_at_call 47; refine (allFinite_any _ _ _ (duo _ _) _ (by exact rd_two' _ _ _ _ (by simp)) (by omega)).mono ?_; rintro e w' ⟨rfl, q, rfl⟩) | (go_at_call 46; refine (areAtLeastZero_any _ _ _ (fun _ => _) _ (by exact rd_one' _ _ _ (by simp)) (by omega)).mono ?_; rintro e w' ⟨rfl, q, rfl⟩))
    go_ret2
    refine ⟨0, by rw [pick_nul]; rfl, ?_⟩
    (repeat (first | with_reducible exact Below.refl _ _ | with_reducible refine Below.drewN ?_ _ | with_reducible refine Below.setCell ?_ (by simp; try omega) _ | with_reducible refine Below.alloc ?_ (by simp; try omega) _))
  · skip
    cases c2 : gL (fun _ => t) 1
    · skip
      clear hk hf hg
      go_enter Try.func35, Try.ntmps35
      go_wp2_with (first | (go_at_call 47; refine (allFinite_any _ _ _ (duo _ _) _ (by exact rd_two' _ _ _ _ (by simp)) (by omega)).mono ?_; rintro e w' ⟨rfl, q, rfl⟩) | (go_at_call 46; refine (areAtLeastZero_any _ _ _ (fun _ => _) _ (by exact rd_one' _ _ _ (by simp)) (by omega)).mono ?_; rintro e w' ⟨rfl, q, rfl⟩))
      go_ret2
      refine ⟨0, by rw [pick_nul]; rfl, ?_⟩
      (repeat (first | with_reducible exact Below.refl _ _ | with_reducible refine Below.drewN ?_ _ | with_reducible refine Below.setCell ?_ (by simp; try omega) _ | with_reducible refine Below.alloc ?_ (by simp; try omega) _))
    · skip
      exfalso
      rw [okSwh, ← hf, ← hg, c1, c2] at hk
      cases hk
set_option maxRecDepth 100000 in
set_option maxHeartbeats 3200000 in
theorem specSwh_yes (r o t : Nat) (w : World) (hk : okSwh r o t = true) (W S Z D R : Nat) (b ok : Bool) (hW : Hid (W = whR r o)) (hb : Hid (b = (FloatKind.f32.format.order W 0 == some .eq))) (hZ : Hid (Z = tuR W t)) (hS : Hid (S = (phaT Z).2)) (hD : Hid (D = fbin .mul .f32 (fbin .quo .f32 (fbin .mul .f32 r r) (fbin .mul .f32 W W)) (fbin .mul .f32 S S)))
    (hR : Hid (R = if b = true then 0 else numQ D)) (ho : Hid (ok = (b || isFin .f32 D))) : Calls Try.prog 34 #[.float .f32 r, .float .f32 o, .float .f32 t] w (NRet R ok w) := by
  have h1 : isFin .f32 r = true ∧ isFin .f32 o = true ∧ isG t = true := by simpa [okSwh, and_assoc] using hk
  obtain ⟨h1, h2, h3⟩ := h1
  clear hk
  have hp := fun op => fbin_pick_l op .f32
  have hq := fun op => fbin_pick_r op .f32
  have hp6 := fun op => fbin_pick_l op .f64
  have hcp := fun X s => fconv_pick .f32 X s .f64
  have hrp := rootT_pick
  have ho1 := order_pick_l .f32
  have hphp := phaT_pick
  have HP := Lib.hid (fun (s : Nat) w => specPha_any (pick .f64 Z s) w)
  have eW : rootT (fbin .add .f32 (fbin .mul .f32 r r) (fbin .mul .f32 o o)) = W := hW.out.symm
  have eZ : fbin .quo .f64 (fconv .f32 (fbin .mul .f32 (fbin .mul .f32 1056964608 t) W) .f64) 4618760256179416344 = Z := hZ.out.symm
  have hb' := hb.out.symm
  have HS := hS
  cases b
  · go_enter Try.func34, Try.ntmps34
    go_wp2_with (first | (first | ((with_reducible refine wpL_fbin ?_); refine ⟨_, _, _, rfl, rfl, rfl, fun s n => ?_⟩) | ((with_reducible refine wpL_fconv ?_); refine ⟨_, _, _, rfl, Option.isSome_iff_exists.2 ⟨_, Try.underlying22⟩, Try.underlying34, FloatKind.noConfusion, convOk_widen _, fun s n => ?_⟩) | (go_at_call 58; refine (l01Finite_any _ _).mono ?_; rintro e w' ⟨rfl, q, rfl⟩) | (go_at_call 54; refine (l02Least_any _ _).mono ?_; rintro e w' ⟨rfl, q, rfl⟩) | (go_at_call 55; refine (l01Sqrt_any _ _).mono ?_; rintro e w' ⟨s', m', rfl, rfl⟩) | (go_at_call 51; refine (numS_any _ _ _).mono ?_; rintro e w' ⟨s', m', rfl, rfl⟩)) | (go_at_call 68; refine (HP.out _ _).mono ?_; rw [phaT_pick, ← HS.out]; rintro e w' ⟨s', t', m', rfl, rfl⟩) | go_in)
    go_ret2
    have HO := Lib.hid (show ok = (true && isFin .f32 D) by rw [ho.out, Bool.false_or, Bool.true_and])
    have HR := Lib.hid (show R = if true = true then numQ D else 0 by rw [hR.out, if_neg (by simp), if_pos rfl])
    have ED := hD.out
    rw [← ED]
    refine NRet.yes HR HO (Lib.hid rfl) ?_
    (repeat (first | with_reducible exact Below.refl _ _ | with_reducible refine Below.drewN ?_ _ | with_reducible refine Below.setCell ?_ (by simp; try omega) _ | with_reducible refine Below.alloc ?_ (by simp; try omega) _))
  · have ER : R = 0 := by rw [hR.out, if_pos rfl]
    have EO : ok = true := by rw [ho.out, Bool.true_or]
    go_enter Try.func34, Try.ntmps34
    go_wp2_with (first | (first | ((with_reducible refine wpL_fbin ?_); refine ⟨_, _, _, rfl, rfl, rfl, fun s n => ?_⟩) | ((with_reducible refine wpL_fconv ?_); refine ⟨_, _, _, rfl, Option.isSome_iff_exists.2 ⟨_, Try.underlying22⟩, Try.underlying34, FloatKind.noConfusion, convOk_widen _, fun s n => ?_⟩) | (go_at_call 58; refine (l01Finite_any _ _).mono ?_; rintro e w' ⟨rfl, q, rfl⟩) | (go_at_call 54; refine (l02Least_any _ _).mono ?_; rintro e w' ⟨rfl, q, rfl⟩) | (go_at_call 55; refine (l01Sqrt_any _ _).mono ?_; rintro e w' ⟨s', m', rfl, rfl⟩) | (go_at_call 51; refine (numS_any _ _ _).mono ?_; rintro e w' ⟨s', m', rfl, rfl⟩)) | go_in)
    go_ret2
    rw [ER, EO]
    refine ⟨0, by rw [pick_nul]; rfl, ?_⟩
    (repeat (first | with_reducible exact Below.refl _ _ | with_reducible refine Below.drewN ?_ _ | with_reducible refine Below.setCell ?_ (by simp; try omega) _ | with_reducible refine Below.alloc ?_ (by simp; try omega) _))
set_option maxRecDepth 100000 in
set_option maxHeartbeats 3200000 in
theorem implSwh_yes (r o t : Nat) (w : World) (hk : okSwh r o t = true) (W S Z D R : Nat) (b ok : Bool) (hW : Hid (W = whR r o)) (hb : Hid (b = (FloatKind.f32.format.order W 0 == some .eq))) (hZ : Hid (Z = tuR W t)) (hS : Hid (S = (phaT Z).2)) (hD : Hid (D = fbin .mul .f32 (fbin .quo .f32 (fbin .mul .f32 r r) (fbin .mul .f32 W W)) (fbin .mul .f32 S S)))
    (hR : Hid (R = if b = true then 0 else numQ D)) (ho : Hid (ok = (b || isFin .f32 D))) : Calls Try.prog 35 #[.float .f32 r, .float .f32 o, .float .f32 t] w (NRet R ok w) := by
  have h1 : isFin .f32 r = true ∧ isFin .f32 o = true ∧ isG t = true := by simpa [okSwh, and_assoc] using hk
  have h2 : finL (duo r o) 2 = true := by rw [finL_two, h1.1, h1.2.1]; rfl
  have h3 : gL (fun _ => t) 1 = true := by rw [gL_one, h1.2.2]
  clear hk h1
  have hp := fun op => fbin_pick_l op .f32
  have hq := fun op => fbin_pick_r op .f32
  have hp6 := fun op => fbin_pick_l op .f64
  have hcp := fun X s => fconv_pick .f32 X s .f64
  have hrp := rootT_pick
  have ho1 := order_pick_l .f32
  have HP := Lib.hid (fun (s : Nat) w => implPha_any (pick .f64 Z s) (by rw [hZ.out]; exact tu_lt _ _ _) w)
  have eW : rootT (fbin .add .f32 (fbin .mul .f32 r r) (fbin .mul .f32 o o)) = W := hW.out.symm
  have eZ : fbin .quo .f64 (fconv .f32 (fbin .mul .f32 W (fbin .mul .f32 1056964608 t)) .f64) 4618760256179416344 = Z := by rw [mul_comm32 W]; exact hZ.out.symm
  have hb' := hb.out.symm
  have HS := hS
  cases b
  · go_enter Try.func35, Try.ntmps35
    go_wp2_with (first | (first | ((with_reducible refine wpL_fbin ?_); refine ⟨_, _, _, rfl, rfl, rfl, fun s n => ?_⟩) | ((with_reducible refine wpL_fconv ?_); refine ⟨_, _, _, rfl, Option.isSome_iff_exists.2 ⟨_, Try.underlying22⟩, Try.underlying34, FloatKind.noConfusion, convOk_widen _, fun s n => ?_⟩) | (go_at_call 47; refine (allFinite_any _ _ _ (duo _ _) _ (by exact rd_two' _ _ _ _ (by simp)) (by omega)).mono ?_; rintro e w' ⟨rfl, q, rfl⟩) | (go_at_call 46; refine (areAtLeastZero_any _ _ _ (fun _ => _) _ (by exact rd_one' _ _ _ (by simp)) (by omega)).mono ?_; rintro e w' ⟨rfl, q, rfl⟩) | (go_at_call 57; refine (RootNumber_any _ _).mono ?_; rintro e w' ⟨s', m', rfl, rfl⟩) | (go_at_call 53; refine (numI_any _ _ _).mono ?_; rintro e w' ⟨s', m', rfl, rfl⟩)) | (go_at_call 84; refine (HP.out _ _).mono ?_; rw [phaT_pick, ← HS.out]; rintro e w' ⟨s', t', m', rfl, rfl⟩) | go_in)
    go_ret2
    have HO := Lib.hid (show ok = (true && isFin .f32 D) by rw [ho.out, Bool.false_or, Bool.true_and])
    have HR := Lib.hid (show R = if true = true then numQ D else 0 by rw [hR.out, if_neg (by simp), if_pos rfl])
    have ED := hD.out
    rw [← ED]
    refine NRet.yes HR HO (Lib.hid rfl) ?_
    (repeat (first | with_reducible exact Below.refl _ _ | with_reducible refine Below.drewN ?_ _ | with_reducible refine Below.setCell ?_ (by simp; try omega) _ | with_reducible refine Below.alloc ?_ (by simp; try omega) _))
  · have ER : R = 0 := by rw [hR.out, if_pos rfl]
    have EO : ok = true := by rw [ho.out, Bool.true_or]
    go_enter Try.func35, Try.ntmps35
    go_wp2_with (first | (first | ((with_reducible refine wpL_fbin ?_); refine ⟨_, _, _, rfl, rfl, rfl, fun s n => ?_⟩) | ((with_reducible refine wpL_fconv ?_); refine ⟨_, _, _, rfl, Option.isSome_iff_exists.2 ⟨_, Try.underlying22⟩, Try.underlying34, FloatKind.noConfusion, convOk_widen _, fun s n => ?_⟩) | (go_at_call 47; refine (allFinite_any _ _ _ (duo _ _) _ (by exact rd_two' _ _ _ _ (by simp)) (by omega)).mono ?_; rintro e w' ⟨rfl, q, rfl⟩) | (go_at_call 46; refine (areAtLeastZero_any _ _ _ (fun _ => _) _ (by exact rd_one' _ _ _ (by simp)) (by omega)).mono ?_; rintro e w' ⟨rfl, q, rfl⟩) | (go_at_call 57; refine (RootNumber_any _ _).mono ?_; rintro e w' ⟨s', m', rfl, rfl⟩) | (go_at_call 53; refine (numI_any _ _ _).mono ?_; rintro e w' ⟨s', m', rfl, rfl⟩)) | go_in)
    go_ret2
    rw [ER, EO]
    refine ⟨0, by rw [pick_nul]; rfl, ?_⟩
    (repeat (first | with_reducible exact Below.refl _ _ | with_reducible refine Below.drewN ?_ _ | with_reducible refine Below.setCell ?_ (by simp; try omega) _ | with_reducible refine Below.alloc ?_ (by simp; try omega) _))
/-- What is told of SwingShare. -/
def RetSwingShare (r0 : Nat) (r1 : Bool) (w : World) (e : Ending) (w' : World) : Prop := ∃ (s0 : Nat), e = .returned (.tuple #[.float .f32 (pick .f32 r0 s0), .bool r1]) ∧ Below w.heap.size w w'
theorem bothSwingShare (r : Nat) (_ : (Lit.float .f32 r).wf = true) (o : Nat) (_ : (Lit.float .f32 o).wf = true) (t : Nat) (_ : (Lit.float .f32 t).wf = true) : ∃ (x : Nat) (ok : Bool),
    (∀ (w : World), Calls Try.prog 34 #[.float .f32 r, .float .f32 o, .float .f32 t] w (RetSwingShare x ok w)) ∧ ∀ (w : World), Calls Try.prog 35 #[.float .f32 r, .float .f32 o, .float .f32 t] w (RetSwingShare x ok w) := by
  cases hk : okSwh r o t
  · exact ⟨0, false, fun w => specSwh_no r o t w hk, fun w => implSwh_no r o t w hk⟩
  · obtain ⟨W, hW⟩ : ∃ W, W = whR r o := ⟨_, rfl⟩
    obtain ⟨b, hb⟩ : ∃ b, b = (FloatKind.f32.format.order W 0 == some .eq) := ⟨_, rfl⟩
    obtain ⟨Z, hZ⟩ : ∃ Z, Z = tuR W t := ⟨_, rfl⟩
    obtain ⟨S, hS⟩ : ∃ S, S = (phaT Z).2 := ⟨_, rfl⟩
    obtain ⟨D, hD⟩ : ∃ D, D = fbin .mul .f32 (fbin .quo .f32 (fbin .mul .f32 r r) (fbin .mul .f32 W W)) (fbin .mul .f32 S S) := ⟨_, rfl⟩
    obtain ⟨R, hR⟩ : ∃ R, R = if b = true then 0 else numQ D := ⟨_, rfl⟩
    obtain ⟨ok, ho⟩ : ∃ ok, ok = (b || isFin .f32 D) := ⟨_, rfl⟩
    exact ⟨R, ok, fun w => specSwh_yes r o t w hk W S Z D R b ok (Lib.hid hW) (Lib.hid hb) (Lib.hid hZ) (Lib.hid hS) (Lib.hid hD) (Lib.hid hR) (Lib.hid ho), fun w => implSwh_yes r o t w hk W S Z D R b ok (Lib.hid hW) (Lib.hid hb) (Lib.hid hZ) (Lib.hid hS) (Lib.hid hD) (Lib.hid hR) (Lib.hid ho)⟩
set_option maxRecDepth 100000 in
set_option maxHeartbeats 6400000 in
theorem lawSwingShare_in (W : World) (a0 : Nat) (_wf0 : (Lit.float .f32 a0).wf = true) (a1 : Nat) (_wf1 : (Lit.float .f32 a1).wf = true) (a2 : Nat) (_wf2 : (Lit.float .f32 a2).wf = true)  (r0 : Nat) (r1 : Bool) (HS : Hid (∀  (w : World),  Calls Try.prog 34 #[.float .f32 a0, .float .f32 a1, .float .f32 a2] w (RetSwingShare r0 r1 w))) (HI : Hid (∀  (w : World),  Calls Try.prog 35 #[.float .f32 a0, .float .f32 a1, .float .f32 a2] w (RetSwingShare r0 r1 w))) :
    Calls Try.prog 10 #[.float .f32 a0, .float .f32 a1, .float .f32 a2] W fun e w' => e = .returned (.bool true) ∧ Below W.heap.size W w' := by
  have hcv := fun (R : Nat) (s t : Nat) => show canon .f64 (pick .f64 (fconv .f32 (pick .f32 R s) .f64) t) = canon .f64 (fconv .f32 R .f64) by rw [canon_pick, fconv_pick]
  have hcw := fun (R : Nat) (s t : Nat) => show canon .f64 (pick .f64 R s) = canon .f64 (pick .f64 R t) by rw [canon_pick, canon_pick]
  have HCV := Lib.hid hcv
  have HCW := Lib.hid hcw
  clear hcv hcw
  have hnb1 : (r1 != r1) = false := by simp
  have HB := Blw.refl W
  go_enter Try.func10, Try.ntmps10
  go_wp2_with fail
  refine (HS.out  _ ).mono ?_
  rintro e0 w1 ⟨sw0, rfl, B0⟩
  replace HB := Blw.next (by exact HB) B0
  clear B0
  have HL := Blw.refl w1
  have Eg := (Blw.out (by exact HL)).size
  go_wp2_with fail
  refine (HI.out  _ ).mono ?_
  rintro e0 w2 ⟨sg0, rfl, B0⟩
  replace HL := Blw.next (by exact HL) B0
  clear B0
  go_wp2_with (first | ((with_reducible refine wpL_fconv ?_); refine ⟨_, _, _, rfl, Option.isSome_iff_exists.2 ⟨_, Try.underlying22⟩, Try.underlying34, FloatKind.noConfusion, convOk_widen _, fun s n => ?_⟩) | ((with_reducible refine wpL_fconv_g ?_); refine ⟨rfl, _, _, _, rfl, Option.isSome_iff_exists.2 ⟨_, Try.underlying22⟩, Try.underlying34, FloatKind.noConfusion, convOk_widen _, fun s n => ?_⟩))
  refine (sameFloat_any _ _ _ ((HCV.out _ _ _).trans (HCV.out _ _ _).symm)).mono ?_
  rintro e0 w0 ⟨rfl, q, rfl⟩
  go_wp2
  go_ret
  exact ⟨rfl, (Blw.out (by exact HB)).trans ((Blw.out (by exact HL)).mono (Blw.out (by exact HB)).size)⟩
set_option maxHeartbeats 1600000 in
theorem lawSwingShare_any (W : World) (a0 : Nat) (_wf0 : (Lit.float .f32 a0).wf = true) (a1 : Nat) (_wf1 : (Lit.float .f32 a1).wf = true) (a2 : Nat) (_wf2 : (Lit.float .f32 a2).wf = true) :
    Calls Try.prog 10 #[.float .f32 a0, .float .f32 a1, .float .f32 a2] W fun e w' => e = .returned (.bool true) ∧ Below W.heap.size W w' := by
  obtain ⟨r0, r1, hs, hi⟩ := bothSwingShare a0 _wf0 a1 _wf1 a2 _wf2
  exact lawSwingShare_in W a0 _wf0 a1 _wf1 a2 _wf2  r0 r1 (Lib.hid hs) (Lib.hid hi)
set_option maxRecDepth 100000 in
theorem FnExactSwingShare_lifted (os : Os) (started : os.Started) (H : Type) (enc : TypeId × Value → H) :
    ReturnsInHanded {} Try.checked os 10 .any (Rows.fnExactSwingShareSpec.pre6 enc Try.prog Try.f10 Rows.fnExactSwingShareRow.domain false) (Rows.fnExactSwingShareSpec.post enc Try.prog Try.f10 false true false false) := by
  refine returnsInHanded_of_change (C := Try.checked) ownKnob_none started (by kernel_rfl) Try.func10
    (ChangeSpec.witness6 (enc := enc) (C := Try.checked) false ⟨#[], #[.float .f32 0, .float .f32 0, .float .f32 0], []⟩ 8 (by kernel_rfl) (by kernel_rfl) (by kernel_rfl) (by kernel_rfl)) ?_
  intro W base args ds gs before hval0 hW _ _
  have hval : ∀ (j : Nat) t v, Try.f10.params[j]? = some t → args[j]? = some v → Value.okWide Try.prog W .any base t v := hval0
  have hW' := hW
  obtain ⟨p, q, hA0, hV, rfl, _, _⟩ := hW
  have hA : DataW.TrodAll enc Try.prog W 0 (fun _ => true) true Try.f10.params.toList args.toList ds p := hA0
  rw [Try.params10] at hA hval
  obtain ⟨v0, v1, v2, d0, d1, d2, p0, p1, p2, rfl, rfl, rfl, h0, h1, h2⟩ := trodAll_three hA
  obtain ⟨rfl, rfl⟩ := trodVars_none hV
  obtain ⟨a0, rfl, rfl, rfl, w0⟩ := open_float Try.underlying22 (hval 0 22 v0 rfl rfl) h0
  obtain ⟨a1, rfl, rfl, rfl, w1⟩ := open_float Try.underlying22 (hval 1 22 v1 rfl rfl) h1
  obtain ⟨a2, rfl, rfl, rfl, w2⟩ := open_float Try.underlying22 (hval 2 22 v2 rfl rfl) h2
  clear hA0 hval0
  refine (lawSwingShare_any W a0 w0 a1 w1 a2 w2).mono fun e W' ⟨he, hb⟩ => ?_
  subst he
  have hA2 := trodAll_mk3 (enc := enc) (w := W') (base := 0) (spare := fun b => decide (b < W.heap.size)) (held := true) (shut_float Try.underlying22 w0) (shut_float Try.underlying22 w1) (shut_float Try.underlying22 w2)
  exact ⟨_, rfl, _, _, _, [], _, [], hW', trodAll_cons_mk (shut_bool Try.underlying4 _) trodAll_mk0, hA2, rfl, hb.frame _, fun h => by cases h⟩
theorem FnExactSwingShare_holds : Rows.FnExactSwingShareSaid :=
  OpenClaim.holds_of_wide 10 Try.f10 rfl rfl rfl rfl rfl rfl rfl ⟨rfl, rfl, rfl, rfl, rfl⟩ rfl rfl rfl rfl rfl (by kernel_rfl) Try.func10 (by kernel_rfl)
    (of_decide_eq_true (by kernel_rfl)) (by unfold Func.isWrapper; first | (rw [if_pos (by decide +kernel)]; kernel_rfl) | (rw [if_neg (by decide +kernel)]; exact ⟨rfl, rfl⟩))
    (fun os started H enc _ => FnExactSwingShare_lifted os started H enc)
end Go.Proofs.Ytebelikahpnobaa
