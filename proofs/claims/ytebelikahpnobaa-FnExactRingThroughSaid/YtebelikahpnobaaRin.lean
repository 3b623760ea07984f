/- For all numbers the program tells how much a ring lets through just where the model does, and the same: for all arguments. -/
import Derived.Test.YtebelikahpnobaaRinP
import Derived.Test.YtebelikahpnobaaNum
import Derived.Test.YtebelikahpnobaaPushS
import Derived.Test.YtebelikahpnobaaLaw
namespace Go.Proofs.Ytebelikahpnobaa
open Go Go.ChangeShapes Go.WideShapes Go.ChangeAt Go.RowKit

def shB (b : Nat) : Bool := (FloatKind.f32.format.order b 0 == some .gt || FloatKind.f32.format.order b 0 == some .eq) && (FloatKind.f32.format.order b 1065353216 == some .lt || FloatKind.f32.format.order b 1065353216 == some .eq)
set_option maxHeartbeats 800000 in
theorem share_any (b : Nat) (w : World) : Calls Try.prog 80 #[.float .f32 b] w fun e w' => e = .returned (.bool (shB b)) ∧ w' = w := by
  cases h : (FloatKind.f32.format.order b 0 == some .gt || FloatKind.f32.format.order b 0 == some .eq)
  · have H := Lib.hid (show shB b = false by unfold shB; rw [h]; rfl)
    go_enter Try.func80, Try.ntmps80
    go_wp2
    go_ret
    exact ⟨ret_bool H.out.symm, rfl⟩
  · have H := Lib.hid (show shB b = (FloatKind.f32.format.order b 1065353216 == some .lt || FloatKind.f32.format.order b 1065353216 == some .eq) by unfold shB; rw [h]; rfl)
    go_enter Try.func80, Try.ntmps80
    go_wp2
    go_ret
    exact ⟨ret_bool H.out.symm, rfl⟩
def RetK (A B : Nat) (w : World) (e : Ending) (w' : World) : Prop := ∃ n, e = .returned (.complex .f32 A B) ∧ w' = w.drewN n
def RetP (R : Nat) (w : World) (e : Ending) (w' : World) : Prop := ∃ n, e = .returned (.float .f32 R) ∧ w' = w.drewN n
set_option maxHeartbeats 1600000 in
theorem scaleI_any (a b y A B : Nat) (hA : fbin .mul .f32 a y = A) (hB : fbin .mul .f32 b y = B) (nA : ∀ s, pick .f32 A s = A) (nB : ∀ s, pick .f32 B s = B) (w : World) :
    Calls Try.prog 83 #[.complex .f32 a b, .float .f32 y] w (RetK A B w) := by
  go_enter Try.func83, Try.ntmps83
  go_wp2_with ((with_reducible refine wpL_fbin ?_); refine ⟨_, _, _, rfl, rfl, rfl, fun s n => ?_⟩)
  go_ret
  exact ⟨_, rfl, rfl⟩
set_option maxHeartbeats 1600000 in
theorem scaleS_any (a b y A B : Nat) (hA : fbin .mul .f32 a y = A) (hB : fbin .mul .f32 b y = B) (nA : ∀ s, pick .f32 A s = A) (nB : ∀ s, pick .f32 B s = B) (w : World) :
    Calls Try.prog 81 #[.complex .f32 a b, .float .f32 y] w (RetK A B w) := by
  go_enter Try.func81, Try.ntmps81
  go_wp2_with ((with_reducible refine wpL_fbin ?_); refine ⟨_, _, _, rfl, rfl, rfl, fun s n => ?_⟩)
  go_ret
  exact ⟨_, rfl, rfl⟩
set_option maxRecDepth 100000 in
set_option maxHeartbeats 1600000 in
theorem powI_any (a b X P : Nat) (hX : powW a b = X) (hP : fconv .f64 X .f32 = P) (hok : Hid (convOk .f64 X .f32)) (nX : ∀ s, pick .f64 X s = X) (nP : ∀ s, pick .f32 P s = P) (w : World) :
    Calls Try.prog 85 #[.complex .f32 a b] w (RetP P w) := by
  have hp := fbin_pick_l
  have hr := fbin_pick_r
  have hX' : fbin .add .f64 (fbin .mul .f64 (fconv .f32 a .f64) (fconv .f32 a .f64)) (fbin .mul .f64 (fconv .f32 b .f64) (fconv .f32 b .f64)) = X := hX
  clear hX
  go_enter Try.func85, Try.ntmps85
  go_wp2_with (first | ((with_reducible refine wpL_fconv ?_); refine ⟨_, _, _, rfl, Option.isSome_iff_exists.2 ⟨_, Try.underlying22⟩, Try.underlying34, FloatKind.noConfusion, convOk_widen _, fun s n => ?_⟩) | ((with_reducible refine wpL_fconv ?_); refine ⟨_, _, _, rfl, Option.isSome_iff_exists.2 ⟨_, Try.underlying34⟩, Try.underlying22, FloatKind.noConfusion, hok.out, fun s n => ?_⟩) | ((with_reducible refine wpL_fbin ?_); refine ⟨_, _, _, rfl, rfl, rfl, fun s n => ?_⟩) | (go_at_call 112; go_in) | (go_at_call 93; go_in))
  go_ret
  exact ⟨_, rfl, rfl⟩
set_option maxRecDepth 100000 in
set_option maxHeartbeats 1600000 in
theorem powS_any (a b X P : Nat) (hX : powW a b = X) (hP : fconv .f64 X .f32 = P) (hok : Hid (convOk .f64 X .f32)) (nX : ∀ s, pick .f64 X s = X) (nP : ∀ s, pick .f32 P s = P) (w : World) :
    Calls Try.prog 82 #[.complex .f32 a b] w (RetP P w) := by
  have hp := fbin_pick_l
  have hr := fbin_pick_r
  have hX' : fbin .add .f64 (fbin .mul .f64 (fconv .f32 a .f64) (fconv .f32 a .f64)) (fbin .mul .f64 (fconv .f32 b .f64) (fconv .f32 b .f64)) = X := hX
  clear hX
  go_enter Try.func82, Try.ntmps82
  go_wp2_with (first | ((with_reducible refine wpL_fconv ?_); refine ⟨_, _, _, rfl, Option.isSome_iff_exists.2 ⟨_, Try.underlying22⟩, Try.underlying34, FloatKind.noConfusion, convOk_widen _, fun s n => ?_⟩) | ((with_reducible refine wpL_fconv ?_); refine ⟨_, _, _, rfl, Option.isSome_iff_exists.2 ⟨_, Try.underlying34⟩, Try.underlying22, FloatKind.noConfusion, hok.out, fun s n => ?_⟩) | ((with_reducible refine wpL_fbin ?_); refine ⟨_, _, _, rfl, rfl, rfl, fun s n => ?_⟩) | (go_at_call 107; go_in) | (go_at_call 91; go_in))
  go_ret
  exact ⟨_, rfl, rfl⟩
/-- All that both reckon. -/
structure RinV (b t : Nat) where
  C : Nat
  S : Nat
  A1 : Nat
  B1 : Nat
  A2 : Nat
  B2 : Nat
  X : Nat
  P : Nat
  D : Nat
  Y : Nat
  hY : fconv .f32 t .f64 = Y
  hC : (phaT Y).1 = C
  hS : (phaT Y).2 = S
  nC : ∀ s, pick .f32 C s = C
  nS : ∀ s, pick .f32 S s = S
  eA1 : fbin .mul .f32 C b = A1
  eB1 : fbin .mul .f32 S b = B1
  nA1 : ∀ s, pick .f32 A1 s = A1
  nB1 : ∀ s, pick .f32 B1 s = B1
  eA2 : fbin .sub .f32 1065353216 A1 = A2
  eB2 : fbin .sub .f32 0 B1 = B2
  nA2 : ∀ s, pick .f32 A2 s = A2
  nB2 : ∀ s, pick .f32 B2 s = B2
  eX : powW A2 B2 = X
  eP : fconv .f64 X .f32 = P
  okX : Hid (convOk .f64 X .f32)
  nX : ∀ s, pick .f64 X s = X
  nP : ∀ s, pick .f32 P s = P
  eD : fbin .quo .f32 (fbin .mul .f32 (fbin .sub .f32 1065353216 b) (fbin .sub .f32 1065353216 b)) P = D
def RinOk (b t : Nat) : Prop := isG b = true ∧ Bd .f32 b 0 ∧ (FloatKind.f32.format.order b 1065353216 == some .gt || FloatKind.f32.format.order b 1065353216 == some .eq) = false ∧ shB b = true ∧ (FloatKind.f32.format.order b 1065353216 == some .eq) = false ∧ isFin .f32 t = true
def okRin (b t : Nat) : Bool := isG b && !(FloatKind.f32.format.order b 1065353216 == some .gt || FloatKind.f32.format.order b 1065353216 == some .eq) && isFin .f32 t
theorem f64_lt' {x : Nat} (h : (Lit.float .f64 x).wf = true) : x < 18446744073709551616 := by simpa [Lit.wf] using h
theorem one_dec32 : FloatKind.decode .f32 1065353216 = .number false 8388608 (-23) := by decide +kernel
theorem zero_dec32 : FloatKind.decode .f32 0 = .number false 0 (-149) := by decide +kernel
theorem rinOk_of {b t : Nat} (h : okRin b t = true) : RinOk b t := by
  unfold okRin at h
  rw [Bool.and_eq_true, Bool.and_eq_true] at h
  obtain ⟨⟨h1, h2⟩, h3⟩ := h
  have h2' : (FloatKind.f32.format.order b 1065353216 == some .gt || FloatKind.f32.format.order b 1065353216 == some .eq) = false := by simpa using h2
  have hf : isFin .f32 b = true := by unfold isG at h1; rw [Bool.and_eq_true] at h1; exact h1.1
  have h0 : (FloatKind.f32.format.order b 0 == some .gt || FloatKind.f32.format.order b 0 == some .eq) = true := by unfold isG at h1; rw [Bool.and_eq_true] at h1; exact h1.2
  obtain ⟨s, m, e, hd⟩ : ∃ s m e, FloatKind.decode .f32 b = .number s m e := by
    unfold isFin at hf
    cases hd : FloatKind.decode .f32 b with
    | nan => simp [hd, Ieee.Datum.isNaN] at hf
    | infinity => simp [hd, Ieee.Datum.isInfinity] at hf
    | number s m e => exact ⟨s, m, e, rfl⟩
  obtain ⟨o1, o2, o3⟩ := order_val hd one_dec32
  obtain ⟨p1, p2, p3⟩ := order_val hd zero_dec32
  have v1 : sval false 8388608 (-23) = 1 := by decide +kernel
  have v0 : sval false 0 (-149) = 0 := by decide +kernel
  rw [v1] at o1 o2 o3
  rw [v0] at p1 p2 p3
  have hlt : sval s m e < 1 := by
    by_cases c : sval s m e < 1
    · exact c
    · by_cases c2 : sval s m e = 1
      · rw [o2 c2] at h2'; cases h2'
      · rw [o3 (by grind)] at h2'; cases h2'
  have hge : 0 ≤ sval s m e := by
    by_cases c : sval s m e < 0
    · rw [p1 c] at h0; cases h0
    · grind
  have ho := o1 hlt
  refine ⟨h1, ⟨s, m, e, hd, ?_⟩, h2', ?_, by rw [ho]; rfl, h3⟩
  · have := (sval_abs s m e 1).2 ⟨by grind, by grind⟩
    rw [two_zero]; exact this
  · unfold shB
    rw [h0, ho]
    rfl
theorem rin_val {b t : Nat} (h : RinOk b t) : Nonempty (RinV b t) := by
  obtain ⟨_, hb, _, _, _, ht⟩ := h
  have hY : isFin .f64 (fconv .f32 t .f64) = true := by
    unfold isFin at ht
    cases hd : FloatKind.decode .f32 t with
    | nan => simp [hd, Ieee.Datum.isNaN] at ht
    | infinity => simp [hd, Ieee.Datum.isInfinity] at ht
    | number s m e =>
      obtain ⟨m', e', h1, _⟩ := widen_val hd
      unfold isFin
      rw [h1]
      rfl
  obtain ⟨c1, c2⟩ := phaT_bd hY
  have a1 := bd_mul c1 hb (by decide) (by decide)
  have b1 := bd_mul c2 hb (by decide) (by decide)
  have bo : Bd .f32 1065353216 40 := ⟨false, 8388608, -23, by decide +kernel, by decide +kernel⟩
  have bz : Bd .f32 0 40 := ⟨false, 0, -149, by decide +kernel, by decide +kernel⟩
  have a2 : Bd .f32 _ 41 := bd_sub bo a1 (by decide) (by decide)
  have b2 : Bd .f32 _ 41 := bd_sub bz b1 (by decide) (by decide)
  have x1 := bd_powW a2 b2
  exact ⟨⟨_, _, _, _, _, _, _, _, _, _, rfl, rfl, rfl, fun s => pick_num c1.num s, fun s => pick_num c2.num s, rfl, rfl, fun s => pick_num a1.num s, fun s => pick_num b1.num s, rfl, rfl, fun s => pick_num a2.num s, fun s => pick_num b2.num s, rfl, rfl, Lib.hid (convOk_narrow x1 (by decide)), fun s => pick_num x1.num s, fun s => pick_num (bd_narrow x1 (by decide) (by decide)).num s, rfl⟩⟩
set_option maxRecDepth 100000 in
set_option maxHeartbeats 6400000 in
theorem rinI_yes (b t : Nat) (w : World) (hk : RinOk b t) (V : RinV b t) (R : Nat) (ok : Bool) (hR : Hid (R = numQ V.D)) (ho : Hid (ok = isFin .f32 V.D)) :
    Calls Try.prog 44 #[.float .f32 b, .float .f32 t] w (NRet R ok w) := by
  have g1 : gL (fun _ => b) 1 = true := by rw [gL_one]; exact hk.1
  have g2 : (FloatKind.f32.format.order b 1065353216 == some .gt || FloatKind.f32.format.order b 1065353216 == some .eq) = false := hk.2.2.1
  have g3 : isFin .f32 t = true := hk.2.2.2.2.2
  obtain ⟨C, S, A1, B1, A2, B2, X, P, D, Y, hY, hC, hS, nC, nS, eA1, eB1, nA1, nB1, eA2, eB2, nA2, nB2, eX, eP, okX, nX, nP, eD⟩ := V
  obtain ⟨k, hk1⟩ : ∃ k, k = true := ⟨_, rfl⟩
  have HR := Lib.hid (show R = if k = true then numQ D else 0 by rw [if_pos hk1]; exact hR.out)
  have HO := Lib.hid (show ok = (k && isFin .f32 D) by rw [hk1, Bool.true_and]; exact ho.out)
  have HK := Lib.hid hk1
  clear hk1
  have HP := Lib.hid (fun w => show Calls Try.prog 84 #[.float .f64 Y] w (RetK C S w) by
    have := implPha_any Y (by rw [← hY]; exact f64_lt' (fconv_wf _ _ _)) w
    rw [hC, hS] at this
    refine this.mono ?_
    rintro e w' ⟨s, t, n, he, hw⟩
    rw [nC, nS] at he
    exact ⟨n, he, hw⟩)
  have HSc := Lib.hid (fun w => scaleI_any C S b A1 B1 eA1 eB1 nA1 nB1 w)
  have HPw := Lib.hid (fun w => powI_any A2 B2 X P eX eP okX nX nP w)
  have nY : ∀ s, pick .f64 (fconv .f32 t .f64) s = Y := fun s => by rw [pick_num (by rw [isNaN_fconv]; exact num_fin g3), hY]
  clear hk hR ho hC hS nC nS eA1 eB1 nA1 nB1 eX eP okX nX nP hY
  have hp := fun op => fbin_pick_l op .f32
  have hq := fun op => fbin_pick_r op .f32
  go_enter Try.func44, Try.ntmps44
  go_wp2_with (first | (first | ((with_reducible refine wpL_fbin ?_); refine ⟨_, _, _, rfl, rfl, rfl, fun s n => ?_⟩) | ((with_reducible refine wpL_fconv ?_); refine ⟨_, _, _, rfl, Option.isSome_iff_exists.2 ⟨_, Try.underlying22⟩, Try.underlying34, FloatKind.noConfusion, convOk_widen _, fun s n => ?_⟩) | (go_at_call 46; refine (areAtLeastZero_any _ _ _ (fun _ => _) _ (by exact rd_one' _ _ _ (by simp)) (by omega)).mono ?_; rintro e w' ⟨rfl, q, rfl⟩) | (go_at_call 61; refine (IsFinite_any _ _).mono ?_; rintro e w' ⟨rfl, q, rfl⟩) | (go_at_call 53; refine (numI_any _ _ _).mono ?_; rintro e w' ⟨s', m', rfl, rfl⟩)) | (with_reducible refine wpL_csub ?_; refine ⟨_, _, _, _, _, rfl, rfl, ?_⟩; intro s u n) | (go_at_call 84; refine (HP.out _).mono ?_; rintro e w' ⟨n', rfl, rfl⟩) | (go_at_call 83; refine (HSc.out _).mono ?_; rintro e w' ⟨n', rfl, rfl⟩) | (go_at_call 85; refine (HPw.out _).mono ?_; rintro e w' ⟨n', rfl, rfl⟩))
  go_ret2
  refine NRet.yes HR HO HK ?_
  (repeat (first | with_reducible exact Below.refl _ _ | with_reducible refine Below.drewN ?_ _ | with_reducible refine Below.setCell ?_ (by simp; try omega) _ | with_reducible refine Below.alloc ?_ (by simp; try omega) _))
set_option maxRecDepth 100000 in
set_option maxHeartbeats 6400000 in
theorem rinS_yes (b t : Nat) (w : World) (hk : RinOk b t) (V : RinV b t) (R : Nat) (ok : Bool) (hR : Hid (R = numQ V.D)) (ho : Hid (ok = isFin .f32 V.D)) :
    Calls Try.prog 43 #[.float .f32 b, .float .f32 t] w (NRet R ok w) := by
  have g1 : shB b = true := hk.2.2.2.1
  have g2 : (FloatKind.f32.format.order b 1065353216 == some .eq) = false := hk.2.2.2.2.1
  have g3 : isFin .f32 t = true := hk.2.2.2.2.2
  obtain ⟨C, S, A1, B1, A2, B2, X, P, D, Y, hY, hC, hS, nC, nS, eA1, eB1, nA1, nB1, eA2, eB2, nA2, nB2, eX, eP, okX, nX, nP, eD⟩ := V
  obtain ⟨k, hk1⟩ : ∃ k, k = true := ⟨_, rfl⟩
  have HR := Lib.hid (show R = if k = true then numQ D else 0 by rw [if_pos hk1]; exact hR.out)
  have HO := Lib.hid (show ok = (k && isFin .f32 D) by rw [hk1, Bool.true_and]; exact ho.out)
  have HK := Lib.hid hk1
  clear hk1
  have HP := Lib.hid (fun w => show Calls Try.prog 68 #[.float .f64 Y] w (RetK C S w) by
    have := specPha_any Y w
    rw [hC, hS] at this
    refine this.mono ?_
    rintro e w' ⟨s, t, n, he, hw⟩
    rw [nC, nS] at he
    exact ⟨n, he, hw⟩)
  have HSc := Lib.hid (fun w => scaleS_any C S b A1 B1 eA1 eB1 nA1 nB1 w)
  have HPw := Lib.hid (fun w => powS_any A2 B2 X P eX eP okX nX nP w)
  have nY : ∀ s, pick .f64 (fconv .f32 t .f64) s = Y := fun s => by rw [pick_num (by rw [isNaN_fconv]; exact num_fin g3), hY]
  clear hk hR ho hC hS nC nS eA1 eB1 nA1 nB1 eX eP okX nX nP hY
  have hp := fun op => fbin_pick_l op .f32
  have hq := fun op => fbin_pick_r op .f32
  go_enter Try.func43, Try.ntmps43
  go_wp2_with (first | (first | ((with_reducible refine wpL_fbin ?_); refine ⟨_, _, _, rfl, rfl, rfl, fun s n => ?_⟩) | ((with_reducible refine wpL_fconv ?_); refine ⟨_, _, _, rfl, Option.isSome_iff_exists.2 ⟨_, Try.underlying22⟩, Try.underlying34, FloatKind.noConfusion, convOk_widen _, fun s n => ?_⟩) | (go_at_call 58; refine (l01Finite_any _ _).mono ?_; rintro e w' ⟨rfl, q, rfl⟩) | (go_at_call 51; refine (numS_any _ _ _).mono ?_; rintro e w' ⟨s', m', rfl, rfl⟩)) | (go_at_call 80; refine (share_any _ _).mono ?_; rintro e w' ⟨rfl, rfl⟩) | (with_reducible refine wpL_csub ?_; refine ⟨_, _, _, _, _, rfl, rfl, ?_⟩; intro s u n) | (go_at_call 68; refine (HP.out _).mono ?_; rintro e w' ⟨n', rfl, rfl⟩) | (go_at_call 81; refine (HSc.out _).mono ?_; rintro e w' ⟨n', rfl, rfl⟩) | (go_at_call 82; refine (HPw.out _).mono ?_; rintro e w' ⟨n', rfl, rfl⟩))
  go_ret2
  refine NRet.yes HR HO HK ?_
  (repeat (first | with_reducible exact Below.refl _ _ | with_reducible refine Below.drewN ?_ _ | with_reducible refine Below.setCell ?_ (by simp; try omega) _ | with_reducible refine Below.alloc ?_ (by simp; try omega) _))
set_option maxRecDepth 100000 in
set_option maxHeartbeats 1600000 in
theorem rinI_no (b t : Nat) (w : World) (hk : okRin b t = false) : Calls Try.prog 44 #[.float .f32 b, .float .f32 t] w (NRet 0 false w) := by
  have hg := gL_one b
  cases c1 : gL (fun _ => b) 1
  · skip
    clear hk hg
    go_enter Try.func44, Try.ntmps44
    go_wp2_with (first | (go_at_call 46; refine (areAtLeastZero_any _ _ _ (fun _ => _) _ (by exact rd_one' _ _ _ (by simp)) (by omega)).mono ?_; rintro e w' ⟨rfl, q, rfl⟩) | (go_at_call 61; refine (IsFinite_any _ _).mono ?_; rintro e w' ⟨rfl, q, rfl⟩))
    go_ret2
    refine ⟨0, by rw [pick_nul]; rfl, ?_⟩
    (repeat (first | with_reducible exact Below.refl _ _ | with_reducible refine Below.drewN ?_ _ | with_reducible refine Below.setCell ?_ (by simp; try omega) _ | with_reducible refine Below.alloc ?_ (by simp; try omega) _))
  · skip
    cases c2 : (FloatKind.f32.format.order b 1065353216 == some .gt || FloatKind.f32.format.order b 1065353216 == some .eq)
    rotate_left
    · skip
      clear hk hg
      go_enter Try.func44, Try.ntmps44
      go_wp2_with (first | (go_at_call 46; refine (areAtLeastZero_any _ _ _ (fun _ => _) _ (by exact rd_one' _ _ _ (by simp)) (by omega)).mono ?_; rintro e w' ⟨rfl, q, rfl⟩) | (go_at_call 61; refine (IsFinite_any _ _).mono ?_; rintro e w' ⟨rfl, q, rfl⟩))
      go_ret2
      refine ⟨0, by rw [pick_nul]; rfl, ?_⟩
      (repeat (first | with_reducible exact Below.refl _ _ | with_reducible refine Below.drewN ?_ _ | with_reducible refine Below.setCell ?_ (by simp; try omega) _ | with_reducible refine Below.alloc ?_ (by simp; try omega) _))
    · skip
      cases c3 : isFin .f32 t
      · skip
        clear hk hg
        go_enter Try.func44, Try.ntmps44
        go_wp2_with (first | (go_at_call 46; refine (areAtLeastZero_any _ _ _ (fun _ => _) _ (by exact rd_one' _ _ _ (by simp)) (by omega)).mono ?_; rintro e w' ⟨rfl, q, rfl⟩) | (go_at_call 61; refine (IsFinite_any _ _).mono ?_; rintro e w' ⟨rfl, q, rfl⟩))
        go_ret2
        refine ⟨0, by rw [pick_nul]; rfl, ?_⟩
        (repeat (first | with_reducible exact Below.refl _ _ | with_reducible refine Below.drewN ?_ _ | with_reducible refine Below.setCell ?_ (by simp; try omega) _ | with_reducible refine Below.alloc ?_ (by simp; try omega) _))
      · skip
        exfalso
        rw [okRin, ← hg, c1, c2, c3] at hk
        cases hk
theorem okRin_sh {b t : Nat} (h : okRin b t = false) : (shB b && !(FloatKind.f32.format.order b 1065353216 == some .eq) && isFin .f32 t) = false := by
  cases hs : (shB b && !(FloatKind.f32.format.order b 1065353216 == some .eq) && isFin .f32 t)
  · rfl
  · rw [Bool.and_eq_true, Bool.and_eq_true] at hs
    obtain ⟨⟨h1, h2⟩, h3⟩ := hs
    unfold shB at h1
    rw [Bool.and_eq_true] at h1
    obtain ⟨h0, h1⟩ := h1
    have hlt : FloatKind.f32.format.order b 1065353216 = some .lt := by
      cases ho : FloatKind.f32.format.order b 1065353216 with
      | none => rw [ho] at h1; cases h1
      | some o => rw [ho] at h1 h2; cases o <;> first | rfl | exact absurd h1 (by decide) | exact absurd h2 (by decide)
    have hf : isFin .f32 b = true := by
      have e0 : FloatKind.f32.format.read 0 = _ := zero_dec32
      have e1 : FloatKind.f32.format.read 1065353216 = _ := one_dec32
      unfold isFin
      cases hd : FloatKind.decode .f32 b with
      | nan s t =>
        exfalso
        have hr : FloatKind.f32.format.read b = _ := hd
        unfold Ieee.Format.order at hlt
        rw [hr] at hlt
        cases hlt
      | infinity s =>
        exfalso
        have hr : FloatKind.f32.format.read b = _ := hd
        unfold Ieee.Format.order at hlt h0
        rw [hr, e1] at hlt
        rw [hr, e0] at h0
        cases s
        · cases hlt
        · cases h0
      | number s m e => rfl
    exfalso
    unfold okRin isG at h
    rw [hf, h0, hlt, h3] at h
    cases h
set_option maxRecDepth 100000 in
set_option maxHeartbeats 1600000 in
theorem rinS_no (b t : Nat) (w : World) (hk : okRin b t = false) : Calls Try.prog 43 #[.float .f32 b, .float .f32 t] w (NRet 0 false w) := by
  have hk2 := okRin_sh hk
  clear hk
  cases c1 : shB b
  · skip
    clear hk2
    go_enter Try.func43, Try.ntmps43
    go_wp2_with (first | (go_at_call 80; refine (share_any _ _).mono ?_; rintro e w' ⟨rfl, rfl⟩) | (first | (go_at_call 58; refine (l01Finite_any _ _).mono ?_; rintro e w' ⟨rfl, q, rfl⟩)))
    go_ret2
    refine ⟨0, by rw [pick_nul]; rfl, ?_⟩
    (repeat (first | with_reducible exact Below.refl _ _ | with_reducible refine Below.drewN ?_ _ | with_reducible refine Below.setCell ?_ (by simp; try omega) _ | with_reducible refine Below.alloc ?_ (by simp; try omega) _))
  · skip
    cases c2 : (FloatKind.f32.format.order b 1065353216 == some .eq)
    rotate_left
    · skip
      clear hk2
      go_enter Try.func43, Try.ntmps43
      go_wp2_with (first | (go_at_call 80; refine (share_any _ _).mono ?_; rintro e w' ⟨rfl, rfl⟩) | (first | (go_at_call 58; refine (l01Finite_any _ _).mono ?_; rintro e w' ⟨rfl, q, rfl⟩)))
      go_ret2
      refine ⟨0, by rw [pick_nul]; rfl, ?_⟩
      (repeat (first | with_reducible exact Below.refl _ _ | with_reducible refine Below.drewN ?_ _ | with_reducible refine Below.setCell ?_ (by simp; try omega) _ | with_reducible refine Below.alloc ?_ (by simp; try omega) _))
    · skip
      cases c3 : isFin .f32 t
      · skip
        clear hk2
        go_enter Try.func43, Try.ntmps43
        go_wp2_with (first | (go_at_call 80; refine (share_any _ _).mono ?_; rintro e w' ⟨rfl, rfl⟩) | (first | (go_at_call 58; refine (l01Finite_any _ _).mono ?_; rintro e w' ⟨rfl, q, rfl⟩)))
        go_ret2
        refine ⟨0, by rw [pick_nul]; rfl, ?_⟩
        (repeat (first | with_reducible exact Below.refl _ _ | with_reducible refine Below.drewN ?_ _ | with_reducible refine Below.setCell ?_ (by simp; try omega) _ | with_reducible refine Below.alloc ?_ (by simp; try omega) _))
      · skip
        exfalso
        rw [c1, c2, c3] at hk2
        cases hk2
/-- What is told of RingThrough. -/
def RetRingThrough (r0 : Nat) (r1 : Bool) (w : World) (e : Ending) (w' : World) : Prop := ∃ (s0 : Nat), e = .returned (.tuple #[.float .f32 (pick .f32 r0 s0), .bool r1]) ∧ Below w.heap.size w w'
theorem bothRingThrough (b : Nat) (_ : (Lit.float .f32 b).wf = true) (t : Nat) (_ : (Lit.float .f32 t).wf = true) : ∃ (x : Nat) (ok : Bool),
    (∀ (w : World), Calls Try.prog 43 #[.float .f32 b, .float .f32 t] w (RetRingThrough x ok w)) ∧ ∀ (w : World), Calls Try.prog 44 #[.float .f32 b, .float .f32 t] w (RetRingThrough x ok w) := by
  cases hk : okRin b t
  · exact ⟨0, false, fun w => rinS_no b t w hk, fun w => rinI_no b t w hk⟩
  · have ho := rinOk_of hk
    obtain ⟨V⟩ := rin_val ho
    exact ⟨_, _, fun w => rinS_yes b t w ho V _ _ (Lib.hid rfl) (Lib.hid rfl), fun w => rinI_yes b t w ho V _ _ (Lib.hid rfl) (Lib.hid rfl)⟩
set_option maxRecDepth 100000 in
set_option maxHeartbeats 6400000 in
theorem lawRingThrough_in (W : World) (a0 : Nat) (_wf0 : (Lit.float .f32 a0).wf = true) (a1 : Nat) (_wf1 : (Lit.float .f32 a1).wf = true)  (r0 : Nat) (r1 : Bool) (HS : Hid (∀  (w : World),  Calls Try.prog 43 #[.float .f32 a0, .float .f32 a1] w (RetRingThrough r0 r1 w))) (HI : Hid (∀  (w : World),  Calls Try.prog 44 #[.float .f32 a0, .float .f32 a1] w (RetRingThrough r0 r1 w))) :
    Calls Try.prog 14 #[.float .f32 a0, .float .f32 a1] W fun e w' => e = .returned (.bool true) ∧ Below W.heap.size W w' := by
  have hcv := fun (R : Nat) (s t : Nat) => show canon .f64 (pick .f64 (fconv .f32 (pick .f32 R s) .f64) t) = canon .f64 (fconv .f32 R .f64) by rw [canon_pick, fconv_pick]
  have hcw := fun (R : Nat) (s t : Nat) => show canon .f64 (pick .f64 R s) = canon .f64 (pick .f64 R t) by rw [canon_pick, canon_pick]
  have HCV := Lib.hid hcv
  have HCW := Lib.hid hcw
  clear hcv hcw
  have hnb1 : (r1 != r1) = false := by simp
  have HB := Blw.refl W
  go_enter Try.func14, Try.ntmps14
  go_wp2_with fail
  refine (HS.out  _ ).mono ?_
  rintro e0 w1 ⟨sw0, rfl, B0⟩
  replace HB := Blw.next (by exact HB) B0
  clear B0
  have HL := Blw.refl w1
  have Eg := (Blw.out (by exact HL)).size
  go_wp2_with fail
  refine (HI.out  _ ).mono ?_
  rintro e0 w2 ⟨sg0, rfl, B0⟩
  replace HL := Blw.next (by exact HL) B0
  clear B0
  go_wp2_with (first | ((with_reducible refine wpL_fconv ?_); refine ⟨_, _, _, rfl, Option.isSome_iff_exists.2 ⟨_, Try.underlying22⟩, Try.underlying34, FloatKind.noConfusion, convOk_widen _, fun s n => ?_⟩) | ((with_reducible refine wpL_fconv_g ?_); refine ⟨rfl, _, _, _, rfl, Option.isSome_iff_exists.2 ⟨_, Try.underlying22⟩, Try.underlying34, FloatKind.noConfusion, convOk_widen _, fun s n => ?_⟩))
  refine (sameFloat_any _ _ _ ((HCV.out _ _ _).trans (HCV.out _ _ _).symm)).mono ?_
  rintro e0 w0 ⟨rfl, q, rfl⟩
  go_wp2
  go_ret
  exact ⟨rfl, (Blw.out (by exact HB)).trans ((Blw.out (by exact HL)).mono (Blw.out (by exact HB)).size)⟩
set_option maxHeartbeats 1600000 in
theorem lawRingThrough_any (W : World) (a0 : Nat) (_wf0 : (Lit.float .f32 a0).wf = true) (a1 : Nat) (_wf1 : (Lit.float .f32 a1).wf = true) :
    Calls Try.prog 14 #[.float .f32 a0, .float .f32 a1] W fun e w' => e = .returned (.bool true) ∧ Below W.heap.size W w' := by
  obtain ⟨r0, r1, hs, hi⟩ := bothRingThrough a0 _wf0 a1 _wf1
  exact lawRingThrough_in W a0 _wf0 a1 _wf1  r0 r1 (Lib.hid hs) (Lib.hid hi)
set_option maxRecDepth 100000 in
theorem FnExactRingThrough_lifted (os : Os) (started : os.Started) (H : Type) (enc : TypeId × Value → H) :
    ReturnsInHanded {} Try.checked os 14 .any (Rows.fnExactRingThroughSpec.pre6 enc Try.prog Try.f14 Rows.fnExactRingThroughRow.domain false) (Rows.fnExactRingThroughSpec.post enc Try.prog Try.f14 false true false false) := by
  refine returnsInHanded_of_change (C := Try.checked) ownKnob_none started (by kernel_rfl) Try.func14
    (ChangeSpec.witness6 (enc := enc) (C := Try.checked) false ⟨#[], #[.float .f32 0, .float .f32 0], []⟩ 8 (by kernel_rfl) (by kernel_rfl) (by kernel_rfl) (by kernel_rfl)) ?_
  intro W base args ds gs before hval0 hW _ _
  have hval : ∀ (j : Nat) t v, Try.f14.params[j]? = some t → args[j]? = some v → Value.okWide Try.prog W .any base t v := hval0
  have hW' := hW
  obtain ⟨p, q, hA0, hV, rfl, _, _⟩ := hW
  have hA : DataW.TrodAll enc Try.prog W 0 (fun _ => true) true Try.f14.params.toList args.toList ds p := hA0
  rw [Try.params14] at hA hval
  obtain ⟨v0, v1, d0, d1, p0, p1, rfl, rfl, rfl, h0, h1⟩ := trodAll_two hA
  obtain ⟨rfl, rfl⟩ := trodVars_none hV
  obtain ⟨a0, rfl, rfl, rfl, w0⟩ := open_float Try.underlying22 (hval 0 22 v0 rfl rfl) h0
  obtain ⟨a1, rfl, rfl, rfl, w1⟩ := open_float Try.underlying22 (hval 1 22 v1 rfl rfl) h1
  clear hA0 hval0
  refine (lawRingThrough_any W a0 w0 a1 w1).mono fun e W' ⟨he, hb⟩ => ?_
  subst he
  have hA2 := trodAll_mk2 (enc := enc) (w := W') (base := 0) (spare := fun b => decide (b < W.heap.size)) (held := true) (shut_float Try.underlying22 w0) (shut_float Try.underlying22 w1)
  exact ⟨_, rfl, _, _, _, [], _, [], hW', trodAll_cons_mk (shut_bool Try.underlying4 _) trodAll_mk0, hA2, rfl, hb.frame _, fun h => by cases h⟩
theorem FnExactRingThrough_holds : Rows.FnExactRingThroughSaid :=
  OpenClaim.holds_of_wide 14 Try.f14 rfl rfl rfl rfl rfl rfl rfl ⟨rfl, rfl, rfl, rfl, rfl⟩ rfl rfl rfl rfl rfl (by kernel_rfl) Try.func14 (by kernel_rfl)
    (of_decide_eq_true (by kernel_rfl)) (by unfold Func.isWrapper; first | (rw [if_pos (by decide +kernel)]; kernel_rfl) | (rw [if_neg (by decide +kernel)]; exact ⟨rfl, rfl⟩))
    (fun os started H enc _ => FnExactRingThrough_lifted os started H enc)
end Go.Proofs.Ytebelikahpnobaa
