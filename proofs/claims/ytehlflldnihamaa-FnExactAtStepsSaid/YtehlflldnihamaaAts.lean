/- Numbers at places by a step: as the model tells them. -/
import Derived.Test.YtehlflldnihamaaAtm
import Derived.Test.YtehlflldnihamaaGiv
import Derived.Test.YtehlflldnihamaaAlk
import Derived.Deep.QuietTactic
import Derived.BigQuiet
namespace Go.Proofs.Ytehlflldnihamaa
open Go Go.ChangeShapes Go.WideShapes Go.ChangeAt Go.RowKit

def gtL (L P : Nat) : Bool := FloatKind.f32.format.order P (floatOfInt .f32 (L : Int)) == some .gt
/-- The number at a place, of L + 1 numbers. -/
def atV (X : Nat → Nat) (L P : Nat) : Nat :=
  if (ltZ P || gtL L P) = true then 0 else if atK P = L then X L else fbin .add .f32 (X (atK P)) (fbin .mul .f32 (fbin .sub .f32 P (floatOfInt .f32 ((atK P : Nat) : Int))) (fbin .sub .f32 (X (atK P + 1)) (X (atK P))))
def atR (X : Nat → Nat) (L a b j : Nat) : Nat := atV X L (plA a b j)
def okAts (X : Nat → Nat) (n a b : Nat) (c : Int) : Bool := okLst X n && (isFin .f32 a && (isFin .f32 b && inB c 1 128))
theorem leq_of {x y : Nat} (hx : isNaN .f32 x = false) (hy : isNaN .f32 y = false) : (FloatKind.f32.format.order x y == some .lt || FloatKind.f32.format.order x y == some .eq) = !(FloatKind.f32.format.order x y == some .gt) := by
  have h := geq_of hx hy
  cases ho : FloatKind.f32.format.order x y with
  | none => rw [ho] at h; cases h
  | some o => cases o <;> rfl
set_option maxRecDepth 100000 in
set_option maxHeartbeats 1600000 in
theorem l05PlaceA_any (a b k : Nat) (w : World) (hn : isNaN .f32 (plA a b k) = false) : Calls Try.prog 70 #[.float .f32 a, .float .f32 b, .int .i64 (k : Int)] w fun e w' => e = .returned (.float .f32 (plA a b k)) ∧ ∃ m, w' = w.drewN m := by
  have hp := fun op => fbin_pick_l op .f32
  have hq := fun op => fbin_pick_r op .f32
  have HF := Lib.hid (show ∀ s, (.returned (.float .f32 (pick .f32 (fbin .add .f32 a (fbin .mul .f32 (floatOfInt .f32 (k : Int)) b)) s)) : Ending) = .returned (.float .f32 (plA a b k)) from fun s => by
    rw [show fbin .add .f32 a (fbin .mul .f32 (floatOfInt .f32 (k : Int)) b) = plA a b k from rfl, pick_num hn])
  clear hn
  go_enter Try.func70, Try.ntmps70
  go_wp2_with ((with_reducible refine wpL_fbin ?_); refine ⟨_, _, _, rfl, rfl, rfl, fun s n => ?_⟩)
  go_ret
  exact ⟨HF.out _, _, rfl⟩
set_option maxRecDepth 100000 in
set_option maxHeartbeats 1600000 in
theorem specAts_no (xa : Option Addr) (n cx : Nat) (X : Nat → Nat) (a b : Nat) (c : Int) (w : World) (hX : Rd w xa n X) (hn : n ≤ 1048576) (R : Nat → Nat) (hk : okAts X n a b c = false) :
    Calls Try.prog 31 #[.slice xa n cx, .float .f32 a, .float .f32 b, .int .i64 c] w (LstRet R 0 false w) := by
  have HT := Lib.hid (fun w hX => specLst_any xa n cx X w hX hn _ (Lib.hid rfl))
  cases c1 : okLst X n
  · rw [c1] at HT
    clear hk c1
    go_enter Try.func31, Try.ntmps31
    go_wp2_with (go_at_call 48; refine (HT.out _ (by exact hX)).mono ?_; rintro e w' ⟨rfl, q, rfl⟩)
    go_ret2
    refine lstNo ?_
    (repeat (first | with_reducible exact Below.refl _ _ | with_reducible refine Below.drewN ?_ _ | with_reducible refine Below.setCell ?_ (by simp; try omega) _ | with_reducible refine Below.alloc ?_ (by simp; try omega) _))
  · rw [c1] at HT
    have hk2 : (isFin .f32 a && (isFin .f32 b && inB c 1 128)) = false := by rw [okAts, c1, Bool.true_and] at hk; exact hk
    clear hk c1
    cases c1 : isFin .f32 a
    · skip
      clear hk2
      go_enter Try.func31, Try.ntmps31
      go_wp2_with (first | (go_at_call 48; refine (HT.out _ (by exact hX)).mono ?_; rintro e w' ⟨rfl, q, rfl⟩) | (first | (go_at_call 69; refine (l01Finite_any _ _).mono ?_; rintro e w' ⟨rfl, q, rfl⟩) | (go_at_call 60; refine (l00In_any _ _ _ _).mono ?_; rintro e w' ⟨rfl, rfl⟩)))
      go_ret2
      refine lstNo ?_
      (repeat (first | with_reducible exact Below.refl _ _ | with_reducible refine Below.drewN ?_ _ | with_reducible refine Below.setCell ?_ (by simp; try omega) _ | with_reducible refine Below.alloc ?_ (by simp; try omega) _))
    · skip
      cases c2 : isFin .f32 b
      · skip
        clear hk2
        go_enter Try.func31, Try.ntmps31
        go_wp2_with (first | (go_at_call 48; refine (HT.out _ (by exact hX)).mono ?_; rintro e w' ⟨rfl, q, rfl⟩) | (first | (go_at_call 69; refine (l01Finite_any _ _).mono ?_; rintro e w' ⟨rfl, q, rfl⟩) | (go_at_call 60; refine (l00In_any _ _ _ _).mono ?_; rintro e w' ⟨rfl, rfl⟩)))
        go_ret2
        refine lstNo ?_
        (repeat (first | with_reducible exact Below.refl _ _ | with_reducible refine Below.drewN ?_ _ | with_reducible refine Below.setCell ?_ (by simp; try omega) _ | with_reducible refine Below.alloc ?_ (by simp; try omega) _))
      · skip
        cases c3 : inB c 1 128
        · skip
          clear hk2
          go_enter Try.func31, Try.ntmps31
          go_wp2_with (first | (go_at_call 48; refine (HT.out _ (by exact hX)).mono ?_; rintro e w' ⟨rfl, q, rfl⟩) | (first | (go_at_call 69; refine (l01Finite_any _ _).mono ?_; rintro e w' ⟨rfl, q, rfl⟩) | (go_at_call 60; refine (l00In_any _ _ _ _).mono ?_; rintro e w' ⟨rfl, rfl⟩)))
          go_ret2
          refine lstNo ?_
          (repeat (first | with_reducible exact Below.refl _ _ | with_reducible refine Below.drewN ?_ _ | with_reducible refine Below.setCell ?_ (by simp; try omega) _ | with_reducible refine Below.alloc ?_ (by simp; try omega) _))
        · skip
          exfalso
          rw [c1, c2, c3] at hk2
          cases hk2
set_option maxRecDepth 100000 in
set_option maxHeartbeats 3200000 in
theorem specAts_yes (xa : Option Addr) (L cx : Nat) (X : Nat → Nat) (a b C : Nat) (w : World) (hX : Rd w xa (L + 1) X) (hL : L < 128) (hf : finL X (L + 1) = true) (ha : isFin .f32 a = true) (hb : isFin .f32 b = true) (hC1 : 1 ≤ C) (hC : C ≤ 128) (ok : Bool) (ho : Hid (ok = finL (atR X L a b) C)) (m : Nat) (hm : Hid (m = if ok = true then C else 0)) :
    Calls Try.prog 31 #[.slice xa (L + 1) cx, .float .f32 a, .float .f32 b, .int .i64 (C : Int)] w (LstRet (atR X L a b) m ok w) := by
  obtain ⟨i0, hi, hz0, hz1, hz2⟩ := info_parts infoF
  have HT := Lib.hid (fun w hX => specLst_any xa (L + 1) cx X w hX (by omega) true (Lib.hid (by rw [okLst, hf, inB_yes (by omega) (by omega)]; rfl)))
  have hin : inB (C : Int) 1 128 = true := inB_yes (by omega) (by omega)
  have HFX := Lib.hid (finL_at hf)
  have hX' := hX
  obtain ⟨xb, xo, hxa, hcx⟩ := hX'
  have e := hxa (by omega)
  subst e
  have HX := Lib.hid hcx
  have hwL : IntKind.i64.wrap (L : Int) = (L : Int) := by rw [IntKind.wrap_i64]; omega
  have HA := Lib.hid ha
  have HB := Lib.hid hb
  clear hf hcx hxa
  go_enter Try.func31, Try.ntmps31
  go_wp2_with (first | (go_at_call 48; refine (HT.out _ (by exact hX)).mono ?_; rintro e w' ⟨rfl, q, rfl⟩) | (first | (go_at_call 69; refine (l01Finite_any _ _).mono ?_; rintro e w' ⟨rfl, q, rfl⟩) | (go_at_call 60; refine (l00In_any _ _ _ _).mono ?_; rintro e w' ⟨rfl, rfl⟩)))
  go_loopw [10, 12] (fun v i wr => ∃ (j : Nat) (Z : Nat → Nat), j ≤ C ∧ i = .int .i64 (j : Int) ∧ wr.ownsRow w.heap.size 31 1 v j (rowOf Z j) ∧ Like Z (atR X L a b) j ∧ Below w.heap.size w wr) (fun _ i _ => C - (intOf i).toNat)
  case atStart => exact ⟨0, fun _ => 0, Nat.zero_le _, rfl, own_empty (w.drewN _) _, fun _ h => absurd h (Nat.not_lt_zero _), Below.alloc (Below.drewN (Below.refl _ _) _) (Nat.le_refl _) _⟩
  case round =>
    obtain ⟨j, Z, hj, rfl, hownk, hLk, hBk⟩ := hrel
    rename_i u10
    have hsz := hBk.size
    by_cases hlt : j < C
    · have hnP : isNaN .f32 (plA a b j) = false := plA_num HA.out HB.out (by omega)
      have HP := Lib.hid (l05PlaceA_any a b j wr hnP)
      have hP32 := plA_lt a b j
      have hU : atR X L a b j = atV X L (plA a b j) := rfl
      obtain ⟨P, hP⟩ : ∃ P, P = plA a b j := ⟨_, rfl⟩
      rw [← hP] at hnP HP hP32 hU
      have hge := geq_of hnP (show isNaN .f32 0 = false by decide +kernel)
      have hle := leq_of hnP (num_fin (int_fin hL))
      have HU := Lib.hid hU
      have HOk := Lib.hid hownk
      clear hP hU hownk
      cases hz : (ltZ P || gtL L P)
      · rw [Bool.or_eq_false_iff] at hz
        obtain ⟨hz1, hz2⟩ := hz
        have hfP := mid_fin hnP hz1 hL hz2
        obtain ⟨hk1, hki⟩ := whole_of hP32 hfP hz1 hL hz2
        have hge' : (FloatKind.f32.format.order P 0 == some .gt || FloatKind.f32.format.order P 0 == some .eq) = true := by rw [hge]; rw [show (FloatKind.f32.format.order P 0 == some .lt) = false from hz1]; rfl
        have hle' : (FloatKind.f32.format.order P (floatOfInt .f32 (L : Int)) == some .lt || FloatKind.f32.format.order P (floatOfInt .f32 (L : Int)) == some .eq) = true := by rw [hle]; rw [show (FloatKind.f32.format.order P (floatOfInt .f32 (L : Int)) == some .gt) = false from hz2]; rfl
        obtain ⟨k, hk⟩ : ∃ k, k = atK P := ⟨_, rfl⟩
        have HV := Lib.hid (show atR X L a b j = if k = L then X L else fbin .add .f32 (X k) (fbin .mul .f32 (fbin .sub .f32 P (floatOfInt .f32 (k : Int))) (fbin .sub .f32 (X (k + 1)) (X k))) by
          rw [HU.out, atV, hz1, hz2, if_neg (by simp), ← hk])
        rw [← hk] at hk1 hki
        have c0 := HX.out k (by omega)
        have c1 := (hBk.cell (p := ⟨xb, xo + k, none⟩) (World.block_lt_of_cell? w _ c0)).trans c0
        have hkL : (k : Int) < (L : Int) + 1 := by omega
        clear hz1 hz2 hk hge hle c0
        by_cases hkl : k = L
        · have HW := Lib.hid (show atR X L a b j = X k by rw [HV.out, if_pos hkl, hkl])
          have hkl' : ¬ ((k : Int) < (L : Int)) := by omega
          have HNx := Lib.hid (num_fin (HFX.out k (by omega)))
          clear hkl
          go_wp2_with (first | (go_at_call 70; refine HP.out.mono ?_; rintro e w' ⟨rfl, qd, rfl⟩) | ((with_reducible refine wpL_ftoi ?_); refine ⟨_, _, _, _, rfl, Option.isSome_iff_exists.2 ⟨_, Try.underlying31⟩, Try.underlying3, hki, ?_⟩) | (at_builtin; refine wpL_push hi hz0 hz1 hz2 rfl rfl rfl rfl (by exact own_drew HOk.out _) (by omega) (by exact hsz) ?_; intro v' w1 hown' hB'))
          go_roundw
          case rel => exact ⟨j + 1, _, by omega, by go_num, hown', like_push (s := 0) hLk (by rw [HW.out, pick_num HNx.out]), Below.trans (Below.drewN hBk _) hB'⟩
          case measure => simp [intOf]; omega
        · have hkl' : (k : Int) < (L : Int) := by omega
          have c0 := HX.out (k + 1) (by omega)
          have c2 := (hBk.cell (p := ⟨xb, xo + (k + 1), none⟩) (World.block_lt_of_cell? w _ c0)).trans c0
          have hk2 : (k : Int) + 1 < (L : Int) + 1 := by omega
          have hk3 : k + 1 < L + 1 := by omega
          obtain ⟨D1, hD1⟩ : ∃ D1, fbin .sub .f32 P (floatOfInt .f32 (k : Int)) = D1 := ⟨_, rfl⟩
          obtain ⟨D2, hD2⟩ : ∃ D2, fbin .sub .f32 (X (k + 1)) (X k) = D2 := ⟨_, rfl⟩
          obtain ⟨D3, hD3⟩ : ∃ D3, fbin .mul .f32 D1 D2 = D3 := ⟨_, rfl⟩
          obtain ⟨D4, hD4⟩ : ∃ D4, fbin .add .f32 (X k) D3 = D4 := ⟨_, rfl⟩
          have HW := Lib.hid (show atR X L a b j = D4 by rw [HV.out, if_neg hkl, hD1, hD2, hD3, hD4])
          have n1 : isNaN .f32 D1 = false := by rw [← hD1]; exact nan_sub hnP (int_fin (by omega))
          have n2 : isNaN .f32 D2 = false := by rw [← hD2]; exact nan_sub (num_fin (HFX.out _ (by omega))) (HFX.out k (by omega))
          have q1 := fun t => run_numop (op := .sub) rfl t _ _ _ hD1 n1
          have q2 := fun t => run_numop (op := .sub) rfl t _ _ _ hD2 n2
          have hfk := HFX.out k (by omega)
          clear c0 hkl n1 n2
          go_wp2_with (first | (go_at_call 70; refine HP.out.mono ?_; rintro e w' ⟨rfl, qd, rfl⟩) | ((with_reducible refine wpL_ftoi ?_); refine ⟨_, _, _, _, rfl, Option.isSome_iff_exists.2 ⟨_, Try.underlying31⟩, Try.underlying3, hki, ?_⟩))
          obtain ⟨wz, hwz⟩ : ∃ wz, wz = wr.drewN qd := ⟨_, rfl⟩
          rw [← hwz]
          have d1 : wz.cell? ⟨xb, xo + k, none⟩ = some (.float .f32 (X k)) := by rw [hwz]; exact c1
          have d2 : wz.cell? ⟨xb, xo + (k + 1), none⟩ = some (.float .f32 (X (k + 1))) := by rw [hwz]; exact c2
          have HOz := Lib.hid (show wz.ownsRow w.heap.size 31 1 u10 j (rowOf Z j) by rw [hwz]; exact own_drew HOk.out _)
          have HBz := Lib.hid (show Below w.heap.size w wz by rw [hwz]; exact Below.drewN hBk _)
          have hszz := HBz.out.size
          clear c1 c2 hwz
          cases nP : isNaN .f32 D3
          · have q3 := fun t => run_numop (op := .mul) rfl t _ _ _ hD3 nP
            have n4 : isNaN .f32 D4 = false := by rw [← hD4]; exact add_fin_l hfk nP
            have q4 := fun t => run_numop (op := .add) rfl t _ _ _ hD4 n4
            have HN4 := Lib.hid n4
            clear nP n4 hD1 hD2 hD3 hD4
            go_wp2_with fail
            go_quiet (fail)
            go_wp2_with (at_builtin; refine wpL_push hi hz0 hz1 hz2 rfl rfl rfl rfl (by exact own_drew HOz.out _) (by omega) (by exact hszz) ?_; intro v' w1 hown' hB')
            go_roundw
            case rel => exact ⟨j + 1, _, by omega, by go_num, hown', like_push (s := 0) hLk (by rw [HW.out, pick_num HN4.out]), Below.trans (Below.drewN HBz.out _) hB'⟩
            case measure => simp [intOf]; omega
          · have q3 := run_mul32
            have q4 := run_add32
            have hq := fbin_pick_r .add .f32
            clear nP hD1 hD2
            go_wp2_with fail
            go_region
            go_wp2_with (at_builtin; refine wpL_push hi hz0 hz1 hz2 rfl rfl rfl rfl (by exact own_drew HOz.out _) (by omega) (by exact hszz) ?_; intro v' w1 hown' hB')
            go_roundw
            case rel => exact ⟨j + 1, _, by omega, by go_num, hown', like_push hLk (by rw [HW.out]), Below.trans (Below.drewN HBz.out _) hB'⟩
            case measure => simp [intOf]; omega
      · cases hz1 : ltZ P
        · have hz2 : gtL L P = true := by rw [hz1, Bool.false_or] at hz; exact hz
          have hge' : (FloatKind.f32.format.order P 0 == some .gt || FloatKind.f32.format.order P 0 == some .eq) = true := by rw [hge]; rw [show (FloatKind.f32.format.order P 0 == some .lt) = false from hz1]; rfl
          have hle' : (FloatKind.f32.format.order P (floatOfInt .f32 (L : Int)) == some .lt || FloatKind.f32.format.order P (floatOfInt .f32 (L : Int)) == some .eq) = false := by rw [hle]; rw [show (FloatKind.f32.format.order P (floatOfInt .f32 (L : Int)) == some .gt) = true from hz2]; rfl
          have HW := Lib.hid (show atR X L a b j = 0 by rw [HU.out, atV, hz, if_pos rfl])
          clear hz hz1 hz2 hge hle
          go_wp2_with (first | (go_at_call 70; refine HP.out.mono ?_; rintro e w' ⟨rfl, qd, rfl⟩) | (at_builtin; refine wpL_push hi hz0 hz1 hz2 rfl rfl rfl rfl (by exact own_drew HOk.out _) (by omega) (by exact hsz) ?_; intro v' w1 hown' hB'))
          go_roundw
          case rel => exact ⟨j + 1, _, by omega, by go_num, hown', like_push (s := 0) hLk (by rw [HW.out, pick_zero]), Below.trans (Below.drewN hBk _) hB'⟩
          case measure => simp [intOf]; omega
        · have hge' : (FloatKind.f32.format.order P 0 == some .gt || FloatKind.f32.format.order P 0 == some .eq) = false := by rw [hge]; rw [show (FloatKind.f32.format.order P 0 == some .lt) = true from hz1]; rfl
          have HW := Lib.hid (show atR X L a b j = 0 by rw [HU.out, atV, hz, if_pos rfl])
          clear hz hz1 hge hle
          go_wp2_with (first | (go_at_call 70; refine HP.out.mono ?_; rintro e w' ⟨rfl, qd, rfl⟩) | (at_builtin; refine wpL_push hi hz0 hz1 hz2 rfl rfl rfl rfl (by exact own_drew HOk.out _) (by omega) (by exact hsz) ?_; intro v' w1 hown' hB'))
          go_roundw
          case rel => exact ⟨j + 1, _, by omega, by go_num, hown', like_push (s := 0) hLk (by rw [HW.out, pick_zero]), Below.trans (Below.drewN hBk _) hB'⟩
          case measure => simp [intOf]; omega
    · have hjC : j = C := by omega
      subst hjC
      have HF := Lib.hid (show LstRet (atR X L a b) (if finL (atR X L a b) j = true then j else 0) (finL (atR X L a b) j) w = LstRet (atR X L a b) m ok w by rw [hm.out, ho.out])
      go_wp2_with fail
      refine (l07Give_any _ _ j Z _ (by exact hownk) (by omega)).mono ?_
      rintro e w' ⟨rfl, q2, rfl⟩
      have HV := Lib.hid (lstGive hLk hownk (by omega) hBk)
      cases hfz : finL Z j
      · rw [hfz] at HV
        go_wp2
        go_ret2
        rw [← HF.out]
        obtain ⟨a, b, h3, h4, h5, h6, h7⟩ := HV.out
        exact ⟨a, b, h3, h4, h5, h6, Below.drewN h7 _⟩
      · rw [hfz] at HV
        go_wp2
        go_ret2
        rw [← HF.out]
        obtain ⟨a, b, h3, h4, h5, h6, h7⟩ := HV.out
        exact ⟨a, b, h3, h4, h5, h6, Below.drewN h7 _⟩
end Go.Proofs.Ytehlflldnihamaa
