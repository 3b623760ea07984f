
/- The place of a wave: as the model tells it. -/
import Derived.Test.YtbblohjldkpcnabPlP
namespace Go.Proofs.Ytbblohjldkpcnab
set_option linter.all false
open Go Go.ChangeShapes Go.WideShapes Go.ChangeAt Go.RowKit

/-- What is asked first. -/
def plQ (X : Nat → Nat) (n wave lo hi : Nat) (N : Int) : Bool := ((((crvB X n && isFin .f32 wave) && isFin .f32 lo) && isFin .f32 hi) && !geF lo hi) && inB N 1 32
def plB (X : Nat → Nat) (n wave lo hi : Nat) : Bool := (isFin .f32 (atW X n lo n) && isFin .f32 (atW X n hi n)) && !(lsF (atW X n lo n) wave == lsF (atW X n hi n) wave)
set_option maxRecDepth 100000 in
set_option maxHeartbeats 6400000 in
theorem specPl_yes (xa : Option Addr) (n cx wave lo hi : Nat) (N : Nat) (X : Nat → Nat) (w : World) (hX : Rd w xa n X) (hk : plQ X n wave lo hi (N : Int) = true) (hb : plB X n wave lo hi = true) (up : Bool) (hup : up = lsF (atW X n lo n) wave) (R : Nat) (ok : Bool)
    (hR : Hid (match plR X n wave up N lo hi with | none => R = 0 ∧ ok = false | some (l, h) => R = numQ (midF l h) ∧ ok = isFin .f32 (midF l h))) :
    Calls Try.prog 34 #[.slice xa n cx, .float .f32 wave, .float .f32 lo, .float .f32 hi, .int .i64 (N : Int)] w (NRet R ok w) := by
  unfold plQ plB at *
  simp only [Bool.and_eq_true] at hk hb
  obtain ⟨⟨⟨⟨⟨k1, k2⟩, k3⟩, k4⟩, k5⟩, k6⟩ := hk
  obtain ⟨⟨b1, b2⟩, b3⟩ := hb
  have hn := crvB_at k1
  have hN : N ≤ 32 := by simp only [inB, Bool.and_eq_true, decide_eq_true_eq] at k6; omega
  have h5 : (FloatKind.f32.format.order lo hi == some .gt || FloatKind.f32.format.order lo hi == some .eq) = false := by simpa [geF] using k5
  have HC := Lib.hid (fun w h => specCrv_any xa n cx X w h (by omega) true (Lib.hid k1.symm))
  have HA := Lib.hid (fun w h p R hR => l06At_any xa n cx X p w h hn.1 (by omega) R hR)
  have ho1 := order_pick_l .f32
  obtain ⟨a, ha⟩ : ∃ a, a = atW X n lo n := ⟨_, rfl⟩
  obtain ⟨b, hb⟩ : ∃ b, b = atW X n hi n := ⟨_, rfl⟩
  rw [← ha] at b1 b3 hup
  rw [← hb] at b2 b3
  have na := num_fin b1
  have nb := num_fin b2
  obtain ⟨x2, hx2⟩ : ∃ x2, x2 = lsF b wave := ⟨_, rfl⟩
  have h6 : (FloatKind.f32.format.order a wave == some .lt) = up := hup.symm
  have h7 : (FloatKind.f32.format.order b wave == some .lt) = x2 := hx2.symm
  rw [← hup, ← hx2] at b3
  have h8 : (up == x2) = false := by simpa using b3
  have HR := hR
  have HK := Lib.hid (And.intro k3 (And.intro k4 hn.1))
  have HF := Lib.hid (And.intro k3 k4)
  have Ha := Lib.hid ha
  have Hb := Lib.hid hb
  clear ha hb
  clear k1 hR hx2 hup b3 k5 hn
  have HX := Lib.hid hX
  clear hX
  go_enter Try.func34, Try.ntmps34
  go_wp2_with fail
  refine (HC.out _ (by exact HX.out)).mono ?_
  rintro e w1 ⟨rfl, q1, rfl⟩
  go_wp2_with fail
  refine (l01Finite_any _ _).mono ?_
  rw [k2]
  rintro e w1 ⟨rfl, q2, rfl⟩
  go_wp2_with fail
  refine (l01Finite_any _ _).mono ?_
  rw [k3]
  rintro e w1 ⟨rfl, q3, rfl⟩
  go_wp2_with fail
  refine (l01Finite_any _ _).mono ?_
  rw [k4]
  rintro e w1 ⟨rfl, q4, rfl⟩
  go_wp2_with fail
  refine (l00In_any _ _ _ _).mono ?_
  rw [k6]
  rintro e w1 ⟨rfl, rfl⟩
  go_wp2_with fail
  refine (HA.out _ (by exact HX.out) _ a Ha).mono ?_
  rintro e w1 ⟨s1, q5, rfl, rfl⟩
  rw [pick_num na]
  go_wp2_with fail
  refine (HA.out _ (by exact HX.out) _ b Hb).mono ?_
  rintro e w1 ⟨s2, q6, rfl, rfl⟩
  rw [pick_num nb]
  go_wp2_with fail
  refine (l01Finite_any _ _).mono ?_
  rw [b1]
  rintro e w1 ⟨rfl, q7, rfl⟩
  go_wp2_with fail
  refine (l01Finite_any _ _).mono ?_
  rw [b2]
  rintro e w1 ⟨rfl, q8, rfl⟩
  clear k2 k3 k4 k6 h5 b1 b2 na nb
  go_wp2
  obtain ⟨w2, hw2⟩ : ∃ w2, w2 = w.drewN (q1 + q2 + q3 + q4 + q5 + q6 + q7 + q8) := ⟨_, rfl⟩
  rw [← hw2]
  have HW := Lib.hid hw2
  clear hw2 h6 h7 h8
  go_loopw [2, 3, 4] (fun lv hv rv wr => ∃ (r l h q : Nat), r ≤ N ∧ lv = .float .f32 l ∧ hv = .float .f32 h ∧ rv = .int .i64 (r : Int) ∧ wr = w2.drewN q ∧ Hid (isFin .f32 l = true ∧ isFin .f32 h = true) ∧ Hid (plR X n wave up N lo hi = plR X n wave up r l h)) (fun _ _ rv _ => (intOf rv).toNat)
  case atStart => exact ⟨N, lo, hi, 0, Nat.le_refl _, rfl, rfl, rfl, rfl, HF, Lib.hid rfl⟩
  case round =>
    obtain ⟨r, l, h, q, hr, rfl, rfl, rfl, rfl, HFr, HP⟩ := hrel
    have nS : isNaN .f32 (fbin .add .f32 l h) = false := nan_add (num_fin HFr.out.1) HFr.out.2
    obtain ⟨S, hS⟩ : ∃ S, fbin .add .f32 l h = S := ⟨_, rfl⟩
    have nM : isNaN .f32 (midF l h) = false := by
      show isNaN .f32 (fbin .mul .f32 1056964608 (fbin .add .f32 l h)) = false
      exact nan_mul_fin ⟨false, 8388608, -24, read_halfW, by decide⟩ nS
    obtain ⟨M, hM⟩ : ∃ M, midF l h = M := ⟨_, rfl⟩
    have hM' : fbin .mul .f32 1056964608 S = M := by rw [← hS]; exact hM
    rw [hS] at nS
    rw [hM] at nM
    have q1' := fun t => run_numop (op := .add) rfl t _ _ _ hS nS
    have q2' := fun t => run_numop (op := .mul) rfl t _ _ _ hM' nM
    have HQ := Lib.hid (show ∀ w, Calls Try.prog 84 #[.float .f32 M] w (QRet (numQ M) (isFin .f32 M) w) from fun w => by
      have := numS_any M 0 w
      rwa [pick_num nM] at this)
    have HM := Lib.hid hM
    have hbd : w.heap.size ≤ (w2.drewN q).heap.size := by rw [HW.out]; exact Nat.le_refl _
    have HBw : ∀ q, Below w.heap.size w (w2.drewN q) := fun q => by rw [HW.out]; exact Below.drewN (Below.drewN (Below.refl _ _) _) _
    have HX2 : Rd (w2.drewN q) xa n X := by rw [HW.out]; exact HX.out
    have HBh := Lib.hid HBw
    clear hS hM nS hbd HBw
    by_cases h0 : r = 0
    · subst h0
      have HP0 := HP.out
      rw [show plR X n wave up 0 l h = some (l, h) from rfl] at HP0
      have HRR := HR.out
      rw [HP0] at HRR
      have HR2 := Lib.hid HRR
      clear HRR HP0 HX2 nM
      go_wp2_with fail
      refine (HQ.out _).mono ?_
      rintro e w3 ⟨s3, q9, rfl, rfl⟩
      go_wp2
      go_ret2
      obtain ⟨e1, e2⟩ := HR2.out
      rw [e1, e2, HM.out]
      exact ⟨_, rfl, HBh.out _⟩
    · obtain ⟨r', rfl⟩ : ∃ r', r = r' + 1 := ⟨r - 1, by omega⟩
      obtain ⟨x, hx⟩ : ∃ x, x = atW X n M n := ⟨_, rfl⟩
      have HP1 := HP.out
      rw [show plR X n wave up (r' + 1) l h = if isFin .f32 (atW X n (midF l h) n) = true then (if (lsF (atW X n (midF l h) n) wave == up) = true then plR X n wave up r' (midF l h) h else plR X n wave up r' l (midF l h)) else none from rfl, HM.out, ← hx] at HP1
      have hrp : (0 : Int) < ((r' + 1 : Nat) : Int) := by omega
      have hrm : ((r' + 1 : Nat) : Int) - 1 = (r' : Int) := by omega
      have hrw : IntKind.i64.wrap ((r' : Int)) = (r' : Int) := IntWalk.i64_in _ (by omega)
      have Hx := Lib.hid hx
      clear hx
      cases hf : isFin .f32 x
      · rw [hf, if_neg (by simp)] at HP1
        have HRR := HR.out
        rw [HP1] at HRR
        have HR2 := Lib.hid HRR
        have hpx := isFin_pick .f32 x
        clear HRR HP1
        go_wp2_with fail
        refine (HA.out _ (by exact HX2) _ x Hx).mono ?_
        rintro e w3 ⟨s3, q9, rfl, rfl⟩
        go_wp2_with fail
        refine (l01Finite_any _ _).mono ?_
        rw [hpx, hf]
        rintro e w3 ⟨rfl, q10, rfl⟩
        go_wp2
        go_ret2
        obtain ⟨e1, e2⟩ := HR2.out
        rw [e1, e2]
        exact ⟨0, by rw [pick_nul]; rfl, HBh.out _⟩
      · rw [hf, if_pos rfl] at HP1
        have hfM : isFin .f32 M = true := fin_of_at HK.out.2.2 (by rw [← Hx.out]; exact hf)
        have nx := num_fin hf
        cases hc : (lsF x wave == up)
        · rw [hc, if_neg (by simp)] at HP1
          obtain ⟨y, hy⟩ : ∃ y, y = lsF x wave := ⟨_, rfl⟩
          have hy' : (FloatKind.f32.format.order x wave == some .lt) = y := hy.symm
          have hc' : (y == up) = false := by rw [hy]; exact hc
          have HP2 := Lib.hid HP1
          have HF2 := Lib.hid (And.intro HFr.out.1 hfM)
          clear HP1 hy hc
          go_wp2_with fail
          refine (HA.out _ (by exact HX2) _ x Hx).mono ?_
          rintro e w3 ⟨s3, q9, rfl, rfl⟩
          rw [pick_num nx]
          go_wp2_with fail
          refine (l01Finite_any _ _).mono ?_
          rw [hf]
          rintro e w3 ⟨rfl, q10, rfl⟩
          clear nx hfM
          go_wp2
          go_roundw
          case rel => exact ⟨r', _, _, _, by omega, rfl, rfl, by first | rfl | go_num, rfl, HF2, HP2⟩
          case measure => simp [intOf] <;> omega
        · rw [hc, if_pos rfl] at HP1
          obtain ⟨y, hy⟩ : ∃ y, y = lsF x wave := ⟨_, rfl⟩
          have hy' : (FloatKind.f32.format.order x wave == some .lt) = y := hy.symm
          have hc' : (y == up) = true := by rw [hy]; exact hc
          have HP2 := Lib.hid HP1
          have HF2 := Lib.hid (And.intro hfM HFr.out.2)
          clear HP1 hy hc
          go_wp2_with fail
          refine (HA.out _ (by exact HX2) _ x Hx).mono ?_
          rintro e w3 ⟨s3, q9, rfl, rfl⟩
          rw [pick_num nx]
          go_wp2_with fail
          refine (l01Finite_any _ _).mono ?_
          rw [hf]
          rintro e w3 ⟨rfl, q10, rfl⟩
          clear nx hfM
          go_wp2
          go_roundw
          case rel => exact ⟨r', _, _, _, by omega, rfl, rfl, by first | rfl | go_num, rfl, HF2, HP2⟩
          case measure => simp [intOf] <;> omega
end Go.Proofs.Ytbblohjldkpcnab
