/- What the chapter on turns asks of lists and counts, and j times (j + 1): as the model tells it, and as the program does. -/
import Derived.Test.YtebelikahpnobabLev
import Derived.Test.YtebelikahpnobabGe
namespace Go.Proofs.Ytebelikahpnobab
open Go Go.ChangeShapes Go.WideShapes Go.ChangeAt Go.RowKit

def qF (k : Nat) : Nat := floatOfInt .f32 ((k : Int) * ((k : Int) + 1))
theorem q_le (k : Nat) (hk : k ≤ 64) : 0 ≤ (k : Int) * ((k : Int) + 1) ∧ (k : Int) * ((k : Int) + 1) ≤ 4160 :=
  ⟨Int.mul_nonneg (by omega) (by omega), Int.le_trans (Int.mul_le_mul (show (k : Int) ≤ 64 by omega) (show (k : Int) + 1 ≤ 65 by omega) (by omega) (by omega)) (by decide)⟩
theorem crossOf_any (k : Nat) (hk : k ≤ 64) (w : World) : Calls Try.prog 88 #[.int .i64 (k : Int)] w fun e w' => e = .returned (.float .f32 (qF k)) ∧ w' = w := by
  obtain ⟨h0, h1⟩ := q_le k hk
  obtain ⟨Z, hZ⟩ : ∃ Z, Z = qF k := ⟨_, rfl⟩
  rw [← hZ]
  have HZ := Lib.hid hZ
  clear hZ
  go_enter Try.func88, Try.ntmps88
  go_wp2
  go_ret
  exact ⟨by rw [HZ.out]; rfl, rfl⟩
theorem l03Q_any (k : Nat) (hk : k ≤ 64) (w : World) : Calls Try.prog 143 #[.int .i64 (k : Int)] w fun e w' => e = .returned (.float .f32 (qF k)) ∧ w' = w := by
  obtain ⟨h0, h1⟩ := q_le k hk
  obtain ⟨Z, hZ⟩ : ∃ Z, Z = qF k := ⟨_, rfl⟩
  rw [← hZ]
  have HZ := Lib.hid hZ
  clear hZ
  go_enter Try.func143, Try.ntmps143
  go_wp2
  go_ret
  exact ⟨by rw [HZ.out]; rfl, rfl⟩
theorem l03Rotor_any (n : Int) (w : World) : Calls Try.prog 141 #[.int .i64 n] w fun e w' => e = .returned (.bool (inB n 1 40)) ∧ w' = w := by
  go_enter Try.func141, Try.ntmps141
  go_wp2_with (go_at_call 118; refine (l00In_any _ _ _ _).mono ?_; rintro e w' ⟨rfl, rfl⟩)
  go_ret
  exact ⟨rfl, rfl⟩
theorem isRotorCount_any (n : Int) (w : World) : Calls Try.prog 87 #[.int .i64 n] w fun e w' => e = .returned (.bool (inB n 1 40)) ∧ w' = w := by
  by_cases h1 : 1 ≤ n
  · have d1 : decide (1 ≤ n) = true := decide_eq_true h1
    by_cases h2 : n ≤ 40
    · have H := Lib.hid (inB_yes h1 h2)
      have d2 : decide (n ≤ 40) = true := decide_eq_true h2
      go_enter Try.func87, Try.ntmps87
      go_wp2
      go_ret
      exact ⟨ret_bool H.out.symm, rfl⟩
    · have H := Lib.hid (inB_hi (a := 1) (show 40 < n by omega))
      have d2 : decide (n ≤ 40) = false := decide_eq_false h2
      go_enter Try.func87, Try.ntmps87
      go_wp2
      go_ret
      exact ⟨ret_bool H.out.symm, rfl⟩
  · have H := Lib.hid (inB_lo (b := 40) (show n < 1 by omega))
    have d1 : decide (1 ≤ n) = false := decide_eq_false h1
    go_enter Try.func87, Try.ntmps87
    go_wp2
    go_ret
    exact ⟨ret_bool H.out.symm, rfl⟩
/-- A list that is told if all of it is finite. -/
def ListRet (X : Nat → Nat) (n : Nat) (v : Value) (w : World) (e : Ending) (w' : World) : Prop := e = .returned (.tuple #[if finL X n = true then v else .slice none 0 0, .bool (finL X n)]) ∧ ∃ m, w' = w.drewN m
set_option maxHeartbeats 800000 in
theorem l03List_rd (xa : Option Addr) (n cap : Nat) (X : Nat → Nat) (w : World) (hX : Rd w xa n X) (hn : n ≤ 1048576) :
    Calls Try.prog 144 #[.slice xa n cap] w (ListRet X n (.slice xa n cap) w) := by
  obtain ⟨xb, xo, hxa, hcx⟩ := hX
  have HX := Lib.hid hcx
  clear hcx
  go_enter Try.func144, Try.ntmps144
  go_wp2
  go_loopw [4, 7] (fun _ i wr => ∃ k m : Nat, k ≤ n ∧ i = .int .i64 k ∧ wr = w.drewN m ∧ Hid (∀ j, j < k → isFin .f32 (X j) = true)) (fun _ i _ => n - (intOf i).toNat)
  case atStart => exact ⟨0, 0, Nat.zero_le _, rfl, rfl, Lib.hid fun j hj => absurd hj (Nat.not_lt_zero _)⟩
  case round =>
    obtain ⟨k, m, hk, rfl, rfl, HF⟩ := hrel
    by_cases hlt : k < n
    · have e := hxa (by omega)
      subst e
      have h1 := HX.out k hlt
      cases hf : isFin .f32 (X k)
      · have HN := Lib.hid (finL_no hlt hf)
        go_wp2_with (go_at_call 120; refine (l01Finite_any _ _).mono ?_; rintro e w' ⟨rfl, q, rfl⟩)
        go_ret2
        exact ⟨by rw [HN.out]; rfl, _, rfl⟩
      · have HN := Lib.hid (show ∀ j, j < k + 1 → isFin .f32 (X j) = true from fun j hj => by
          by_cases hj' : j < k
          · exact HF.out j hj'
          · rw [show j = k by omega]; exact hf)
        go_wp2_with (go_at_call 120; refine (l01Finite_any _ _).mono ?_; rintro e w' ⟨rfl, q, rfl⟩)
        go_roundw
        case rel => exact ⟨k + 1, _, by omega, by go_num, rfl, HN⟩
        case measure => simp [intOf]; omega
    · have hkn : k = n := by omega
      subst hkn
      have HN := Lib.hid (finL_yes HF.out)
      go_wp2
      go_ret2
      exact ⟨by rw [HN.out]; rfl, m, rfl⟩
theorem l03List_any (v : Value) (B n : Nat) (X : Nat → Nat) (w : World) (hown : w.ownsRow B 23 1 v n (rowOf X n)) (hn : n ≤ 1048576) :
    Calls Try.prog 144 #[v] w (ListRet X n v w) := by
  obtain ⟨xa, cap, rfl, _, _, hX⟩ := rd_of_own hown
  exact l03List_rd _ _ _ X _ hX hn
theorem onlyFinite_any (v : Value) (B n : Nat) (X : Nat → Nat) (w : World) (hown : w.ownsRow B 23 1 v n (rowOf X n)) (hn : n ≤ 1048576) :
    Calls Try.prog 91 #[v] w (ListRet X n v w) := by
  obtain ⟨xa, cap, rfl, _, _, hX⟩ := rd_of_own hown
  clear hown
  cases hf : finL X n
  · go_enter Try.func91, Try.ntmps91
    go_wp2_with (go_at_call 98; refine (allFinite_any _ _ _ X _ hX hn).mono ?_; rintro e w' ⟨rfl, q, rfl⟩)
    go_ret2
    exact ⟨by rw [hf]; rfl, _, rfl⟩
  · go_enter Try.func91, Try.ntmps91
    go_wp2_with (go_at_call 98; refine (allFinite_any _ _ _ X _ hX hn).mono ?_; rintro e w' ⟨rfl, q, rfl⟩)
    go_ret2
    exact ⟨by rw [hf]; rfl, _, rfl⟩
end Go.Proofs.Ytebelikahpnobab
