
/- A scan of lines: where there is none. -/
import Derived.Test.YtbblohjldkpcnabScP
import Derived.Test.YtbblohjldkpcnabPushS
namespace Go.Proofs.Ytbblohjldkpcnab
set_option linter.all false
open Go Go.ChangeShapes Go.WideShapes Go.ChangeAt Go.RowKit

set_option maxRecDepth 100000 in
set_option maxHeartbeats 3200000 in
theorem specSc_no (xa va : Option Addr) (n m cx cv step : Nat) (N : Int) (X V : Nat → Nat) (w : World) (hX : Rd w xa n X) (hV : Rd w va m V) (hn : n ≤ 1048576) (hm : m ≤ 1048576) (hk : scOk X V n m step N = false) (R : Nat → Nat) :
    Calls Try.prog 37 #[.slice xa n cx, .slice va m cv, .float .f32 step, .int .i64 N] w (OutRet R 0 false w) := by
  cases h1 : prsB X V n m 1 16
  · have HP := Lib.hid (fun w => l06Lamps_any xa va n m cx cv X V 1 w)
    rw [h1] at HP
    clear hk h1
    go_enter Try.func37, Try.ntmps37
    go_wp2_with fail
    refine (HP.out _ (by exact hX) (by exact hV) hn hm).mono ?_
    rintro e w1 ⟨rfl, q, rfl⟩
    go_wp2
    go_ret2
    exact OutRet.no (Below.drewN (Below.refl _ _) _)
  cases h2 : isFin .f32 step
  · have HP := Lib.hid (fun w => l06Lamps_any xa va n m cx cv X V 1 w)
    rw [h1] at HP
    clear hk h1
    go_enter Try.func37, Try.ntmps37
    go_wp2_with fail
    refine (HP.out _ (by exact hX) (by exact hV) hn hm).mono ?_
    rintro e w1 ⟨rfl, q, rfl⟩
    go_wp2_with fail
    refine (l01Finite_any _ _).mono ?_
    rw [h2]
    rintro e w1 ⟨rfl, q2, rfl⟩
    go_wp2
    go_ret2
    exact OutRet.no (Below.drewN (Below.refl _ _) _)
  have h3 : inB N 2 64 = false := by
    unfold scOk at hk
    rw [h1, h2] at hk
    exact hk
  have HP := Lib.hid (fun w => l06Lamps_any xa va n m cx cv X V 1 w)
  rw [h1] at HP
  clear hk h1
  go_enter Try.func37, Try.ntmps37
  go_wp2_with fail
  refine (HP.out _ (by exact hX) (by exact hV) hn hm).mono ?_
  rintro e w1 ⟨rfl, q, rfl⟩
  go_wp2_with fail
  refine (l01Finite_any _ _).mono ?_
  rw [h2]
  rintro e w1 ⟨rfl, q2, rfl⟩
  go_wp2_with fail
  refine (l00In_any _ _ _ _).mono ?_
  rw [h3]
  rintro e w1 ⟨rfl, rfl⟩
  go_wp2
  go_ret2
  exact OutRet.no (Below.drewN (Below.refl _ _) _)
set_option maxRecDepth 100000 in
set_option maxHeartbeats 3200000 in
theorem implSc_no (xa va : Option Addr) (n m cx cv step : Nat) (N : Int) (X V : Nat → Nat) (w : World) (hX : Rd w xa n X) (hV : Rd w va m V) (hn : n ≤ 1048576) (hm : m ≤ 1048576) (hk : scOk X V n m step N = false) (R : Nat → Nat) :
    Calls Try.prog 38 #[.slice xa n cx, .slice va m cv, .float .f32 step, .int .i64 N] w (OutRet R 0 false w) := by
  cases h1 : prsB X V n m 1 16
  · have HP := Lib.hid (fun w => arePairs_any xa va n m cx cv X V 1 16 w)
    rw [h1] at HP
    clear hk h1
    go_enter Try.func38, Try.ntmps38
    go_wp2_with fail
    refine (HP.out _ (by exact hX) (by exact hV) hn hm).mono ?_
    rintro e w1 ⟨rfl, q, rfl⟩
    go_wp2
    go_ret2
    exact OutRet.no (Below.drewN (Below.refl _ _) _)
  cases h2 : isFin .f32 step
  · have HP := Lib.hid (fun w => arePairs_any xa va n m cx cv X V 1 16 w)
    rw [h1] at HP
    clear hk h1
    go_enter Try.func38, Try.ntmps38
    go_wp2_with fail
    refine (HP.out _ (by exact hX) (by exact hV) hn hm).mono ?_
    rintro e w1 ⟨rfl, q, rfl⟩
    go_wp2_with fail
    refine (IsFinite_any _ _).mono ?_
    rw [h2]
    rintro e w1 ⟨rfl, q2, rfl⟩
    go_wp2
    go_ret2
    exact OutRet.no (Below.drewN (Below.refl _ _) _)
  have h3 : (decide (2 ≤ N) && decide (N ≤ 64)) = false := by
    unfold scOk at hk
    rw [h1, h2] at hk
    exact hk
  have HP := Lib.hid (fun w => arePairs_any xa va n m cx cv X V 1 16 w)
  rw [h1] at HP
  have HI := Lib.hid (fun w => isScanLength_any N w)
  rw [h3] at HI
  clear hk h1 h3
  go_enter Try.func38, Try.ntmps38
  go_wp2_with fail
  refine (HP.out _ (by exact hX) (by exact hV) hn hm).mono ?_
  rintro e w1 ⟨rfl, q, rfl⟩
  go_wp2_with fail
  refine (IsFinite_any _ _).mono ?_
  rw [h2]
  rintro e w1 ⟨rfl, q2, rfl⟩
  go_wp2_with fail
  refine (HI.out _).mono ?_
  rintro e w1 ⟨rfl, rfl⟩
  go_wp2
  go_ret2
  exact OutRet.no (Below.drewN (Below.refl _ _) _)
end Go.Proofs.Ytbblohjldkpcnab
