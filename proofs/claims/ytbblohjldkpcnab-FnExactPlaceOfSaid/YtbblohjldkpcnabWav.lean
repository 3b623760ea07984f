
/- The wave at a place: as the model tells it, and as the program does. -/
import Derived.Test.YtbblohjldkpcnabBkw
import Derived.Test.YtbblohjldkpcnabFinS
import Derived.Test.YtbblohjldkpcnabNu5
import Derived.Test.YtbblohjldkpcnabIn
import Derived.Test.YtbblohjldkpcnabArr
import Derived.Maps.AppendAt
namespace Go.Proofs.Ytbblohjldkpcnab
open Go Go.ChangeShapes Go.WideShapes Go.ChangeAt Go.RowKit Go.Shelf

def crvB (X : Nat → Nat) (n : Nat) : Bool := (decide ((1 : Int) ≤ (n : Int)) && decide ((n : Int) ≤ 3)) && finL X n
theorem crvB_at {X : Nat → Nat} {n : Nat} (h : crvB X n = true) : 1 ≤ n ∧ n ≤ 3 ∧ finL X n = true := by
  unfold crvB at h
  simp only [Bool.and_eq_true, decide_eq_true_eq] at h
  exact ⟨by omega, by omega, h.2⟩
set_option maxRecDepth 100000 in
set_option maxHeartbeats 1600000 in
theorem specCrv_any (xa : Option Addr) (n cap : Nat) (X : Nat → Nat) (w : World) (hX : Rd w xa n X) (hn : n ≤ 1048576) (b : Bool) (hb : Hid (b = crvB X n)) :
    Calls Try.prog 81 #[.slice xa n cap] w fun e w' => e = .returned (.bool b) ∧ ∃ m, w' = w.drewN m := by
  cases d1 : decide ((1 : Int) ≤ (n : Int))
  · have HQ := Lib.hid (show false = b by rw [hb.out, crvB, d1]; rfl)
    clear hb hX
    go_enter Try.func81, Try.ntmps81
    go_wp2
    go_ret
    exact ⟨ret_bool HQ.out, 0, rfl⟩
  · cases d2 : decide ((n : Int) ≤ 3)
    · have HQ := Lib.hid (show false = b by rw [hb.out, crvB, d1, d2]; rfl)
      clear hb hX
      go_enter Try.func81, Try.ntmps81
      go_wp2
      go_ret
      exact ⟨ret_bool HQ.out, 0, rfl⟩
    · have HQ := Lib.hid (show finL X n = b by rw [hb.out, crvB, d1, d2]; rfl)
      clear hb
      go_enter Try.func81, Try.ntmps81
      go_wp2_with (go_at_call 115; refine (l02Finite_any _ _ _ X _ hX hn).mono ?_; rintro e w' ⟨rfl, q, rfl⟩)
      go_ret
      exact ⟨ret_bool HQ.out, _, rfl⟩
set_option maxRecDepth 100000 in
set_option maxHeartbeats 1600000 in
theorem implCrv_any (xa : Option Addr) (n cap : Nat) (X : Nat → Nat) (w : World) (hX : Rd w xa n X) (hn : n ≤ 1048576) (b : Bool) (hb : Hid (b = crvB X n)) :
    Calls Try.prog 136 #[.slice xa n cap] w fun e w' => e = .returned (.bool b) ∧ ∃ m, w' = w.drewN m := by
  cases d1 : decide ((1 : Int) ≤ (n : Int))
  · have HQ := Lib.hid (show false = b by rw [hb.out, crvB, d1]; rfl)
    clear hb hX
    go_enter Try.func136, Try.ntmps136
    go_wp2
    go_ret
    exact ⟨ret_bool HQ.out, 0, rfl⟩
  · cases d2 : decide ((n : Int) ≤ 3)
    · have HQ := Lib.hid (show false = b by rw [hb.out, crvB, d1, d2]; rfl)
      clear hb hX
      go_enter Try.func136, Try.ntmps136
      go_wp2
      go_ret
      exact ⟨ret_bool HQ.out, 0, rfl⟩
    · have HQ := Lib.hid (show finL X n = b by rw [hb.out, crvB, d1, d2]; rfl)
      clear hb
      go_enter Try.func136, Try.ntmps136
      go_wp2_with (go_at_call 123; refine (allFinite_any _ _ _ X _ hX hn).mono ?_; rintro e w' ⟨rfl, q, rfl⟩)
      go_ret
      exact ⟨ret_bool HQ.out, _, rfl⟩
/-- The wave behind k numbers of a curve, from the last one on. -/
def atW (X : Nat → Nat) (n p : Nat) : Nat → Nat
  | 0 => 0
  | k + 1 => fbin .add .f32 (fbin .mul .f32 (atW X n p k) p) (X (n - 1 - k))
/-- The same behind pairs that have come. -/
def wavL (p : Nat) (pre : List Pr) : Nat := pre.foldl (fun a x => fbin .add .f32 (fbin .mul .f32 a p) x.2) 0
theorem wavL_push (p : Nat) (pre : List Pr) (x : Pr) : wavL p (pre ++ [x]) = fbin .add .f32 (fbin .mul .f32 (wavL p pre) p) x.2 := by simp [wavL]
theorem wavL_all (X : Nat → Nat) (n p : Nat) : ∀ k, wavL p (upB X n k) = atW X n p k := by
  intro k
  induction k with
  | zero => rfl
  | succ k ih => rw [← upB_succ, wavL_push, ih]; rfl
def FltW (R : Nat) (w : World) (e : Ending) (w' : World) : Prop := ∃ s m, e = .returned (.float .f32 (pick .f32 R s)) ∧ w' = w.drewN m
set_option maxRecDepth 100000 in
set_option maxHeartbeats 1600000 in
theorem l06At_any (xa : Option Addr) (n cap : Nat) (X : Nat → Nat) (p : Nat) (w : World) (hX : Rd w xa n X) (h1 : 1 ≤ n) (hn : n ≤ 1000) (R : Nat) (hR : Hid (R = atW X n p n)) :
    Calls Try.prog 83 #[.slice xa n cap, .float .f32 p] w (FltW R w) := by
  obtain ⟨xb, xo, hxa, hcx⟩ := hX
  have e := hxa (by omega)
  subst e
  have HX := Lib.hid hcx
  clear hcx hxa
  go_enter Try.func83, Try.ntmps83
  go_wp2
  go_loopw [5, 6] (fun q i wr => ∃ k m s : Nat, k ≤ n ∧ i = .int .i64 ((n : Int) - 1 - (k : Int)) ∧ wr = w.drewN m ∧ q = .float .f32 (pick .f32 (atW X n p k) s)) (fun _ i _ => (intOf i + 1).toNat)
  case atStart => exact ⟨0, 0, 0, Nat.zero_le _, by simp, rfl, by rw [show atW X n p 0 = 0 from rfl, pick_nul]⟩
  case round =>
    obtain ⟨k, m, s, hk, rfl, rfl, rfl⟩ := hrel
    by_cases hlt : k < n
    · obtain ⟨j, hj⟩ : ∃ j : Nat, (n : Int) - 1 - (k : Int) = (j : Int) := ⟨n - 1 - k, by omega⟩
      have hjn : j = n - 1 - k := by omega
      have h1 := HX.out j (by omega)
      have hjlt : (j : Int) < (n : Int) := by omega
      have hp := fun op => fbin_pick_l op .f32
      obtain ⟨D, hD⟩ : ∃ D, D = atW X n p k := ⟨_, rfl⟩
      have HE := Lib.hid (show fbin .add .f32 (fbin .mul .f32 D p) (X j) = atW X n p (k + 1) by rw [hD, hjn]; rfl)
      have HN := Lib.hid (show (n : Int) - 1 - ((k + 1 : Nat) : Int) = (j : Int) - 1 by omega)
      rw [← hD, hj]
      clear hD hj hjn
      go_wp2_with ((with_reducible refine wpL_fbin ?_); refine ⟨_, _, _, rfl, rfl, rfl, fun s n => ?_⟩)
      go_roundw
      case rel => exact ⟨k + 1, _, _, by omega, by rw [HN.out], rfl, by rw [HE.out]⟩
      case measure => simp [intOf] <;> omega
    · obtain rfl : k = n := by omega
      have hge : (k : Int) - 1 - (k : Int) = -1 := by omega
      rw [hge, ← hR.out]
      go_wp2
      go_ret
      exact ⟨s, m, rfl, rfl⟩
def okWav (X : Nat → Nat) (n p : Nat) : Bool := crvB X n && isFin .f32 p
set_option maxRecDepth 100000 in
set_option maxHeartbeats 3200000 in
theorem implWav_no (xa : Option Addr) (n cap : Nat) (X : Nat → Nat) (p : Nat) (w : World) (hX : Rd w xa n X) (hn : n ≤ 1048576) (hk : okWav X n p = false) : Calls Try.prog 87 #[.slice xa n cap, .float .f32 p] w (NRet 0 false w) := by
  have hX' : Rd (w.alloc (.cells #[.float .f32 p] 43)) xa n X := hX.below ((Below.refl _ _).alloc (Nat.le_refl _) _)
  cases c1 : crvB X n
  · have HB := Lib.hid (implCrv_any xa n cap X _ hX' hn false (Lib.hid c1.symm))
    clear hk
    go_enter Try.func87, Try.ntmps87
    go_wp2_with (go_at_call 136; refine HB.out.mono ?_; rintro e w' ⟨rfl, q, rfl⟩)
    go_ret2
    refine ⟨0, by rw [pick_nul]; rfl, ?_⟩
    (repeat (first | with_reducible exact Below.refl _ _ | with_reducible refine Below.drewN ?_ _ | with_reducible refine Below.setCell ?_ (by simp; try omega) _ | with_reducible refine Below.alloc ?_ (by simp; try omega) _))
  · have HB := Lib.hid (implCrv_any xa n cap X _ hX' hn true (Lib.hid c1.symm))
    have c2 : isFin .f32 p = false := by rw [okWav, c1, Bool.true_and] at hk; exact hk
    clear hk
    go_enter Try.func87, Try.ntmps87
    go_wp2_with (first | (go_at_call 136; refine HB.out.mono ?_; rintro e w' ⟨rfl, q, rfl⟩) | (first | (go_at_call 85; refine (IsFinite_any _ _).mono ?_; rintro e w' ⟨rfl, q, rfl⟩)))
    go_ret2
    refine ⟨0, by rw [pick_nul]; rfl, ?_⟩
    (repeat (first | with_reducible exact Below.refl _ _ | with_reducible refine Below.drewN ?_ _ | with_reducible refine Below.setCell ?_ (by simp; try omega) _ | with_reducible refine Below.alloc ?_ (by simp; try omega) _))
end Go.Proofs.Ytbblohjldkpcnab
