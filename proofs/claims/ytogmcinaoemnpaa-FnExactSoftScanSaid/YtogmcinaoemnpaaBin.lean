
/- Lists of at most 64 finite numbers, at least some: as the model of chapter 6 asks it, and as the program does. -/
import Derived.Test.YtogmcinaoemnpaaFinS
import Derived.Test.YtogmcinaoemnpaaIn
namespace Go.Proofs.Ytogmcinaoemnpaa
open Go Go.ChangeShapes Go.WideShapes Go.ChangeAt Go.RowKit

def binB (X : Nat → Nat) (n : Nat) (lo : Int) : Bool := (decide (lo ≤ (n : Int)) && decide ((n : Int) ≤ 64)) && finL X n
theorem binB_at {X : Nat → Nat} {n : Nat} {lo : Int} (h : binB X n lo = true) : lo ≤ n ∧ n ≤ 64 ∧ finL X n = true := by
  unfold binB at h
  simp only [Bool.and_eq_true, decide_eq_true_eq] at h
  exact ⟨h.1.1, by omega, h.2⟩
set_option maxRecDepth 100000 in
set_option maxHeartbeats 1600000 in
theorem specBins_any (xa : Option Addr) (n cap : Nat) (X : Nat → Nat) (lo : Int) (w : World) (hX : Rd w xa n X) (hn : n ≤ 1048576) :
    Calls Try.prog 65 #[.slice xa n cap, .int .i64 lo] w fun e w' => e = .returned (.bool (binB X n lo)) ∧ ∃ m, w' = w.drewN m := by
  obtain ⟨b, hb⟩ : ∃ b, b = binB X n lo := ⟨_, rfl⟩
  rw [← hb]
  cases d1 : decide (lo ≤ (n : Int))
  · have HQ := Lib.hid (show false = b by rw [hb, binB, d1]; rfl)
    clear hb hX
    go_enter Try.func65, Try.ntmps65
    go_wp2
    go_ret
    exact ⟨ret_bool HQ.out, 0, rfl⟩
  · cases d2 : decide ((n : Int) ≤ 64)
    · have HQ := Lib.hid (show false = b by rw [hb, binB, d1, d2]; rfl)
      clear hb hX
      go_enter Try.func65, Try.ntmps65
      go_wp2
      go_ret
      exact ⟨ret_bool HQ.out, 0, rfl⟩
    · have HQ := Lib.hid (show finL X n = b by rw [hb, binB, d1, d2]; rfl)
      clear hb
      go_enter Try.func65, Try.ntmps65
      go_wp2_with (go_at_call 93; refine (l02Finite_any _ _ _ X _ hX hn).mono ?_; rintro e w' ⟨rfl, q, rfl⟩)
      go_ret
      exact ⟨ret_bool HQ.out, _, rfl⟩
set_option maxRecDepth 100000 in
set_option maxHeartbeats 1600000 in
theorem isScan_any (xa : Option Addr) (n cap : Nat) (X : Nat → Nat) (w : World) (hX : Rd w xa n X) (hn : n ≤ 1048576) :
    Calls Try.prog 68 #[.slice xa n cap] w fun e w' => e = .returned (.bool (binB X n 2)) ∧ ∃ m, w' = w.drewN m := by
  obtain ⟨b, hb⟩ : ∃ b, b = binB X n 2 := ⟨_, rfl⟩
  rw [← hb]
  cases d1 : decide ((2 : Int) ≤ (n : Int))
  · have HQ := Lib.hid (show false = b by rw [hb, binB, d1]; rfl)
    clear hb hX
    go_enter Try.func68, Try.ntmps68
    go_wp2_with go_in
    go_ret
    exact ⟨ret_bool HQ.out, 0, rfl⟩
  · cases d2 : decide ((n : Int) ≤ 64)
    · have HQ := Lib.hid (show false = b by rw [hb, binB, d1, d2]; rfl)
      clear hb hX
      go_enter Try.func68, Try.ntmps68
      go_wp2_with go_in
      go_ret
      exact ⟨ret_bool HQ.out, 0, rfl⟩
    · have HQ := Lib.hid (show finL X n = b by rw [hb, binB, d1, d2]; rfl)
      clear hb
      go_enter Try.func68, Try.ntmps68
      go_wp2_with (first | (go_at_call 88; refine (allFinite_any _ _ _ X _ hX hn).mono ?_; rintro e w' ⟨rfl, q, rfl⟩) | go_in)
      go_ret
      exact ⟨ret_bool HQ.out, _, rfl⟩
end Go.Proofs.Ytogmcinaoemnpaa
