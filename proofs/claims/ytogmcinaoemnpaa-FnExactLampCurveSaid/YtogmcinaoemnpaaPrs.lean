
/- Two lists of as many finite numbers, within bounds: as the program asks it, and as the model of chapter 6 asks it of lamps. -/
import Derived.Test.YtogmcinaoemnpaaFinS
import Derived.Test.YtogmcinaoemnpaaIn
namespace Go.Proofs.Ytogmcinaoemnpaa
open Go Go.ChangeShapes Go.WideShapes Go.ChangeAt Go.RowKit

def prsB (X Y : Nat → Nat) (n m : Nat) (lo hi : Int) : Bool := ((decide (lo ≤ (n : Int)) && decide ((n : Int) ≤ hi)) && ((m : Int) == (n : Int))) && (finL X n && finL Y m)
theorem prsB_at {X Y : Nat → Nat} {n m : Nat} {lo hi : Int} (h : prsB X Y n m lo hi = true) : lo ≤ n ∧ n ≤ hi ∧ m = n ∧ finL X n = true ∧ finL Y n = true := by
  unfold prsB at h
  simp only [Bool.and_eq_true, decide_eq_true_eq, beq_iff_eq] at h
  have e : m = n := by omega
  subst e
  exact ⟨h.1.1.1, h.1.1.2, rfl, h.2.1, h.2.2⟩
set_option maxRecDepth 100000 in
set_option maxHeartbeats 1600000 in
theorem arePairs_any (xa ya : Option Addr) (n m cap cap' : Nat) (X Y : Nat → Nat) (lo hi : Int) (w : World) (hX : Rd w xa n X) (hY : Rd w ya m Y) (hn : n ≤ 1048576) (hm : m ≤ 1048576) :
    Calls Try.prog 56 #[.slice xa n cap, .slice ya m cap', .int .i64 lo, .int .i64 hi] w fun e w' => e = .returned (.bool (prsB X Y n m lo hi)) ∧ ∃ m, w' = w.drewN m := by
  obtain ⟨b, hb⟩ : ∃ b, b = prsB X Y n m lo hi := ⟨_, rfl⟩
  rw [← hb]
  cases d1 : decide (lo ≤ (n : Int))
  · have HQ := Lib.hid (show false = b by rw [hb, prsB, d1]; rfl)
    clear hb hX hY
    go_enter Try.func56, Try.ntmps56
    go_wp2
    go_ret
    exact ⟨ret_bool HQ.out, 0, rfl⟩
  · cases d2 : decide ((n : Int) ≤ hi)
    · have HQ := Lib.hid (show false = b by rw [hb, prsB, d1, d2]; rfl)
      clear hb hX hY
      go_enter Try.func56, Try.ntmps56
      go_wp2
      go_ret
      exact ⟨ret_bool HQ.out, 0, rfl⟩
    · cases d3 : ((m : Int) == (n : Int))
      · have HQ := Lib.hid (show false = b by rw [hb, prsB, d1, d2, d3]; rfl)
        clear hb hX hY
        go_enter Try.func56, Try.ntmps56
        go_wp2
        go_ret
        exact ⟨ret_bool HQ.out, 0, rfl⟩
      · cases f1 : finL X n
        · have HQ := Lib.hid (show false = b by rw [hb, prsB, d1, d2, d3, f1]; rfl)
          clear hb
          go_enter Try.func56, Try.ntmps56
          go_wp2_with (go_at_call 88; refine (allFinite_any _ _ _ X _ hX hn).mono ?_; rw [f1]; rintro e w' ⟨rfl, q, rfl⟩)
          go_ret
          exact ⟨ret_bool HQ.out, _, rfl⟩
        · have HQ := Lib.hid (show finL Y m = b by rw [hb, prsB, d1, d2, d3, f1]; rfl)
          clear hb
          go_enter Try.func56, Try.ntmps56
          go_wp2_with fail
          refine (allFinite_any _ _ _ X _ (by exact hX) hn).mono ?_
          rw [f1]
          rintro e w' ⟨rfl, q, rfl⟩
          go_wp2_with fail
          refine (allFinite_any _ _ _ Y _ (by exact hY) hm).mono ?_
          rintro e w' ⟨rfl, q2, rfl⟩
          go_wp2
          go_ret
          exact ⟨ret_bool HQ.out, _, rfl⟩
set_option maxRecDepth 100000 in
set_option maxHeartbeats 1600000 in
theorem l06Lamps_any (xa ya : Option Addr) (n m cap cap' : Nat) (X Y : Nat → Nat) (lo : Int) (w : World) (hX : Rd w xa n X) (hY : Rd w ya m Y) (hn : n ≤ 1048576) (hm : m ≤ 1048576) :
    Calls Try.prog 55 #[.slice xa n cap, .slice ya m cap', .int .i64 lo] w fun e w' => e = .returned (.bool (prsB X Y n m lo 16)) ∧ ∃ m, w' = w.drewN m := by
  obtain ⟨b, hb⟩ : ∃ b, b = prsB X Y n m lo 16 := ⟨_, rfl⟩
  rw [← hb]
  cases d1 : decide (lo ≤ (n : Int))
  · have HQ := Lib.hid (show false = b by rw [hb, prsB, d1]; rfl)
    clear hb hX hY
    go_enter Try.func55, Try.ntmps55
    go_wp2
    go_ret
    exact ⟨ret_bool HQ.out, 0, rfl⟩
  · cases d2 : decide ((n : Int) ≤ 16)
    · have HQ := Lib.hid (show false = b by rw [hb, prsB, d1, d2]; rfl)
      clear hb hX hY
      go_enter Try.func55, Try.ntmps55
      go_wp2
      go_ret
      exact ⟨ret_bool HQ.out, 0, rfl⟩
    · cases d3 : ((m : Int) == (n : Int))
      · have HQ := Lib.hid (show false = b by rw [hb, prsB, d1, d2, d3]; rfl)
        clear hb hX hY
        go_enter Try.func55, Try.ntmps55
        go_wp2
        go_ret
        exact ⟨ret_bool HQ.out, 0, rfl⟩
      · cases f1 : finL X n
        · have HQ := Lib.hid (show false = b by rw [hb, prsB, d1, d2, d3, f1]; rfl)
          clear hb
          go_enter Try.func55, Try.ntmps55
          go_wp2_with (go_at_call 93; refine (l02Finite_any _ _ _ X _ hX hn).mono ?_; rw [f1]; rintro e w' ⟨rfl, q, rfl⟩)
          go_ret
          exact ⟨ret_bool HQ.out, _, rfl⟩
        · have HQ := Lib.hid (show finL Y m = b by rw [hb, prsB, d1, d2, d3, f1]; rfl)
          clear hb
          go_enter Try.func55, Try.ntmps55
          go_wp2_with fail
          refine (l02Finite_any _ _ _ X _ (by exact hX) hn).mono ?_
          rw [f1]
          rintro e w' ⟨rfl, q, rfl⟩
          go_wp2_with fail
          refine (l02Finite_any _ _ _ Y _ (by exact hY) hm).mono ?_
          rintro e w' ⟨rfl, q2, rfl⟩
          go_wp2
          go_ret
          exact ⟨ret_bool HQ.out, _, rfl⟩
end Go.Proofs.Ytogmcinaoemnpaa
