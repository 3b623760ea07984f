
/- Whether an integer lies within bounds, as the model asks it. -/
import Derived.Test.YtogmcinaoemnpabRowKit
namespace Go.Proofs.Ytogmcinaoemnpab
open Go Go.ChangeShapes Go.WideShapes Go.ChangeAt Go.RowKit

theorem ret_bool {a b : Bool} (h : a = b) : Ending.returned (.bool a) = .returned (.bool b) := by rw [h]
def inB (n a b : Int) : Bool := decide (a ≤ n) && decide (n ≤ b)
theorem inB_yes {n a b : Int} (h1 : a ≤ n) (h2 : n ≤ b) : inB n a b = true := by simp [inB, h1, h2]
theorem inB_lo {n a b : Int} (h : n < a) : inB n a b = false := by simp [inB]; omega
theorem inB_hi {n a b : Int} (h : b < n) : inB n a b = false := by simp [inB]; omega
theorem l00In_any (n a b : Int) (w : World) : Calls Try.prog 69 #[.int .i64 n, .int .i64 a, .int .i64 b] w fun e w' => e = .returned (.bool (inB n a b)) ∧ w = w' := by
  by_cases h1 : a ≤ n
  · have d1 : decide (a ≤ n) = true := decide_eq_true h1
    by_cases h2 : n ≤ b
    · have H := Lib.hid (inB_yes h1 h2)
      have d2 : decide (n ≤ b) = true := decide_eq_true h2
      go_enter Try.func69, Try.ntmps69
      go_wp2
      go_ret
      exact ⟨ret_bool H.out.symm, rfl⟩
    · have H := Lib.hid (inB_hi (a := a) (show b < n by omega))
      have d2 : decide (n ≤ b) = false := decide_eq_false h2
      go_enter Try.func69, Try.ntmps69
      go_wp2
      go_ret
      exact ⟨ret_bool H.out.symm, rfl⟩
  · have H := Lib.hid (inB_lo (b := b) (show n < a by omega))
    have d1 : decide (a ≤ n) = false := decide_eq_false h1
    go_enter Try.func69, Try.ntmps69
    go_wp2
    go_ret
    exact ⟨ret_bool H.out.symm, rfl⟩
theorem inB_rng {n a b : Int} (h : inB n a b = true) : a ≤ n ∧ n ≤ b := by
  unfold inB at h
  simpa using h
end Go.Proofs.Ytogmcinaoemnpab
