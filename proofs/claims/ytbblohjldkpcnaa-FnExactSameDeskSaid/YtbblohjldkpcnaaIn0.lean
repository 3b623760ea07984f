/- Whether an integer lies within bounds (of XIn, for seats that lack the rest). -/
import Derived.Test.YtbblohjldkpcnaaRowKit
namespace Go.Proofs.Ytbblohjldkpcnaa
open Go Go.ChangeShapes Go.WideShapes Go.ChangeAt Go.RowKit

theorem ret_bool {a b : Bool} (h : a = b) : Ending.returned (.bool a) = .returned (.bool b) := by rw [h]
def inB (n a b : Int) : Bool := decide (a ≤ n) && decide (n ≤ b)
theorem inB_yes {n a b : Int} (h1 : a ≤ n) (h2 : n ≤ b) : inB n a b = true := by simp [inB, h1, h2]
theorem inB_lo {n a b : Int} (h : n < a) : inB n a b = false := by simp [inB]; omega
theorem inB_hi {n a b : Int} (h : b < n) : inB n a b = false := by simp [inB]; omega
theorem inB_rng {n a b : Int} (h : inB n a b = true) : a ≤ n ∧ n ≤ b := by
  unfold inB at h
  simpa using h
end Go.Proofs.Ytbblohjldkpcnaa
