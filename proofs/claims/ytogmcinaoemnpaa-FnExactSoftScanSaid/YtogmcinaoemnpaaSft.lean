
/- Softness: the factor of a place is at most 1, so that what it softens stays finite: what is asked of it, and what follows. -/
import Derived.Test.YtogmcinaoemnpaaPhaA
import Derived.Test.YtogmcinaoemnpaaHelP
import Derived.Test.YtogmcinaoemnpaaHalf
namespace Go.Proofs.Ytogmcinaoemnpaa
set_option linter.all false
open Go Go.ChangeShapes Go.WideShapes Go.ChangeAt Go.RowKit

/-- The part of a place, the cosine of half of it, and the factors. -/
def sfT (i n : Nat) : Nat := fbin .quo .f32 (floatOfInt .f32 (i : Int)) (floatOfInt .f32 (n : Int))
def sfY (t : Nat) : Nat := fconv .f32 (fbin .mul .f32 1056964608 t) .f64
def sfC (t : Nat) : Nat := (phaT (sfY t)).1
def sfW (t : Nat) : Nat := fbin .mul .f32 1056964608 (fbin .add .f32 1065353216 (sfC t))
def sfL (t : Nat) : Nat := fbin .sub .f32 1065353216 t
/-- A number of at most 1, and at least -1. -/
def leOne (w : Nat) : Bool := match FloatKind.decode .f32 w with
  | .number _ m e => decide (e ≤ 0) && decide (m ≤ 2 ^ (-e).toNat)
  | _ => false
def sfRow (n : Nat) : Bool := (List.range n).all fun i => ((n % 2 == 0) && (i % 2 == 0)) || (leOne (sfL (sfT i n)) && leOne (sfW (sfT i n)))
theorem leOne_val {w : Nat} (h : leOne w = true) : ∃ s m e, FloatKind.decode .f32 w = .number s m e ∧ (m : Rat) * two e ≤ 1 := by
  unfold leOne at h
  split at h
  · rename_i s m e hd
    simp only [Bool.and_eq_true, decide_eq_true_eq] at h
    refine ⟨s, m, e, hd, ?_⟩
    obtain ⟨k, hk⟩ : ∃ k : Nat, e = -(k : Int) := ⟨(-e).toNat, by omega⟩
    subst hk
    have h2 : m ≤ 2 ^ k := by simpa using h.2
    have h3 : (m : Rat) ≤ ((2 ^ k : Nat) : Rat) := by exact_mod_cast h2
    have h4 := Rat.mul_le_mul_of_nonneg_right h3 (Rat.le_of_lt (two_pos (-(k : Int))))
    rw [← two_nat, ← two_add, show (k : Int) + -(k : Int) = 0 by omega, two_zero] at h4
    exact h4
  · cases h
theorem leOne_fin {x w : Nat} (hx : isFin .f32 x = true) (hw : leOne w = true) : isFin .f32 (fbin .mul .f32 x w) = true := by
  obtain ⟨s, m, e, hd⟩ := fin_dec hx
  obtain ⟨t, n, j, hd2, hv⟩ := leOne_val hw
  have hl := dec_le hd
  rw [fmul, hd, hd2]
  refine num_isFin (s := s ^^ t) (m := m * n) (e := e + j) ?_
  rw [natCast_mul, two_add]
  have h0 : (0 : Rat) ≤ (m : Rat) * two e := Rat.mul_nonneg (natCast_nonneg m) (Rat.le_of_lt (two_pos e))
  have h1 := Rat.mul_le_mul_of_nonneg_left hv h0
  rw [Rat.mul_one] at h1
  have h2 : (16777215 : Rat) * two 104 < 33554431 * two 103 := by decide +kernel
  have h3 : (m : Rat) * (n : Rat) * (two e * two j) = (m : Rat) * two e * ((n : Rat) * two j) := by grind
  rw [h3]
  grind
end Go.Proofs.Ytogmcinaoemnpaa
