
/- The place of a wave: what it comes to. -/
import Derived.Test.YtbblohjldkpcnabWav
import Derived.Test.YtbblohjldkpcnabHwP
import Derived.Test.YtbblohjldkpcnabGeA
import Derived.Test.YtbblohjldkpcnabRo
namespace Go.Proofs.Ytbblohjldkpcnab
set_option linter.all false
open Go Go.ChangeShapes Go.WideShapes Go.ChangeAt Go.RowKit

def lsF (x y : Nat) : Bool := FloatKind.f32.format.order x y == some .lt
def geF (a b : Nat) : Bool := FloatKind.f32.format.order a b == some .gt || FloatKind.f32.format.order a b == some .eq
def midF (l h : Nat) : Nat := fbin .mul .f32 1056964608 (fbin .add .f32 l h)
/-- The rounds: between what the place lies, if no round fails. -/
def plR (X : Nat → Nat) (n wave : Nat) (up : Bool) : Nat → Nat → Nat → Option (Nat × Nat)
  | 0, l, h => some (l, h)
  | r + 1, l, h => if isFin .f32 (atW X n (midF l h) n) = true then (if (lsF (atW X n (midF l h) n) wave == up) = true then plR X n wave up r (midF l h) h else plR X n wave up r l (midF l h)) else none
theorem mul_zero_nan {p : Nat} (h : isFin .f32 p = false) : isNaN .f32 (fbin .mul .f32 0 p) = true := by
  cases hn : isNaN .f32 p
  · cases hd : FloatKind.decode .f32 p with
    | nan s t => simp [isNaN, hd, Ieee.Datum.isNaN] at hn
    | number s m e => simp [isFin, hd, Ieee.Datum.isNaN, Ieee.Datum.isInfinity] at h
    | infinity s =>
      have hd' : FloatKind.f32.format.read p = .infinity s := hd
      have hz : FloatKind.f32.format.read 0 = .number false 0 (-149) := by decide +kernel
      have : fbin .mul .f32 0 p = qnan .f32 := by simp [fbin, floatBits, Ieee.Format.mul, hd', hz, Ieee.Datum.product]
      rw [this]; exact isNaN_qnan _
  · have : fbin .mul .f32 0 p = qnan .f32 := fbin_nan_r hn
    rw [this]; exact isNaN_qnan _
theorem fbin_nan_l {op : BinOp} {x y : Nat} (h : isNaN .f32 x = true) : isNaN .f32 (fbin op .f32 x y) = true := by
  have : fbin op .f32 x y = qnan .f32 := by unfold fbin; rw [floatBits_left h]; rfl
  rw [this]; exact isNaN_qnan _
theorem atW_nan (X : Nat → Nat) (n p : Nat) (h : isFin .f32 p = false) : ∀ k, isNaN .f32 (atW X n p (k + 1)) = true := by
  intro k
  induction k with
  | zero => exact fbin_nan_l (mul_zero_nan h)
  | succ k ih => exact fbin_nan_l (fbin_nan_l ih)
theorem fin_of_at {X : Nat → Nat} {n p : Nat} (h1 : 1 ≤ n) (h : isFin .f32 (atW X n p n) = true) : isFin .f32 p = true := by
  cases hp : isFin .f32 p
  · obtain ⟨k, rfl⟩ : ∃ k, n = k + 1 := ⟨n - 1, by omega⟩
    have := atW_nan X (k + 1) p hp k
    rw [num_fin h] at this
    cases this
  · rfl
end Go.Proofs.Ytbblohjldkpcnab
