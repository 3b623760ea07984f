
/- A scan of lines: what it comes to. -/
import Derived.Test.YtbblohjldkpcnabPhaA
import Derived.Test.YtbblohjldkpcnabPrs
import Derived.Test.YtbblohjldkpcnabArr
import Derived.Test.YtbblohjldkpcnabPush
import Derived.Test.YtbblohjldkpcnabLaw
namespace Go.Proofs.Ytbblohjldkpcnab
set_option linter.all false
open Go Go.ChangeShapes Go.WideShapes Go.ChangeAt Go.RowKit

theorem phaT_pick (Y s : Nat) : phaT (pick .f64 Y s) = phaT Y := by
  cases hn : isNaN .f64 Y
  · rw [pick_num hn]
  · have hf : isFin .f64 Y = false := by unfold isFin; unfold isNaN at hn; rw [hn]; rfl
    have hf' : isFin .f64 (pick .f64 Y s) = false := by rw [isFin_pick, hf]
    unfold phaT
    rw [if_neg (by rw [hf']; simp), if_neg (by rw [hf]; simp)]
/-- The turns of a line at a place, the part of its phasor, and its term. -/
def scZ (X : Nat → Nat) (step : Nat) (i : Int) (k : Nat) : Nat := fconv .f32 (fbin .mul .f32 (X k) (fbin .mul .f32 (floatOfInt .f32 i) step)) .f64
def scT (X V : Nat → Nat) (step : Nat) (i : Int) (k : Nat) : Nat := fbin .mul .f32 (V k) (fbin .add .f32 1065353216 (phaT (scZ X step i k)).1)
def scS (X V : Nat → Nat) (step : Nat) (i : Int) : Nat → Nat
  | 0 => 0
  | k + 1 => fbin .add .f32 (scS X V step i k) (scT X V step i k)
def scR (X V : Nat → Nat) (step n : Nat) (j : Nat) : Nat := scS X V step (j : Int) n
def scOk (X V : Nat → Nat) (n m step : Nat) (N : Int) : Bool := (prsB X V n m 1 16 && isFin .f32 step) && (decide (2 ≤ N) && decide (N ≤ 64))
theorem scZ_lt (X : Nat → Nat) (step : Nat) (i : Int) (k s : Nat) : pick .f64 (scZ X step i k) s < 18446744073709551616 := by
  have := pick_wf (fconv_wf .f32 (fbin .mul .f32 (X k) (fbin .mul .f32 (floatOfInt .f32 i) step)) .f64) s
  simpa [Lit.wf, scZ] using this
set_option maxHeartbeats 800000 in
theorem isScanLength_any (N : Int) (w : World) : Calls Try.prog 96 #[.int .i64 N] w fun e w' => e = .returned (.bool (decide (2 ≤ N) && decide (N ≤ 64))) ∧ w' = w := by
  cases h1 : decide (2 ≤ N)
  · go_enter Try.func96, Try.ntmps96
    go_wp2
    go_ret
    exact ⟨rfl, rfl⟩
  · go_enter Try.func96, Try.ntmps96
    go_wp2
    go_ret
    exact ⟨rfl, rfl⟩
end Go.Proofs.Ytbblohjldkpcnab
