
/- What is no finite number stays none, through sums, squares, quotients and roots. -/
import Derived.Test.YtogmcinaoemnpabAbsW
namespace Go.Proofs.Ytogmcinaoemnpab
open Go Go.RowKit

/-- What is no number stays none. -/
theorem nf_cases {x : Nat} (h : isFin .f32 x = false) : isNaN .f32 x = true ∨ ∃ s, FloatKind.f32.format.read x = .infinity s := by
  rcases isFin_cases .f32 x with hn | hi | ⟨s, m, e, hr⟩
  · exact .inl hn
  · exact .inr hi
  · have hd : FloatKind.decode .f32 x = .number s m e := hr
    unfold isFin at h
    rw [hd] at h
    cases h
theorem nf_qnan : isFin .f32 (qnan .f32) = false := by decide +kernel
theorem nf_inf (s : Bool) : isFin .f32 (FloatKind.f32.format.write (.infinity s)) = false := by cases s <;> decide +kernel
theorem nf_of {o : Option Ieee.Datum} (h : ∀ d, o = some d → ∃ s, d = .infinity s) : isFin .f32 ((o.map FloatKind.f32.format.write).getD (qnan .f32)) = false := by
  cases o with
  | none => exact nf_qnan
  | some d =>
    obtain ⟨s, rfl⟩ := h d rfl
    exact nf_inf s
theorem nf_add_l {x y : Nat} (h : isFin .f32 x = false) : isFin .f32 (fbin .add .f32 x y) = false := by
  rcases nf_cases h with hn | ⟨s, hr⟩
  · have : fbin .add .f32 x y = qnan .f32 := by simp [fbin, floatBits_left hn]
    rw [this]; exact nf_qnan
  · show isFin .f32 ((((FloatKind.f32.format.read x).sum (FloatKind.f32.format.read y)).map FloatKind.f32.format.write).getD (qnan .f32)) = false
    rw [hr]
    refine nf_of fun d hd => ?_
    cases hy : FloatKind.f32.format.read y with
    | nan => rw [hy] at hd; cases hd
    | infinity t => rw [hy] at hd; cases s <;> cases t <;> cases hd <;> exact ⟨_, rfl⟩
    | number t m e => rw [hy] at hd; cases hd; exact ⟨_, rfl⟩
theorem nf_add_r {x y : Nat} (h : isFin .f32 y = false) : isFin .f32 (fbin .add .f32 x y) = false := by
  rcases nf_cases h with hn | ⟨s, hr⟩
  · have : fbin .add .f32 x y = qnan .f32 := by simp [fbin, floatBits_right hn]
    rw [this]; exact nf_qnan
  · show isFin .f32 ((((FloatKind.f32.format.read x).sum (FloatKind.f32.format.read y)).map FloatKind.f32.format.write).getD (qnan .f32)) = false
    rw [hr]
    refine nf_of fun d hd => ?_
    cases hy : FloatKind.f32.format.read x with
    | nan => rw [hy] at hd; cases hd
    | infinity t => rw [hy] at hd; cases s <;> cases t <;> cases hd <;> exact ⟨_, rfl⟩
    | number t m e => rw [hy] at hd; cases hd; exact ⟨_, rfl⟩
theorem nf_sub_r {x y : Nat} (h : isFin .f32 y = false) : isFin .f32 (fbin .sub .f32 x y) = false := by
  rcases nf_cases h with hn | ⟨s, hr⟩
  · have : fbin .sub .f32 x y = qnan .f32 := by simp [fbin, floatBits_right hn]
    rw [this]; exact nf_qnan
  · show isFin .f32 ((((FloatKind.f32.format.read x).sum (FloatKind.f32.format.read y).opposite).map FloatKind.f32.format.write).getD (qnan .f32)) = false
    rw [hr]
    refine nf_of fun d hd => ?_
    cases hy : FloatKind.f32.format.read x with
    | nan => rw [hy] at hd; cases hd
    | infinity t => rw [hy] at hd; cases s <;> cases t <;> cases hd <;> exact ⟨_, rfl⟩
    | number t m e => rw [hy] at hd; cases hd; exact ⟨_, rfl⟩
theorem nf_sq {x : Nat} (h : isFin .f32 x = false) : isFin .f32 (fbin .mul .f32 x x) = false := by
  rcases nf_cases h with hn | ⟨s, hr⟩
  · have : fbin .mul .f32 x x = qnan .f32 := by simp [fbin, floatBits_left hn]
    rw [this]; exact nf_qnan
  · show isFin .f32 ((((FloatKind.f32.format.read x).product (FloatKind.f32.format.read x)).map FloatKind.f32.format.write).getD (qnan .f32)) = false
    rw [hr]
    exact nf_of fun d hd => by cases hd; exact ⟨_, rfl⟩
theorem nf_quo_l {x y : Nat} (h : isFin .f32 x = false) (_ : isFin .f32 y = true) : isFin .f32 (fbin .quo .f32 x y) = false := by
  rcases nf_cases h with hn | ⟨s, hr⟩
  · have : fbin .quo .f32 x y = qnan .f32 := by simp [fbin, floatBits_left hn]
    rw [this]; exact nf_qnan
  · show isFin .f32 ((((FloatKind.f32.format.read x).quotient 25 (FloatKind.f32.format.read y)).map FloatKind.f32.format.write).getD (qnan .f32)) = false
    rw [hr]
    refine nf_of fun d hd => ?_
    cases hy : FloatKind.f32.format.read y with
    | nan => rw [hy] at hd; cases hd
    | infinity t => rw [hy] at hd; cases hd
    | number t m e => rw [hy] at hd; cases hd; exact ⟨_, rfl⟩
theorem nf_root {x : Nat} (h : isFin .f32 x = false) : isFin .f32 (fconv .f64 ((Ieee.double.sqrt (fconv .f32 x .f64)).getD (qnan .f64)) .f32) = false := by
  rcases nf_cases h with hn | ⟨s, hr⟩
  · have e1 : isNaN .f64 (fconv .f32 x .f64) = true := by rw [isNaN_fconv, hn]
    have e2 : Ieee.double.sqrt (fconv .f32 x .f64) = none := by
      obtain ⟨s, t, e⟩ := nan_of e1
      have e' : Ieee.double.read (fconv .f32 x .f64) = .nan s t := e
      simp [Ieee.Format.sqrt, e', Ieee.Datum.root]
    rw [e2]
    have : fconv .f64 (qnan .f64) .f32 = qnan .f32 := by decide +kernel
    exact (congrArg (isFin .f32) this).trans nf_qnan
  · have hd : FloatKind.decode .f32 x = .infinity s := hr
    have hn : isNaN .f32 x = false := by unfold isNaN; rw [hd]; rfl
    have e1 : fconv .f32 x .f64 = FloatKind.f64.encode (.infinity s) := by unfold fconv; rw [hn, if_neg (by simp), hd]
    rw [e1]
    cases s <;> decide +kernel
end Go.Proofs.Ytogmcinaoemnpab
