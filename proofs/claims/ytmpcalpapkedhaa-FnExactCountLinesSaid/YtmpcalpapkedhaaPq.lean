
/- A number greater than zero; a quotient by it is not a not-a-number (a part of XLat, for seats that lack the rest). -/
import Derived.Test.YtmpcalpapkedhaaPush
import Derived.Test.YtmpcalpapkedhaaRo
import Derived.Test.YtmpcalpapkedhaaGeA
namespace Go.Proofs.Ytmpcalpapkedhaa
open Go Go.ChangeShapes Go.WideShapes Go.ChangeAt Go.RowKit

theorem pos_read {d : Nat} (h : isP d = true) : ∃ s m e, FloatKind.f32.format.read d = .number s m e ∧ m ≠ 0 := by
  unfold isP at h
  rw [Bool.and_eq_true] at h
  obtain ⟨s, m, e, hr⟩ := fin_read h.1
  refine ⟨s, m, e, hr, fun h0 => ?_⟩
  subst h0
  have h2 := h.2
  have hz : FloatKind.f32.format.read 0 = .number false 0 (-149) := by decide +kernel
  unfold Ieee.Format.order at h2
  rw [hr, hz] at h2
  simp [Ieee.Datum.order, Ieee.signed] at h2
theorem nan_quo_pos {a d : Nat} (ha : isNaN .f32 a = false) (hd : ∃ s m e, FloatKind.f32.format.read d = .number s m e ∧ m ≠ 0) : isNaN .f32 (fbin .quo .f32 a d) = false := by
  obtain ⟨s, m, e, h1, h0⟩ := hd
  apply some_num
  show (((FloatKind.f32.format.read a).quotient 25 (FloatKind.f32.format.read d)).map FloatKind.f32.format.write).isSome = true
  rcases num_read ha with ⟨t, h2⟩ | ⟨t, n, f, h2⟩
  · rw [h1, h2]; rfl
  · rw [h1, h2]
    simp [Ieee.Datum.quotient, h0]
theorem leq_of {x y : Nat} (hx : isNaN .f32 x = false) (hy : isNaN .f32 y = false) : (FloatKind.f32.format.order x y == some .lt || FloatKind.f32.format.order x y == some .eq) = !(FloatKind.f32.format.order x y == some .gt) := by
  have : FloatKind.f32.format.order x y ≠ none := by
    unfold Ieee.Format.order
    unfold isNaN FloatKind.decode at hx hy
    cases h1 : FloatKind.f32.format.read x <;> cases h2 : FloatKind.f32.format.read y <;> simp_all [Ieee.Datum.isNaN, Ieee.Datum.order]
  cases ho : FloatKind.f32.format.order x y with
  | none => exact absurd ho this
  | some o => cases o <;> rfl
theorem isP_fin {x : Nat} (h : isP x = true) : isFin .f32 x = true := by
  unfold isP at h
  rw [Bool.and_eq_true] at h
  exact h.1
end Go.Proofs.Ytmpcalpapkedhaa
