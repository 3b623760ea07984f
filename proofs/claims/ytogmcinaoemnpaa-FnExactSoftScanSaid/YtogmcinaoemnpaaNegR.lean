
/- 0 less a number, divided, is 0 less the quotient, but for the sign of a zero. -/
import Derived.Test.YtogmcinaoemnpaaNegQ
namespace Go.Proofs.Ytogmcinaoemnpaa
open Go Go.RowKit

/-- The same, or both a zero. -/
def SameZ (a b : Nat) : Prop := a = b ∨ ((a = 0 ∨ a = 2147483648) ∧ b = 0)
theorem word_zero (s : Bool) : Ieee.single.word s 0 = 0 ∨ Ieee.single.word s 0 = 2147483648 := by cases s; exact .inl rfl; exact .inr rfl
theorem quo_num (t : Bool) (n : Nat) (j : Int) (hn : n ≠ 0) (M : Nat) (i : Int) : ∃ Q, Q ≤ 2139095040 ∧ ∀ a, (((Ieee.Datum.number a M i).quotient 25 (.number t n j)).map Ieee.single.write).getD (qnan .f32) = Ieee.single.word (a ^^ t) Q := by
  refine ⟨rungN (2 * ((M <<< (25 + n.log2 - M.log2)) / n) + ((M <<< (25 + n.log2 - M.log2)) % n != 0).toNat) (i - j - ((25 + n.log2 - M.log2 : Nat) : Int) - 1), rungN_le _ _, fun a => ?_⟩
  simp only [Ieee.Datum.quotient, if_neg hn]
  rw [Option.map_some, Option.getD_some]
  show Ieee.single.nearest _ _ _ = _
  rw [nearest_word]
theorem quo_word (r : Nat) (hr : r ≤ 2139095040) {sp n : Nat} {t : Bool} {j : Int} (hsp : FloatKind.decode .f32 sp = .number t n j) (hn : n ≠ 0) : ∃ Q, Q ≤ 2139095040 ∧ ∀ a, fbin .quo .f32 (Ieee.single.word a r) sp = Ieee.single.word (a ^^ t) Q := by
  have hsp' : Ieee.single.read sp = _ := hsp
  have quo : ∀ w, fbin .quo .f32 w sp = (((Ieee.single.read w).quotient 25 (.number t n j)).map Ieee.single.write).getD (qnan .f32) := fun w => by rw [← hsp']; rfl
  have hw := fun s => read_wordS s r (by omega)
  have hw' : ∀ s, Ieee.single.read (Ieee.single.word s r) = _ := hw
  by_cases h1 : r < 8388608
  · obtain ⟨Q, hQ, h⟩ := quo_num t n j hn r (-149)
    exact ⟨Q, hQ, fun a => by rw [quo, hw' a, if_pos h1]; exact h a⟩
  · by_cases h2 : r < 2139095040
    · obtain ⟨Q, hQ, h⟩ := quo_num t n j hn (8388608 + r % 8388608) (-149 + ((r / 8388608 - 1 : Nat) : Int))
      exact ⟨Q, hQ, fun a => by rw [quo, hw' a, if_neg h1, if_pos h2]; exact h a⟩
    · refine ⟨2139095040, Nat.le_refl _, fun a => ?_⟩
      have h3 : r = 2139095040 := by omega
      rw [quo, hw' a, if_neg h1, if_neg h2, if_pos h3]
      rfl
theorem neg_quo (s : Bool) (r : Nat) (hr : r ≤ 2139095040) {sp n : Nat} {t : Bool} {j : Int} (hsp : FloatKind.decode .f32 sp = .number t n j) (hn : n ≠ 0) :
    SameZ (fbin .quo .f32 (fbin .sub .f32 0 (Ieee.single.word s r)) sp) (fbin .sub .f32 0 (fbin .quo .f32 (Ieee.single.word s r) sp)) := by
  have hsp' : Ieee.single.read sp = _ := hsp
  have quo : ∀ w, fbin .quo .f32 w sp = (((Ieee.single.read w).quotient 25 (.number t n j)).map Ieee.single.write).getD (qnan .f32) := fun w => by rw [← hsp']; rfl
  have hw := fun s => read_wordS s r (by omega)
  have hw' : ∀ s, Ieee.single.read (Ieee.single.word s r) = _ := hw
  rw [sub_zero s r hr]
  by_cases h0 : r = 0
  · subst h0
    rw [if_pos rfl]
    have hz : ∀ s, Ieee.single.read (Ieee.single.word s 0) = .number s 0 (-149) := fun s => by rw [hw' s, if_pos (by omega)]
    have q0 : ∀ s, fbin .quo .f32 (Ieee.single.word s 0) sp = Ieee.single.word (s ^^ t) 0 := fun s => by
      rw [quo, hz s]
      simp only [Ieee.Datum.quotient, if_neg hn, Nat.zero_shiftLeft, Nat.zero_div, Nat.mul_zero, Nat.zero_mod, bne_self_eq_false, Bool.toNat_false, Nat.add_zero]
      rw [Option.map_some, Option.getD_some]
      show Ieee.single.nearest _ _ _ = _
      rw [nearest_word]
      rfl
    have e0 : (0 : Nat) = Ieee.single.word false 0 := rfl
    rw [q0 s, sub_zero _ _ (by omega), if_pos rfl]
    refine .inr ⟨?_, rfl⟩
    have := q0 false
    rw [← e0] at this
    rw [this]
    exact word_zero _
  · rw [if_neg h0]
    have hx : ∀ a : Bool, ((!a) ^^ t) = !(a ^^ t) := fun a => by cases a <;> cases t <;> rfl
    -- what the quotient is, whatever the sign
    have key : ∃ Q, Q ≤ 2139095040 ∧ ∀ a, fbin .quo .f32 (Ieee.single.word a r) sp = Ieee.single.word (a ^^ t) Q := by
      by_cases h1 : r < 8388608
      · obtain ⟨Q, hQ, h⟩ := quo_num t n j hn r (-149)
        exact ⟨Q, hQ, fun a => by rw [quo, hw' a, if_pos h1]; exact h a⟩
      · by_cases h2 : r < 2139095040
        · obtain ⟨Q, hQ, h⟩ := quo_num t n j hn (8388608 + r % 8388608) (-149 + ((r / 8388608 - 1 : Nat) : Int))
          exact ⟨Q, hQ, fun a => by rw [quo, hw' a, if_neg h1, if_pos h2]; exact h a⟩
        · refine ⟨2139095040, Nat.le_refl _, fun a => ?_⟩
          have h3 : r = 2139095040 := by omega
          rw [quo, hw' a, if_neg h1, if_neg h2, if_pos h3]
          rfl
    obtain ⟨Q, hQ, hq⟩ := key
    rw [hq, hq, sub_zero _ _ hQ]
    by_cases hz : Q = 0
    · rw [if_pos hz, hz]
      exact .inr ⟨word_zero _, rfl⟩
    · rw [if_neg hz, hx]
      exact .inl rfl
/-- .. for any number that is not a not-a-number. -/
theorem neg_quo_any {w sp n : Nat} {t : Bool} {j : Int} (hw : w < 4294967296) (hnan : isNaN .f32 w = false) (hsp : FloatKind.decode .f32 sp = .number t n j) (hn : n ≠ 0) :
    SameZ (fbin .quo .f32 (fbin .sub .f32 0 w) sp) (fbin .sub .f32 0 (fbin .quo .f32 w sp)) := by
  obtain ⟨s, r, hr, rfl⟩ := word_of w hw
  refine neg_quo s r ?_ hsp hn
  have h := read_wordS s r hr
  unfold isNaN at hnan
  rw [h] at hnan
  by_cases h1 : r ≤ 2139095040
  · exact h1
  · rw [if_neg (by omega), if_neg (by omega), if_neg (by omega)] at hnan
    cases hnan
end Go.Proofs.Ytogmcinaoemnpaa
